/-
  Memory: blocks of the call's own; a slice of ints; a form (a tree of structs and slices) as it lies in memory below a block number. No program is named.
  Memory: a slice of texts; a part of a program (a tree of structs and slices) as it lies in memory. No program is named.
  (*strings.Builder).WriteString and String, of a builder that is the first field of a coreShower of the call's own. Condition: what it holds is not too long.
-/
import Derived.WalkKit
import Derived.WalkSpells
import Derived.WalkLawsBesides
import Derived.Test.YtkpamgabhlplfaaProg
import Derived.Lib.Builder
import Derived.Lib.AppendStr
import Derived.Laws.Externs
import Derived.Lib.UnsafeStr
namespace Go.Siskin
open Go.RowKit

/-- A fact kept from the walk. -/
theorem hid {p : Prop} (h : p) : Hid p := h

/-- A block of cells, nothing of it frozen. -/
def Own (w : World) (g : Nat) (e : TypeId) (cs : Array Value) : Prop := w.heap[g]? = some (.cells cs e (0, 0))

theorem Own.cell {w : World} {g : Nat} {e : TypeId} {cs : Array Value} (h : Own w g e cs) (i : Nat) : w.cell? ⟨g, i, none⟩ = cs[i]? := by
  unfold Own at h; simp [World.cell?, h]
theorem Own.frozen {w : World} {g : Nat} {e : TypeId} {cs : Array Value} (h : Own w g e cs) (i : Nat) : w.frozen? ⟨g, i, none⟩ = false := by
  unfold Own at h; simp [World.frozen?, h]
theorem Own.set {w : World} {g : Nat} {e : TypeId} {cs : Array Value} (h : Own w g e cs) (i : Nat) (v : Value) : Own (w.setCell ⟨g, i, none⟩ v) g e (cs.setIfInBounds i v) := by
  unfold Own at h ⊢; simp [World.setCell, Array.getElem?_modify, h]
theorem Own.keep {B : Nat} {w w' : World} {g : Nat} {e : TypeId} {cs : Array Value} (h : Own w g e cs) (hb : Below B w w') (hg : g < B) : Own w' g e cs := (hb.block g hg).trans h
theorem Own.lt {w : World} {g : Nat} {e : TypeId} {cs : Array Value} (h : Own w g e cs) : g < w.heap.size := by
  unfold Own at h
  exact (Array.getElem?_eq_some_iff.1 h).1
theorem own_new (w : World) (cs : Array Value) (e : TypeId) : Own (w.alloc (.cells cs e)) w.heap.size e cs := by
  show (w.heap.push (.cells cs e))[w.heap.size]? = _
  simp

/-- What lies below B reads as it did. -/
theorem bcell {W w1 : World} (hb : Below W.heap.size W w1) : (∀ b o, b < W.heap.size → w1.cell? ⟨b, o, none⟩ = W.cell? ⟨b, o, none⟩) ∧ (∀ b o, b < W.heap.size → w1.frozen? ⟨b, o, none⟩ = W.frozen? ⟨b, o, none⟩) :=
  ⟨fun b o h => hb.cell (p := ⟨b, o, none⟩) h, fun b o h => hb.frozen (p := ⟨b, o, none⟩) h⟩

/-- 'make([]T, n)': a new block of n zero elements. -/
theorem wpList_make_new {P : Program} (w : World) {ops : Array Oper} {rest : List Oper} {o : Oper} {a : Act} {Q : Exit → Act → World → Prop}
    (hg : o.guard = none) (l c : Operand) (t : TypeId) (hop : o.op = Op.makeSlice t l c)
    (e : TypeId) (i : TypeInfo) (z : Value) (size : Nat) (h1 : P.underlying t = some (.slice e)) (h2 : P.info? e = some i) (h3 : i.zero = some z) (h4 : i.size = size)
    (kl kc : IntKind) (n : Nat) (hl : a.eval l = .int kl (n : Int)) (hc : a.eval c = .int kc (n : Int)) (b2 : i.bytes * n ≤ 281474976710656) (b3 : n ≤ maxLen)
    (hK : wpList P ops Q rest (a.put o.dst (.slice (some ⟨w.heap.size, 0, none⟩) n n)) (w.alloc (.cells (madeCells z.cells (n * size)) e))) :
    wpList P ops Q (o :: rest) a w := by
  refine wpList_plain hg fun K hK' => ?_
  subst h4
  have h63 : (n : Int) ≤ 9223372036854775807 := by
    have h := b3
    simp [maxLen] at h
    omega
  have hb' : (i.bytes : Int) * (n : Int) ≤ 281474976710656 := by
    have h : ((i.bytes * n : Nat) : Int) ≤ 281474976710656 := by omega
    rwa [Int.natCast_mul] at h
  have hr := run_make (P := P) w t e i z h1 h2 h3 kl kc n n (by omega) (Int.le_refl _) hb' h63
  simp only [Int.toNat_natCast] at hr
  unfold Oper.wp
  simp [execOp, hop, hl, hc, hr, Result.andThen]
  exact hK' _ _ hK

/-- The blocks of R are the same in two worlds. -/
def SameOn (R : Nat → Prop) (w w' : World) : Prop := ∀ b, R b → w'.heap[b]? = w.heap[b]?
theorem SameOn.refl (R : Nat → Prop) (w : World) : SameOn R w w := fun _ _ => rfl
theorem SameOn.trans {R : Nat → Prop} {a b c : World} (h : SameOn R a b) (k : SameOn R b c) : SameOn R a c := fun i hi => (k i hi).trans (h i hi)
theorem SameOn.alloc {R : Nat → Prop} {a w : World} (h : SameOn R a w) (hR : ∀ b, R b → b < w.heap.size) (o : Obj) : SameOn R a (w.alloc o) :=
  fun b hb => (Below.heap_alloc w o b (hR b hb)).trans (h b hb)
theorem SameOn.setCell {R : Nat → Prop} {a w : World} (h : SameOn R a w) {p : Addr} (hp : ¬ R p.block) (u : Value) : SameOn R a (w.setCell p u) :=
  fun b hb => (Below.heap_setCell w p u b (fun e => hp (e ▸ hb))).trans (h b hb)
theorem SameOn.below {R : Nat → Prop} {a w w' : World} (h : SameOn R a w) {N : Nat} (hb : Below N w w') (hR : ∀ b, R b → b < N) : SameOn R a w' :=
  fun b hb' => (hb.block b (hR b hb')).trans (h b hb')
theorem _root_.Go.RowKit.Below.on {R : Nat → Prop} {w w' : World} {N : Nat} (hb : Below N w w') (hR : ∀ b, R b → b < N) : SameOn R w w' := (SameOn.refl R w).below hb hR
theorem SameOn.cell {R : Nat → Prop} {w w' : World} (h : SameOn R w w') {b : Nat} (hb : R b) (o : Nat) : w'.cell? ⟨b, o, none⟩ = w.cell? ⟨b, o, none⟩ := World.cell?_of_block (w := w) (h b hb)
theorem SameOn.drew (R : Nat → Prop) (w : World) : SameOn R w w.drew := fun _ _ => rfl
/-- The blocks that are new in w'. -/
def Fresh (w w' : World) (b : Nat) : Prop := w.heap.size ≤ b ∧ b < w'.heap.size

/-- A slice of ints that lies in blocks of R. -/
def IntsAt (B : Nat → Prop) (w : World) (v : Value) (xs : List Int) : Prop :=
  ∃ a cap, v = .slice a xs.length cap ∧ (xs.length ≤ maxLen ∧ xs.length ≤ cap) ∧ (xs = [] ∨ ∃ b o, a = some ⟨b, o, none⟩ ∧ B b ∧ ∀ i, i < xs.length → w.cell? ⟨b, o + i, none⟩ = some (.int .i64 (xs.getD i 0)))

theorem IntsAt.keep {B : Nat → Prop} {w w' : World} {v : Value} {xs : List Int} (h : IntsAt B w v xs) (hb : SameOn B w w') : IntsAt B w' v xs := by
  obtain ⟨a, cap, e, hl, h⟩ := h
  refine ⟨a, cap, e, hl, ?_⟩
  rcases h with h | ⟨b, o, e, hB, h⟩
  · exact Or.inl h
  · exact Or.inr ⟨b, o, e, hB, fun i hi => (hb.cell hB (o + i)).trans (h i hi)⟩
theorem IntsAt.mono {B B' : Nat → Prop} {w : World} {v : Value} {xs : List Int} (h : IntsAt B w v xs) (hb : ∀ b, B b → B' b) : IntsAt B' w v xs := by
  obtain ⟨a, cap, e, hl, h⟩ := h
  refine ⟨a, cap, e, hl, ?_⟩
  rcases h with h | ⟨b, o, e, hB, h⟩
  · exact Or.inl h
  · exact Or.inr ⟨b, o, e, hb b hB, h⟩

/-- A form: its sort, its text, its scopes, its From, its kids. -/
structure Fm where
  sort : Int
  text : ByteArray
  scopes : List Int
  frm : Int
  kids : List Fm

/-- No form. -/
def Fm.no : Fm := ⟨0, ⟨#[]⟩, [], 0, []⟩

/-- How many forms a form is. -/
def Fm.sz : Fm → Nat
  | ⟨_, _, _, _, ks⟩ => 1 + (ks.map fun k => k.sz).sum
def Fm.szs (ks : List Fm) : Nat := (ks.map Fm.sz).sum
/-- What the law's own count takes of a form. -/
def Fm.cost : Fm → Nat
  | ⟨_, t, sc, _, ks⟩ => t.size + sc.length + ks.length + (ks.map fun k => k.cost).sum
def Fm.costs (ks : List Fm) : Nat := (ks.map Fm.cost).sum

theorem Fm.szs_nil : Fm.szs [] = 0 := rfl
theorem Fm.szs_cons (k : Fm) (r : List Fm) : Fm.szs (k :: r) = k.sz + Fm.szs r := by simp [Fm.szs]
theorem Fm.costs_nil : Fm.costs [] = 0 := rfl
theorem Fm.costs_cons (k : Fm) (r : List Fm) : Fm.costs (k :: r) = k.cost + Fm.costs r := by simp [Fm.costs]
theorem Fm.sz_kids (f : Fm) : f.sz = 1 + Fm.szs f.kids := by
  obtain ⟨s, t, sc, fr, ks⟩ := f
  rw [Fm.sz]; rfl
theorem Fm.cost_eq (f : Fm) : f.cost = f.text.size + f.scopes.length + f.kids.length + Fm.costs f.kids := by
  obtain ⟨s, t, sc, fr, ks⟩ := f
  rw [Fm.cost]; rfl

/-- A form's five cells, and what they lead to, all in blocks of B. -/
def FormAt (B : Nat → Prop) (w : World) : Fm → Value → Value → Value → Value → Value → Prop
  | ⟨s, t, sc, fr, ks⟩, c0, c1, c2, c3, c4 => c0 = .int .i64 s ∧ c1 = .string t ∧ t.size ≤ maxLen ∧ IntsAt B w c2 sc ∧ c3 = .int .i64 fr ∧
      ∃ a cap, c4 = .slice a ks.length cap ∧ ks.length ≤ maxLen ∧ (ks = [] ∨ ∃ b o, a = some ⟨b, o, none⟩ ∧ B b ∧ ∀ (i : Nat) (hi : i < ks.length),
        ∃ k0 k1 k2 k3 k4, w.cell? ⟨b, o + i * 5, none⟩ = some k0 ∧ w.cell? ⟨b, o + i * 5 + 1, none⟩ = some k1 ∧ w.cell? ⟨b, o + i * 5 + 2, none⟩ = some k2 ∧ w.cell? ⟨b, o + i * 5 + 3, none⟩ = some k3 ∧ w.cell? ⟨b, o + i * 5 + 4, none⟩ = some k4 ∧
          (have := List.sizeOf_lt_of_mem (List.getElem_mem hi); FormAt B w ks[i] k0 k1 k2 k3 k4))

/-- Forms that lie side by side from a cell on. -/
def RowAt (B : Nat → Prop) (w : World) (b o : Nat) (ks : List Fm) : Prop := ∀ (i : Nat) (hi : i < ks.length),
  ∃ k0 k1 k2 k3 k4, w.cell? ⟨b, o + i * 5, none⟩ = some k0 ∧ w.cell? ⟨b, o + i * 5 + 1, none⟩ = some k1 ∧ w.cell? ⟨b, o + i * 5 + 2, none⟩ = some k2 ∧ w.cell? ⟨b, o + i * 5 + 3, none⟩ = some k3 ∧ w.cell? ⟨b, o + i * 5 + 4, none⟩ = some k4 ∧ FormAt B w ks[i] k0 k1 k2 k3 k4

/-- A slice of forms. -/
def FormsAt (B : Nat → Prop) (w : World) (v : Value) (ks : List Fm) : Prop :=
  ∃ a cap, v = .slice a ks.length cap ∧ ks.length ≤ maxLen ∧ (ks = [] ∨ ∃ b o, a = some ⟨b, o, none⟩ ∧ B b ∧ RowAt B w b o ks)

theorem formAt_iff (B : Nat → Prop) (w : World) (f : Fm) (c0 c1 c2 c3 c4 : Value) : FormAt B w f c0 c1 c2 c3 c4 ↔
    c0 = .int .i64 f.sort ∧ c1 = .string f.text ∧ f.text.size ≤ maxLen ∧ IntsAt B w c2 f.scopes ∧ c3 = .int .i64 f.frm ∧ FormsAt B w c4 f.kids := by
  obtain ⟨s, t, sc, fr, ks⟩ := f
  rw [FormAt]; rfl

theorem RowAt.get {B : Nat → Prop} {w : World} {b : Nat} (ks : List Fm) {o : Nat} (h : RowAt B w b o ks) (i : Nat) (hi : i < ks.length) :
    ∃ c0 c1 c2 c3 c4, w.cell? ⟨b, o + i * 5, none⟩ = some c0 ∧ w.cell? ⟨b, o + i * 5 + 1, none⟩ = some c1 ∧ w.cell? ⟨b, o + i * 5 + 2, none⟩ = some c2 ∧ w.cell? ⟨b, o + i * 5 + 3, none⟩ = some c3 ∧ w.cell? ⟨b, o + i * 5 + 4, none⟩ = some c4 ∧ FormAt B w ks[i] c0 c1 c2 c3 c4 := h i hi
theorem RowAt.mk {B : Nat → Prop} {w : World} {b : Nat} (ks : List Fm) {o : Nat} (h : ∀ (i : Nat) (hi : i < ks.length),
    ∃ c0 c1 c2 c3 c4, w.cell? ⟨b, o + i * 5, none⟩ = some c0 ∧ w.cell? ⟨b, o + i * 5 + 1, none⟩ = some c1 ∧ w.cell? ⟨b, o + i * 5 + 2, none⟩ = some c2 ∧ w.cell? ⟨b, o + i * 5 + 3, none⟩ = some c3 ∧ w.cell? ⟨b, o + i * 5 + 4, none⟩ = some c4 ∧ FormAt B w ks[i] c0 c1 c2 c3 c4) : RowAt B w b o ks := h

theorem Fm.szs_get : ∀ (ks : List Fm) (i : Nat) (hi : i < ks.length), ks[i].sz ≤ Fm.szs ks
  | [], _, hi => absurd hi (Nat.not_lt_zero _)
  | k :: r, 0, _ => by rw [Fm.szs_cons]; simp
  | k :: r, i + 1, hi => by
    have := Fm.szs_get r i (by simpa using hi)
    simp only [List.getElem_cons_succ, Fm.szs_cons]; omega
theorem Fm.costs_get : ∀ (ks : List Fm) (i : Nat) (hi : i < ks.length), ks[i].cost ≤ Fm.costs ks
  | [], _, hi => absurd hi (Nat.not_lt_zero _)
  | k :: r, 0, _ => by rw [Fm.costs_cons]; simp
  | k :: r, i + 1, hi => by
    have := Fm.costs_get r i (by simpa using hi)
    simp only [List.getElem_cons_succ, Fm.costs_cons]; omega

theorem keep_upto {B : Nat → Prop} {w w' : World} (hb : SameOn B w w') : ∀ (n : Nat) (f : Fm), f.sz ≤ n → ∀ {c0 c1 c2 c3 c4 : Value}, FormAt B w f c0 c1 c2 c3 c4 → FormAt B w' f c0 c1 c2 c3 c4
  | 0, f, hn, _, _, _, _, _, _ => by have := Fm.sz_kids f; omega
  | n + 1, f, hn, c0, c1, c2, c3, c4, h => by
    have hsz := Fm.sz_kids f
    rw [formAt_iff] at h ⊢
    obtain ⟨h0, h1, h2, h3, h4, a, cap, h5, h6, h7⟩ := h
    refine ⟨h0, h1, h2, h3.keep hb, h4, a, cap, h5, h6, ?_⟩
    rcases h7 with h7 | ⟨b, o, h7, h8, h9⟩
    · exact Or.inl h7
    · refine Or.inr ⟨b, o, h7, h8, fun i hi => ?_⟩
      obtain ⟨k0, k1, k2, k3, k4, e0, e1, e2, e3, e4, e5⟩ := h9 i hi
      exact ⟨k0, k1, k2, k3, k4, (hb.cell h8 _).trans e0, (hb.cell h8 _).trans e1, (hb.cell h8 _).trans e2, (hb.cell h8 _).trans e3, (hb.cell h8 _).trans e4, keep_upto hb n _ (by have := Fm.szs_get f.kids i hi; omega) e5⟩
theorem mono_upto {B B' : Nat → Prop} {w : World} (hb : ∀ b, B b → B' b) : ∀ (n : Nat) (f : Fm), f.sz ≤ n → ∀ {c0 c1 c2 c3 c4 : Value}, FormAt B w f c0 c1 c2 c3 c4 → FormAt B' w f c0 c1 c2 c3 c4
  | 0, f, hn, _, _, _, _, _, _ => by have := Fm.sz_kids f; omega
  | n + 1, f, hn, c0, c1, c2, c3, c4, h => by
    have hsz := Fm.sz_kids f
    rw [formAt_iff] at h ⊢
    obtain ⟨h0, h1, h2, h3, h4, a, cap, h5, h6, h7⟩ := h
    refine ⟨h0, h1, h2, h3.mono hb, h4, a, cap, h5, h6, ?_⟩
    rcases h7 with h7 | ⟨b, o, h7, h8, h9⟩
    · exact Or.inl h7
    · refine Or.inr ⟨b, o, h7, hb b h8, fun i hi => ?_⟩
      obtain ⟨k0, k1, k2, k3, k4, e0, e1, e2, e3, e4, e5⟩ := h9 i hi
      exact ⟨k0, k1, k2, k3, k4, e0, e1, e2, e3, e4, mono_upto hb n _ (by have := Fm.szs_get f.kids i hi; omega) e5⟩

theorem FormAt.keep {B : Nat → Prop} {w w' : World} (hb : SameOn B w w') (f : Fm) {c0 c1 c2 c3 c4 : Value} (h : FormAt B w f c0 c1 c2 c3 c4) : FormAt B w' f c0 c1 c2 c3 c4 := keep_upto hb f.sz f (Nat.le_refl _) h
theorem FormAt.mono {B B' : Nat → Prop} {w : World} (hb : ∀ b, B b → B' b) (f : Fm) {c0 c1 c2 c3 c4 : Value} (h : FormAt B w f c0 c1 c2 c3 c4) : FormAt B' w f c0 c1 c2 c3 c4 := mono_upto hb f.sz f (Nat.le_refl _) h
theorem RowAt.keep {B : Nat → Prop} {w w' : World} (hb : SameOn B w w') {b : Nat} (hB : B b) (ks : List Fm) {o : Nat} (h : RowAt B w b o ks) : RowAt B w' b o ks := fun i hi => by
  obtain ⟨k0, k1, k2, k3, k4, e0, e1, e2, e3, e4, e5⟩ := h i hi
  exact ⟨k0, k1, k2, k3, k4, (hb.cell hB _).trans e0, (hb.cell hB _).trans e1, (hb.cell hB _).trans e2, (hb.cell hB _).trans e3, (hb.cell hB _).trans e4, FormAt.keep hb _ e5⟩
theorem RowAt.mono {B B' : Nat → Prop} {w : World} (hb : ∀ b, B b → B' b) {b : Nat} (ks : List Fm) {o : Nat} (h : RowAt B w b o ks) : RowAt B' w b o ks := fun i hi => by
  obtain ⟨k0, k1, k2, k3, k4, e0, e1, e2, e3, e4, e5⟩ := h i hi
  exact ⟨k0, k1, k2, k3, k4, e0, e1, e2, e3, e4, FormAt.mono hb _ e5⟩
theorem FormsAt.keep {B : Nat → Prop} {w w' : World} (hb : SameOn B w w') {v : Value} {ks : List Fm} (h : FormsAt B w v ks) : FormsAt B w' v ks := by
  obtain ⟨a, cap, e, hl, h⟩ := h
  refine ⟨a, cap, e, hl, ?_⟩
  rcases h with h | ⟨b, o, e, hB, h⟩
  · exact Or.inl h
  · exact Or.inr ⟨b, o, e, hB, RowAt.keep hb hB ks h⟩
theorem FormsAt.mono {B B' : Nat → Prop} {w : World} (hb : ∀ b, B b → B' b) {v : Value} {ks : List Fm} (h : FormsAt B w v ks) : FormsAt B' w v ks := by
  obtain ⟨a, cap, e, hl, h⟩ := h
  refine ⟨a, cap, e, hl, ?_⟩
  rcases h with h | ⟨b, o, e, hB, h⟩
  · exact Or.inl h
  · exact Or.inr ⟨b, o, e, hb b hB, RowAt.mono hb ks h⟩

theorem Fm.costs_take (ks : List Fm) (k : Nat) (h : k < ks.length) : Fm.costs (ks.take (k + 1)) = Fm.costs (ks.take k) + ks[k].cost := by
  rw [List.take_succ_eq_append_getElem h]; unfold Fm.costs
  simp only [List.map_append, List.sum_append, List.map_cons, List.map_nil, List.sum_cons, List.sum_nil, Nat.add_zero]
theorem Fm.szs_take (ks : List Fm) (k : Nat) (h : k < ks.length) : Fm.szs (ks.take (k + 1)) = Fm.szs (ks.take k) + ks[k].sz := by
  rw [List.take_succ_eq_append_getElem h]; unfold Fm.szs
  simp only [List.map_append, List.sum_append, List.map_cons, List.map_nil, List.sum_cons, List.sum_nil, Nat.add_zero]
theorem Fm.costs_take_le : ∀ (ks : List Fm) (k : Nat), Fm.costs (ks.take k) ≤ Fm.costs ks
  | [], k => by simp
  | a :: r, 0 => by simp [Fm.costs]
  | a :: r, k + 1 => by have := Fm.costs_take_le r k; simp only [List.take_succ_cons, Fm.costs_cons]; omega
theorem Fm.szs_take_le : ∀ (ks : List Fm) (k : Nat), Fm.szs (ks.take k) ≤ Fm.szs ks
  | [], k => by simp
  | a :: r, 0 => by simp [Fm.szs]
  | a :: r, k + 1 => by have := Fm.szs_take_le r k; simp only [List.take_succ_cons, Fm.szs_cons]; omega
theorem sz_upto : ∀ (n : Nat) (f : Fm), f.sz ≤ n → f.sz ≤ 1 + f.cost
  | 0, f, hn => by have := Fm.sz_kids f; omega
  | n + 1, f, hn => by
    have h1 := Fm.sz_kids f
    have h2 := Fm.cost_eq f
    have h3 : ∀ ks : List Fm, Fm.szs ks ≤ n → Fm.szs ks ≤ ks.length + Fm.costs ks := by
      intro ks
      induction ks with
      | nil => intro _; simp [Fm.szs]
      | cons k r ih =>
        intro hk
        rw [Fm.szs_cons] at hk ⊢
        rw [Fm.costs_cons, List.length_cons]
        have := sz_upto n k (by omega)
        have := ih (by omega)
        omega
    have := h3 f.kids (by omega)
    omega
theorem Fm.sz_le (f : Fm) : f.sz ≤ 1 + f.cost := sz_upto f.sz f (Nat.le_refl _)

end Go.Siskin

namespace Go.Siskin
open Go.RowKit

/-- What the law's own count takes of texts. -/
def strc (ns : List ByteArray) : Nat := ns.length + (ns.map ByteArray.size).sum
theorem strc_nil : strc [] = 0 := rfl
theorem sums_take (ns : List ByteArray) (k : Nat) (h : k < ns.length) : ((ns.take (k + 1)).map ByteArray.size).sum = ((ns.take k).map ByteArray.size).sum + ns[k].size := by
  rw [List.take_succ_eq_append_getElem h]
  simp only [List.map_append, List.sum_append, List.map_cons, List.map_nil, List.sum_cons, List.sum_nil, Nat.add_zero]
theorem sums_take_le : ∀ (ns : List ByteArray) (k : Nat), ((ns.take k).map ByteArray.size).sum ≤ (ns.map ByteArray.size).sum
  | [], k => by simp
  | a :: r, 0 => by simp
  | a :: r, k + 1 => by have := sums_take_le r k; simp only [List.take_succ_cons, List.map_cons, List.sum_cons]; omega

/-- A slice of texts that lies in blocks of B. -/
def StrsAt (B : Nat → Prop) (w : World) (v : Value) (xs : List ByteArray) : Prop :=
  ∃ a cap, v = .slice a xs.length cap ∧ (xs.length ≤ maxLen ∧ xs.length ≤ cap) ∧ (∀ i (hi : i < xs.length), xs[i].size ≤ maxLen) ∧ (xs = [] ∨ ∃ b o, a = some ⟨b, o, none⟩ ∧ B b ∧ ∀ i (hi : i < xs.length), w.cell? ⟨b, o + i, none⟩ = some (.string xs[i]))

theorem StrsAt.keep {B : Nat → Prop} {w w' : World} {v : Value} {xs : List ByteArray} (h : StrsAt B w v xs) (hb : SameOn B w w') : StrsAt B w' v xs := by
  obtain ⟨a, cap, e, hl, hm, h⟩ := h
  refine ⟨a, cap, e, hl, hm, ?_⟩
  rcases h with h | ⟨b, o, e, hB, h⟩
  · exact Or.inl h
  · exact Or.inr ⟨b, o, e, hB, fun i hi => (hb.cell hB (o + i)).trans (h i hi)⟩
theorem StrsAt.mono {B B' : Nat → Prop} {w : World} {v : Value} {xs : List ByteArray} (h : StrsAt B w v xs) (hb : ∀ b, B b → B' b) : StrsAt B' w v xs := by
  obtain ⟨a, cap, e, hl, hm, h⟩ := h
  refine ⟨a, cap, e, hl, hm, ?_⟩
  rcases h with h | ⟨b, o, e, hB, h⟩
  · exact Or.inl h
  · exact Or.inr ⟨b, o, e, hb b hB, h⟩

/-- A part: its sort, its text, whether it takes the rest, its names, its kids. -/
structure Cm where
  sort : Int
  text : ByteArray
  rest : Bool
  names : List ByteArray
  kids : List Cm

/-- No part. -/
def Cm.no : Cm := ⟨0, ⟨#[]⟩, false, [], []⟩

/-- How many parts a part is. -/
def Cm.sz : Cm → Nat
  | ⟨_, _, _, _, ks⟩ => 1 + (ks.map fun k => k.sz).sum
def Cm.szs (ks : List Cm) : Nat := (ks.map Cm.sz).sum
/-- What the law's own count takes of a part. -/
def Cm.cost : Cm → Nat
  | ⟨_, t, _, ns, ks⟩ => t.size + strc ns + ks.length + (ks.map fun k => k.cost).sum
def Cm.costs (ks : List Cm) : Nat := (ks.map Cm.cost).sum

theorem Cm.szs_nil : Cm.szs [] = 0 := rfl
theorem Cm.szs_cons (k : Cm) (r : List Cm) : Cm.szs (k :: r) = k.sz + Cm.szs r := by simp [Cm.szs]
theorem Cm.costs_nil : Cm.costs [] = 0 := rfl
theorem Cm.costs_cons (k : Cm) (r : List Cm) : Cm.costs (k :: r) = k.cost + Cm.costs r := by simp [Cm.costs]
theorem Cm.sz_kids (f : Cm) : f.sz = 1 + Cm.szs f.kids := by
  obtain ⟨s, t, r, ns, ks⟩ := f
  rw [Cm.sz]; rfl
theorem Cm.cost_eq (f : Cm) : f.cost = f.text.size + strc f.names + f.kids.length + Cm.costs f.kids := by
  obtain ⟨s, t, r, ns, ks⟩ := f
  rw [Cm.cost]; rfl

/-- A part's five cells, and what they lead to, all in blocks of B. -/
def CoreAt (B : Nat → Prop) (w : World) : Cm → Value → Value → Value → Value → Value → Prop
  | ⟨s, t, r, ns, ks⟩, c0, c1, c2, c3, c4 => c0 = .int .i64 s ∧ c1 = .string t ∧ t.size ≤ maxLen ∧ c2 = .bool r ∧ StrsAt B w c3 ns ∧
      ∃ a cap, c4 = .slice a ks.length cap ∧ (ks.length ≤ maxLen ∧ ks.length ≤ cap) ∧ (ks = [] ∨ ∃ b o, a = some ⟨b, o, none⟩ ∧ B b ∧ ∀ (i : Nat) (hi : i < ks.length),
        ∃ k0 k1 k2 k3 k4, w.cell? ⟨b, o + i * 5, none⟩ = some k0 ∧ w.cell? ⟨b, o + i * 5 + 1, none⟩ = some k1 ∧ w.cell? ⟨b, o + i * 5 + 2, none⟩ = some k2 ∧ w.cell? ⟨b, o + i * 5 + 3, none⟩ = some k3 ∧ w.cell? ⟨b, o + i * 5 + 4, none⟩ = some k4 ∧
          (have := List.sizeOf_lt_of_mem (List.getElem_mem hi); CoreAt B w ks[i] k0 k1 k2 k3 k4))

/-- Parts that lie side by side from a cell on. -/
def CRowAt (B : Nat → Prop) (w : World) (b o : Nat) (ks : List Cm) : Prop := ∀ (i : Nat) (hi : i < ks.length),
  ∃ k0 k1 k2 k3 k4, w.cell? ⟨b, o + i * 5, none⟩ = some k0 ∧ w.cell? ⟨b, o + i * 5 + 1, none⟩ = some k1 ∧ w.cell? ⟨b, o + i * 5 + 2, none⟩ = some k2 ∧ w.cell? ⟨b, o + i * 5 + 3, none⟩ = some k3 ∧ w.cell? ⟨b, o + i * 5 + 4, none⟩ = some k4 ∧ CoreAt B w ks[i] k0 k1 k2 k3 k4

/-- A slice of parts. -/
def CoresAt (B : Nat → Prop) (w : World) (v : Value) (ks : List Cm) : Prop :=
  ∃ a cap, v = .slice a ks.length cap ∧ (ks.length ≤ maxLen ∧ ks.length ≤ cap) ∧ (ks = [] ∨ ∃ b o, a = some ⟨b, o, none⟩ ∧ B b ∧ CRowAt B w b o ks)

theorem coreAt_iff (B : Nat → Prop) (w : World) (f : Cm) (c0 c1 c2 c3 c4 : Value) : CoreAt B w f c0 c1 c2 c3 c4 ↔
    c0 = .int .i64 f.sort ∧ c1 = .string f.text ∧ f.text.size ≤ maxLen ∧ c2 = .bool f.rest ∧ StrsAt B w c3 f.names ∧ CoresAt B w c4 f.kids := by
  obtain ⟨s, t, r, ns, ks⟩ := f
  rw [CoreAt]; rfl

theorem CRowAt.get {B : Nat → Prop} {w : World} {b : Nat} (ks : List Cm) {o : Nat} (h : CRowAt B w b o ks) (i : Nat) (hi : i < ks.length) :
    ∃ c0 c1 c2 c3 c4, w.cell? ⟨b, o + i * 5, none⟩ = some c0 ∧ w.cell? ⟨b, o + i * 5 + 1, none⟩ = some c1 ∧ w.cell? ⟨b, o + i * 5 + 2, none⟩ = some c2 ∧ w.cell? ⟨b, o + i * 5 + 3, none⟩ = some c3 ∧ w.cell? ⟨b, o + i * 5 + 4, none⟩ = some c4 ∧ CoreAt B w ks[i] c0 c1 c2 c3 c4 := h i hi
theorem CRowAt.mk {B : Nat → Prop} {w : World} {b : Nat} (ks : List Cm) {o : Nat} (h : ∀ (i : Nat) (hi : i < ks.length),
    ∃ c0 c1 c2 c3 c4, w.cell? ⟨b, o + i * 5, none⟩ = some c0 ∧ w.cell? ⟨b, o + i * 5 + 1, none⟩ = some c1 ∧ w.cell? ⟨b, o + i * 5 + 2, none⟩ = some c2 ∧ w.cell? ⟨b, o + i * 5 + 3, none⟩ = some c3 ∧ w.cell? ⟨b, o + i * 5 + 4, none⟩ = some c4 ∧ CoreAt B w ks[i] c0 c1 c2 c3 c4) : CRowAt B w b o ks := h

theorem Cm.szs_get : ∀ (ks : List Cm) (i : Nat) (hi : i < ks.length), ks[i].sz ≤ Cm.szs ks
  | [], _, hi => absurd hi (Nat.not_lt_zero _)
  | k :: r, 0, _ => by rw [Cm.szs_cons]; simp
  | k :: r, i + 1, hi => by
    have := Cm.szs_get r i (by simpa using hi)
    simp only [List.getElem_cons_succ, Cm.szs_cons]; omega
theorem Cm.costs_get : ∀ (ks : List Cm) (i : Nat) (hi : i < ks.length), ks[i].cost ≤ Cm.costs ks
  | [], _, hi => absurd hi (Nat.not_lt_zero _)
  | k :: r, 0, _ => by rw [Cm.costs_cons]; simp
  | k :: r, i + 1, hi => by
    have := Cm.costs_get r i (by simpa using hi)
    simp only [List.getElem_cons_succ, Cm.costs_cons]; omega

theorem ckeep_upto {B : Nat → Prop} {w w' : World} (hb : SameOn B w w') : ∀ (n : Nat) (f : Cm), f.sz ≤ n → ∀ {c0 c1 c2 c3 c4 : Value}, CoreAt B w f c0 c1 c2 c3 c4 → CoreAt B w' f c0 c1 c2 c3 c4
  | 0, f, hn, _, _, _, _, _, _ => by have := Cm.sz_kids f; omega
  | n + 1, f, hn, c0, c1, c2, c3, c4, h => by
    have hsz := Cm.sz_kids f
    rw [coreAt_iff] at h ⊢
    obtain ⟨h0, h1, h2, h3, h4, a, cap, h5, h6, h7⟩ := h
    refine ⟨h0, h1, h2, h3, h4.keep hb, a, cap, h5, h6, ?_⟩
    rcases h7 with h7 | ⟨b, o, h7, h8, h9⟩
    · exact Or.inl h7
    · refine Or.inr ⟨b, o, h7, h8, fun i hi => ?_⟩
      obtain ⟨k0, k1, k2, k3, k4, e0, e1, e2, e3, e4, e5⟩ := h9 i hi
      exact ⟨k0, k1, k2, k3, k4, (hb.cell h8 _).trans e0, (hb.cell h8 _).trans e1, (hb.cell h8 _).trans e2, (hb.cell h8 _).trans e3, (hb.cell h8 _).trans e4, ckeep_upto hb n _ (by have := Cm.szs_get f.kids i hi; omega) e5⟩
theorem cmono_upto {B B' : Nat → Prop} {w : World} (hb : ∀ b, B b → B' b) : ∀ (n : Nat) (f : Cm), f.sz ≤ n → ∀ {c0 c1 c2 c3 c4 : Value}, CoreAt B w f c0 c1 c2 c3 c4 → CoreAt B' w f c0 c1 c2 c3 c4
  | 0, f, hn, _, _, _, _, _, _ => by have := Cm.sz_kids f; omega
  | n + 1, f, hn, c0, c1, c2, c3, c4, h => by
    have hsz := Cm.sz_kids f
    rw [coreAt_iff] at h ⊢
    obtain ⟨h0, h1, h2, h3, h4, a, cap, h5, h6, h7⟩ := h
    refine ⟨h0, h1, h2, h3, h4.mono hb, a, cap, h5, h6, ?_⟩
    rcases h7 with h7 | ⟨b, o, h7, h8, h9⟩
    · exact Or.inl h7
    · refine Or.inr ⟨b, o, h7, hb b h8, fun i hi => ?_⟩
      obtain ⟨k0, k1, k2, k3, k4, e0, e1, e2, e3, e4, e5⟩ := h9 i hi
      exact ⟨k0, k1, k2, k3, k4, e0, e1, e2, e3, e4, cmono_upto hb n _ (by have := Cm.szs_get f.kids i hi; omega) e5⟩

theorem CoreAt.keep {B : Nat → Prop} {w w' : World} (hb : SameOn B w w') (f : Cm) {c0 c1 c2 c3 c4 : Value} (h : CoreAt B w f c0 c1 c2 c3 c4) : CoreAt B w' f c0 c1 c2 c3 c4 := ckeep_upto hb f.sz f (Nat.le_refl _) h
theorem CoreAt.mono {B B' : Nat → Prop} {w : World} (hb : ∀ b, B b → B' b) (f : Cm) {c0 c1 c2 c3 c4 : Value} (h : CoreAt B w f c0 c1 c2 c3 c4) : CoreAt B' w f c0 c1 c2 c3 c4 := cmono_upto hb f.sz f (Nat.le_refl _) h
theorem CRowAt.keep {B : Nat → Prop} {w w' : World} (hb : SameOn B w w') {b : Nat} (hB : B b) (ks : List Cm) {o : Nat} (h : CRowAt B w b o ks) : CRowAt B w' b o ks := fun i hi => by
  obtain ⟨k0, k1, k2, k3, k4, e0, e1, e2, e3, e4, e5⟩ := h i hi
  exact ⟨k0, k1, k2, k3, k4, (hb.cell hB _).trans e0, (hb.cell hB _).trans e1, (hb.cell hB _).trans e2, (hb.cell hB _).trans e3, (hb.cell hB _).trans e4, CoreAt.keep hb _ e5⟩
theorem CRowAt.mono {B B' : Nat → Prop} {w : World} (hb : ∀ b, B b → B' b) {b : Nat} (ks : List Cm) {o : Nat} (h : CRowAt B w b o ks) : CRowAt B' w b o ks := fun i hi => by
  obtain ⟨k0, k1, k2, k3, k4, e0, e1, e2, e3, e4, e5⟩ := h i hi
  exact ⟨k0, k1, k2, k3, k4, e0, e1, e2, e3, e4, CoreAt.mono hb _ e5⟩
theorem CoresAt.keep {B : Nat → Prop} {w w' : World} (hb : SameOn B w w') {v : Value} {ks : List Cm} (h : CoresAt B w v ks) : CoresAt B w' v ks := by
  obtain ⟨a, cap, e, hl, h⟩ := h
  refine ⟨a, cap, e, hl, ?_⟩
  rcases h with h | ⟨b, o, e, hB, h⟩
  · exact Or.inl h
  · exact Or.inr ⟨b, o, e, hB, CRowAt.keep hb hB ks h⟩
theorem CoresAt.mono {B B' : Nat → Prop} {w : World} (hb : ∀ b, B b → B' b) {v : Value} {ks : List Cm} (h : CoresAt B w v ks) : CoresAt B' w v ks := by
  obtain ⟨a, cap, e, hl, h⟩ := h
  refine ⟨a, cap, e, hl, ?_⟩
  rcases h with h | ⟨b, o, e, hB, h⟩
  · exact Or.inl h
  · exact Or.inr ⟨b, o, e, hb b hB, CRowAt.mono hb ks h⟩

theorem Cm.costs_take (ks : List Cm) (k : Nat) (h : k < ks.length) : Cm.costs (ks.take (k + 1)) = Cm.costs (ks.take k) + ks[k].cost := by
  rw [List.take_succ_eq_append_getElem h]; unfold Cm.costs
  simp only [List.map_append, List.sum_append, List.map_cons, List.map_nil, List.sum_cons, List.sum_nil, Nat.add_zero]
theorem Cm.szs_take (ks : List Cm) (k : Nat) (h : k < ks.length) : Cm.szs (ks.take (k + 1)) = Cm.szs (ks.take k) + ks[k].sz := by
  rw [List.take_succ_eq_append_getElem h]; unfold Cm.szs
  simp only [List.map_append, List.sum_append, List.map_cons, List.map_nil, List.sum_cons, List.sum_nil, Nat.add_zero]
theorem Cm.costs_take_le : ∀ (ks : List Cm) (k : Nat), Cm.costs (ks.take k) ≤ Cm.costs ks
  | [], k => by simp
  | a :: r, 0 => by simp [Cm.costs]
  | a :: r, k + 1 => by have := Cm.costs_take_le r k; simp only [List.take_succ_cons, Cm.costs_cons]; omega
theorem Cm.szs_take_le : ∀ (ks : List Cm) (k : Nat), Cm.szs (ks.take k) ≤ Cm.szs ks
  | [], k => by simp
  | a :: r, 0 => by simp [Cm.szs]
  | a :: r, k + 1 => by have := Cm.szs_take_le r k; simp only [List.take_succ_cons, Cm.szs_cons]; omega
theorem csz_upto : ∀ (n : Nat) (f : Cm), f.sz ≤ n → f.sz ≤ 1 + f.cost
  | 0, f, hn => by have := Cm.sz_kids f; omega
  | n + 1, f, hn => by
    have h1 := Cm.sz_kids f
    have h2 := Cm.cost_eq f
    have h3 : ∀ ks : List Cm, Cm.szs ks ≤ n → Cm.szs ks ≤ ks.length + Cm.costs ks := by
      intro ks
      induction ks with
      | nil => intro _; simp [Cm.szs]
      | cons k r ih =>
        intro hk
        rw [Cm.szs_cons] at hk ⊢
        rw [Cm.costs_cons, List.length_cons]
        have := csz_upto n k (by omega)
        have := ih (by omega)
        omega
    have := h3 f.kids (by omega)
    omega
theorem Cm.sz_le (f : Cm) : f.sz ≤ 1 + f.cost := csz_upto f.sz f (Nat.le_refl _)

end Go.Siskin

namespace Go.Proofs.Ytkpamgabhlplfaa
open Go.RowKit Go.Siskin

theorem Try.sizeBuilder : (Try.prog.info? 66).map (·.size) = some 2 := by kernel_rfl
theorem Try.liesShower : liesAt Try.prog Try.prog.depth 115 (12 / Try.prog.cellsOf 115) 0 66 1 = true := by kernel_rfl
theorem Try.infoByte : (Try.prog.info? 5).map (fun i => (i.zero, i.size, i.bytes)) = some (some (.int .u8 0), 1, 1) := by kernel_rfl

/- A pointer to a builder turned to the type that knows no kind, and back. -/
theorem raw_to (b : Nat) (w : World) (hsh : w.shape? b = some (115, 12)) : (convert 63 177 (.pointer (some ⟨b, 0, none⟩))).run Try.prog w = .ok (.pointer (some ⟨b, 0, none⟩)) w := by
  obtain ⟨j, hj, hjs⟩ := Option.map_eq_some_iff.1 Try.sizeBuilder
  exact Lib.run_to_unsafe w ⟨b, 0, none⟩ Try.underlying63 Try.underlying177 hj (by omega) hsh (show 0 < 12 by decide)
theorem raw_from (b : Nat) (w : World) (hsh : w.shape? b = some (115, 12)) : (convert 177 63 (.pointer (some ⟨b, 0, none⟩))).run Try.prog w = .ok (.pointer (some ⟨b, 0, none⟩)) w := by
  obtain ⟨j, hj, hjs⟩ := Option.map_eq_some_iff.1 Try.sizeBuilder
  exact Lib.run_from_unsafe w ⟨b, 0, none⟩ Try.underlying177 Try.underlying63 hj hsh Try.liesShower

set_option maxHeartbeats 1000000 in
set_option maxRecDepth 100000 in
theorem copyCheck_used (b : Nat) (w : World) (h0 : w.cell? ⟨b, 0, none⟩ = some (.pointer (some ⟨b, 0, none⟩))) :
    Calls Try.prog 120 #[.pointer (some ⟨b, 0, none⟩)] w fun e w' => e = .returned (.tuple #[]) ∧ w' = w := by
  obtain ⟨j, hj, _⟩ := Option.map_eq_some_iff.1 Try.sizeBuilder
  go_enter Try.func120, Try.ntmps120
  go_wp2_with fail
  rw [Lib.run_neq_ptr_same w _ Try.underlying63 hj]
  go_wp2_with fail
  go_end0
  exact ⟨rfl, rfl⟩

set_option maxHeartbeats 1000000 in
set_option maxRecDepth 100000 in
theorem copyCheck_fresh (b : Nat) (w : World) (h0 : w.cell? ⟨b, 0, none⟩ = some (.pointer none)) (hsh : w.shape? b = some (115, 12)) (hfz : w.frozen? ⟨b, 0, none⟩ = false) :
    Calls Try.prog 120 #[.pointer (some ⟨b, 0, none⟩)] w fun e w' => e = .returned (.tuple #[]) ∧ w' = w.setCell ⟨b, 0, none⟩ (.pointer (some ⟨b, 0, none⟩)) := by
  obtain ⟨j, hj, hjs⟩ := Option.map_eq_some_iff.1 Try.sizeBuilder
  go_enter Try.func120, Try.ntmps120
  go_wp2_with fail
  rw [raw_to b w hsh]
  simp only [Result.andThen]
  rw [Oper.upon_value]
  go_wp2_with fail
  rw [run_callFunc_extern Try.func125 (by kernel_rfl) (by kernel_rfl) (by kernel_rfl) (e := Extern.AbiNoEscape.same) (by kernel_rfl)]
  rw [Lib.run_noEscape]
  simp only [Result.andThen]
  rw [Oper.upon_value]
  go_wp2_with fail
  rw [raw_from b w hsh]
  simp only [Result.andThen]
  rw [Oper.upon_value]
  go_wp2_with fail
  go_end0
  exact ⟨rfl, rfl⟩

/-- What is said for each sort. -/
def wayF (b : Nat) (fn : FuncId) : Value := .func (.func fn) #[.pointer (some ⟨b, 0, none⟩)] #[]
abbrev shCells (b : Nat) (p v : Value) : Array Value := #[p, v, wayF b 76, wayF b 77, wayF b 77, wayF b 78, wayF b 79, wayF b 80, wayF b 81, wayF b 82, wayF b 83, wayF b 84]
/-- Block b is a coreShower whose builder holds bs. -/
def ShAt (B b : Nat) (p : Value) (bs : List Value) (w : World) : Prop :=
  B ≤ b ∧ ∃ v, w.heap[b]? = some (.cells (shCells b p v) 115 (0, 0)) ∧ w.ownsRow B 5 1 v bs.length bs ∧ v.ownBlock ≠ some b
/-- .. fresh or written. -/
def isS (B b : Nat) (l : List UInt8) (w : World) : Prop := ShAt B b (.pointer none) (Lib.byteCells l) w ∨ ShAt B b (.pointer (some ⟨b, 0, none⟩)) (Lib.byteCells l) w

/-- What a write into the builder in block b leaves: all below B, and every block that is neither b nor a row of bytes. -/
def Wrote (B b : Nat) (w w' : World) : Prop := Below B w w' ∧ ∀ k c e z, k ≠ b → e ≠ 5 → w.heap[k]? = some (.cells c e z) → w'.heap[k]? = some (.cells c e z)
theorem Wrote.refl (B b : Nat) (w : World) : Wrote B b w w := ⟨Below.refl _ _, fun _ _ _ _ _ _ h => h⟩
theorem Wrote.trans {B b : Nat} {w w1 w2 : World} (h : Wrote B b w w1) (k : Wrote B b w1 w2) : Wrote B b w w2 := ⟨h.1.trans k.1, fun i c e z h1 h2 h3 => k.2 i c e z h1 h2 (h.2 i c e z h1 h2 h3)⟩
theorem Wrote.alloc {B b : Nat} {w w1 : World} (h : Wrote B b w w1) (hB : B ≤ w1.heap.size) (o : Obj) : Wrote B b w (w1.alloc o) :=
  ⟨h.1.alloc hB o, fun i c e z h1 h2 h3 => (Below.heap_alloc _ _ _ (Array.getElem?_eq_some_iff.1 (h.2 i c e z h1 h2 h3)).1).trans (h.2 i c e z h1 h2 h3)⟩
theorem Wrote.drew {B b : Nat} {w w1 : World} (h : Wrote B b w w1) : Wrote B b w w1.drew := ⟨h.1.drew, h.2⟩
/-- A box that the call laid stands as it stood. -/
theorem Wrote.box {B b : Nat} {w w' : World} {cs : Array Value} {e : TypeId} (h : Wrote B b (w.alloc (.cells cs e)) w') (hb : b < w.heap.size) (he : e ≠ 5) : ∀ j, w'.cell? ⟨w.heap.size, j, none⟩ = (w.alloc (.cells cs e)).cell? ⟨w.heap.size, j, none⟩ := by
  intro j
  have h0 : (w.alloc (.cells cs e)).heap[w.heap.size]? = some (.cells cs e (0, 0)) := by
    show (w.heap.push (.cells cs e))[w.heap.size]? = _
    simp
  exact World.cell?_of_block (a := ⟨w.heap.size, j, none⟩) ((h.2 _ _ _ _ (by omega) he h0).trans h0.symm)

theorem isS_lt {B b : Nat} {l : List UInt8} {w : World} (h : isS B b l w) : b < w.heap.size := by
  rcases h with ⟨-, v, h, -⟩ | ⟨-, v, h, -⟩
  · exact (Array.getElem?_eq_some_iff.1 h).1
  · exact (Array.getElem?_eq_some_iff.1 h).1
theorem srow_alloc {w : World} {base : Nat} {e : TypeId} {v : Value} {n : Nat} {xs : List Value} (h : w.ownsRow base e 1 v n xs) (o : Obj) : (w.alloc o).ownsRow base e 1 v n xs := by
  refine ⟨h.1, ?_⟩
  rcases h.2 with h4 | ⟨g, cap, cur, e, h5, h6, h7⟩
  · exact Or.inl h4
  · exact Or.inr ⟨g, cap, cur, e, h5, (Below.heap_alloc _ _ _ (Array.getElem?_eq_some_iff.1 h6).1).trans h6, h7⟩
theorem isS_alloc {B b : Nat} {l : List UInt8} {w : World} (h : isS B b l w) (o : Obj) : isS B b l (w.alloc o) := by
  have key : ∀ p, ShAt B b p (Lib.byteCells l) w → ShAt B b p (Lib.byteCells l) (w.alloc o) := by
    rintro p ⟨h1, v, h2, h3, h4⟩
    exact ⟨h1, v, (Below.heap_alloc _ _ _ (Array.getElem?_eq_some_iff.1 h2).1).trans h2, srow_alloc h3 o, h4⟩
  rcases h with h | h
  · exact Or.inl (key _ h)
  · exact Or.inr (key _ h)
theorem isS_drew {B b : Nat} {l : List UInt8} {w : World} (h : isS B b l w) : isS B b l w.drew := h

theorem sh_cell {w : World} {b : Nat} {p v : Value} (h : w.heap[b]? = some (.cells (shCells b p v) 115 (0, 0))) (i : Nat) : w.cell? ⟨b, i, none⟩ = (shCells b p v)[i]? := by
  simp [World.cell?, h]

theorem copyCheck_any (B b : Nat) (l : List UInt8) (w : World) (h : isS B b l w) :
    Calls Try.prog 120 #[.pointer (some ⟨b, 0, none⟩)] w fun e w' => e = .returned (.tuple #[]) ∧ (ShAt B b (.pointer (some ⟨b, 0, none⟩)) (Lib.byteCells l) w' ∧ Below B w w' ∧ ∀ k, k ≠ b → w'.heap[k]? = w.heap[k]?) := by
  rcases h with h | h
  · obtain ⟨hB, v, h1, h2, h3⟩ := h
    refine (copyCheck_fresh b w ((sh_cell h1 0).trans rfl) (by simp [World.shape?, h1]) (by simp [World.frozen?, h1])).mono ?_
    rintro e w' ⟨rfl, rfl⟩
    refine ⟨rfl, ⟨hB, v, ?_, ?_, h3⟩, (Below.refl B w).setCell (p := ⟨b, 0, none⟩) hB _, fun k hk => Below.heap_setCell _ _ _ _ hk⟩
    · simp [World.setCell, Array.getElem?_modify, h1]
    · refine ⟨h2.1, ?_⟩
      rcases h2.2 with h4 | ⟨g, cap, cur, e, h5, h6, h7⟩
      · exact Or.inl h4
      · refine Or.inr ⟨g, cap, cur, e, h5, ?_, h7⟩
        rw [Below.heap_setCell]
        · exact h6
        · intro e2
          apply h3
          rw [e]
          show some g = some b
          rw [e2]
  · obtain ⟨hB, v, h1, h2, h3⟩ := h
    refine (copyCheck_used b w ((sh_cell h1 0).trans rfl)).mono ?_
    rintro e w' ⟨rfl, rfl⟩
    exact ⟨rfl, ⟨hB, v, h1, h2, h3⟩, Below.refl B _, fun _ _ => rfl⟩

set_option maxHeartbeats 2000000 in
set_option maxRecDepth 100000 in
theorem write_any (B b : Nat) (l : List UInt8) (s : ByteArray) (w : World) (h : isS B b l w) (hlen : l.length + s.size ≤ 140737488355328) (hBw : B ≤ w.heap.size) :
    Calls Try.prog 105 #[.pointer (some ⟨b, 0, none⟩), .string s] w fun e w' => e = .returned (.tuple #[.int .i64 s.size, .nilIface]) ∧ isS B b (l ++ s.data.toList) w' ∧ Wrote B b w w' := by
  obtain ⟨i0, hi, hz0, hz1, hz2⟩ := info_parts Try.infoByte
  have hl9 : (Lib.byteCells l).length = l.length := by simp [Lib.byteCells]
  go_enter Try.func105, Try.ntmps105
  go_wp2_with (go_at_call 120; refine (copyCheck_any B b l _ h).mono ?_)
  rintro e w1 ⟨rfl, h1, hb1, hk1⟩
  have HK1 : Hid _ := hk1
  clear hk1
  obtain ⟨hB, v, hbk, hown, hne⟩ := h1
  have c0 : w1.cell? ⟨b, 0, none⟩ = some (.pointer (some ⟨b, 0, none⟩)) := (sh_cell hbk 0).trans rfl
  have c1 : w1.cell? ⟨b, 1, none⟩ = some v := (sh_cell hbk 1).trans rfl
  go_wp2_with (at_builtin; refine Lib.wpList_append_own_string _ rfl _ _ 64 9 rfl B 5 i0 Try.underlying64 Try.underlying9 hi hz0 hz1 hz2 _ _ _ rfl hown s rfl ?c3 ?c4 ?c5 ?_)
  case c3 => unfold maxLen; omega
  case c4 => omega
  case c5 => have := hb1.size; omega
  intro v' w2 hown' hgrow _
  have hlt : b < w1.heap.size := (Array.getElem?_eq_some_iff.1 hbk).1
  have hb2 : w2.heap[b]? = some (.cells (shCells b (.pointer (some ⟨b, 0, none⟩)) v) 115 (0, 0)) := by
    rw [hgrow.block b hlt (fun e => hne e.symm)]
    exact hbk
  have d1 : w2.cell? ⟨b, 1, none⟩ = some v := (sh_cell hb2 1).trans rfl
  have f1 : w2.frozen? ⟨b, 1, none⟩ = false := by simp [World.frozen?, hb2]
  obtain ⟨ao, n', cap, rfl⟩ : ∃ ao n' cap, v' = .slice ao n' cap := by
    rcases hown'.2 with ⟨hv, _⟩ | ⟨g, cap, cur, hv, _⟩
    · exact ⟨_, _, _, hv⟩
    · exact ⟨_, _, _, hv⟩
  have HKeep : Hid (∀ k c e z, k ≠ b → e ≠ 5 → w1.heap[k]? = some (.cells c e z) → w2.heap[k]? = some (.cells c e z)) := fun k c e z h1 h2 h4 => by
    rw [hgrow.block k (Array.getElem?_eq_some_iff.1 h4).1 (fun e' => ?_)]
    · exact h4
    · rcases hown.2 with ⟨hv, _⟩ | ⟨g, cap', cur, hv, _, h5, _⟩
      · rw [hv] at e'; cases e'
      · rw [hv] at e'
        simp only [Value.ownBlock, Option.some.injEq] at e'
        subst e'
        rw [h5] at h4
        simp only [Option.some.injEq, Obj.cells.injEq] at h4
        exact h2 h4.2.1.symm
  have hne' : (Value.slice ao n' cap).ownBlock ≠ some b := by
    intro e'
    rcases hown'.2 with ⟨hv, _⟩ | ⟨g, cap', cur, hv, _, h5, _⟩
    · rw [hv] at e'; cases e'
    · rw [hv] at e'
      simp only [Value.ownBlock, Option.some.injEq] at e'
      subst e'
      rw [h5] at hb2
      simp only [Option.some.injEq, Obj.cells.injEq] at hb2
      exact absurd hb2.2.1 (by decide)
  go_wp2_with fail
  go_ret2
  refine ⟨rfl, ?_, ?_⟩
  · refine Or.inr ⟨hB, .slice ao n' cap, ?_, ?_, hne'⟩
    · simp [World.setCell, Array.getElem?_modify, hb2]
    · have e1 : Lib.byteCells (l ++ s.data.toList) = Lib.byteCells l ++ Lib.strCells s := by simp [Lib.byteCells, Lib.strCells]
      rw [e1]
      have h7 : w2.ownsRow B 5 1 (.slice ao n' cap) (Lib.byteCells l ++ Lib.strCells s).length (Lib.byteCells l ++ Lib.strCells s) := by
        rw [List.length_append, Lib.strCells_length, hl9]
        exact hown'
      refine ⟨h7.1, ?_⟩
      rcases h7.2 with h4 | ⟨g, cap', cur, e, h5, h6, h8⟩
      · exact Or.inl h4
      · refine Or.inr ⟨g, cap', cur, e, h5, ?_, h8⟩
        rw [Below.heap_setCell]
        · exact h6
        · intro e2
          apply hne'
          rw [e]
          show some g = some b
          rw [e2]
  · refine ⟨(hb1.grown hgrow (by have := hb1.size; omega) (fun k hk => (hown.lt k hk).1)).setCell (p := ⟨b, 1, none⟩) hB _, fun k c e z h1 h2 h3 => ?_⟩
    rw [Below.heap_setCell _ _ _ _ h1]
    exact HKeep.out k c e z h1 h2 ((HK1.out k h1).trans h3)

end Go.Proofs.Ytkpamgabhlplfaa
