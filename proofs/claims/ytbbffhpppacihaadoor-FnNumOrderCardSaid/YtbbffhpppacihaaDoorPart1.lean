/-
  Memory: blocks of the call's own; a slice of ints; a form (a tree of structs and slices) as it lies in memory below a block number. No program is named.
  Memory: a slice of numbers of one kind, as it lies in memory; the table of powers of ten.
  Plain numbers: a number in so many decimal digits, and its numeral. No condition; no program is named.
  Plain numbers: a number in groups of nine decimal digits, the lowest first. No program is named.
  The model's l11Trim and l11At over numbers in decimal digits. Condition: the texts are numbers in so many digits.
-/
import Derived.WalkKit
import Derived.WalkSpells
import Derived.WalkLawsBesides
import Derived.Test.YtbbffhpppacihaaDoorProg
import Derived.Deep.AppendLies
import Derived.Laws.OwnMore
import Derived.Lib.ItoaNum
import Derived.Lib.Strings
import Derived.Laws.IdiomStrings
namespace Go.Siskin
open Go.RowKit

/-- A fact kept from the walk. -/
theorem hid {p : Prop} (h : p) : Hid p := h

/-- A block of cells, nothing of it frozen. -/
def Own (w : World) (g : Nat) (e : TypeId) (cs : Array Value) : Prop := w.heap[g]? = some (.cells cs e (0, 0))

theorem Own.cell {w : World} {g : Nat} {e : TypeId} {cs : Array Value} (h : Own w g e cs) (i : Nat) : w.cell? ⟨g, i, none⟩ = cs[i]? := by
  unfold Own at h; simp [World.cell?, h]
theorem Own.frozen {w : World} {g : Nat} {e : TypeId} {cs : Array Value} (h : Own w g e cs) (i : Nat) : w.frozen? ⟨g, i, none⟩ = false := by
  unfold Own at h; simp [World.frozen?, h]
theorem Own.set {w : World} {g : Nat} {e : TypeId} {cs : Array Value} (h : Own w g e cs) (i : Nat) (v : Value) : Own (w.setCell ⟨g, i, none⟩ v) g e (cs.setIfInBounds i v) := by
  unfold Own at h ⊢; simp [World.setCell, Array.getElem?_modify, h]
theorem Own.keep {B : Nat} {w w' : World} {g : Nat} {e : TypeId} {cs : Array Value} (h : Own w g e cs) (hb : Below B w w') (hg : g < B) : Own w' g e cs := (hb.block g hg).trans h
theorem Own.lt {w : World} {g : Nat} {e : TypeId} {cs : Array Value} (h : Own w g e cs) : g < w.heap.size := by
  unfold Own at h
  exact (Array.getElem?_eq_some_iff.1 h).1
theorem own_new (w : World) (cs : Array Value) (e : TypeId) : Own (w.alloc (.cells cs e)) w.heap.size e cs := by
  show (w.heap.push (.cells cs e))[w.heap.size]? = _
  simp

/-- What lies below B reads as it did. -/
theorem bcell {W w1 : World} (hb : Below W.heap.size W w1) : (∀ b o, b < W.heap.size → w1.cell? ⟨b, o, none⟩ = W.cell? ⟨b, o, none⟩) ∧ (∀ b o, b < W.heap.size → w1.frozen? ⟨b, o, none⟩ = W.frozen? ⟨b, o, none⟩) :=
  ⟨fun b o h => hb.cell (p := ⟨b, o, none⟩) h, fun b o h => hb.frozen (p := ⟨b, o, none⟩) h⟩

/-- 'make([]T, n)': a new block of n zero elements. -/
theorem wpList_make_new {P : Program} (w : World) {ops : Array Oper} {rest : List Oper} {o : Oper} {a : Act} {Q : Exit → Act → World → Prop}
    (hg : o.guard = none) (l c : Operand) (t : TypeId) (hop : o.op = Op.makeSlice t l c)
    (e : TypeId) (i : TypeInfo) (z : Value) (size : Nat) (h1 : P.underlying t = some (.slice e)) (h2 : P.info? e = some i) (h3 : i.zero = some z) (h4 : i.size = size)
    (kl kc : IntKind) (n : Nat) (hl : a.eval l = .int kl (n : Int)) (hc : a.eval c = .int kc (n : Int)) (b2 : i.bytes * n ≤ 281474976710656) (b3 : n ≤ maxLen)
    (hK : wpList P ops Q rest (a.put o.dst (.slice (some ⟨w.heap.size, 0, none⟩) n n)) (w.alloc (.cells (madeCells z.cells (n * size)) e))) :
    wpList P ops Q (o :: rest) a w := by
  refine wpList_plain hg fun K hK' => ?_
  subst h4
  have h63 : (n : Int) ≤ 9223372036854775807 := by
    have h := b3
    simp [maxLen] at h
    omega
  have hb' : (i.bytes : Int) * (n : Int) ≤ 281474976710656 := by
    have h : ((i.bytes * n : Nat) : Int) ≤ 281474976710656 := by omega
    rwa [Int.natCast_mul] at h
  have hr := run_make (P := P) w t e i z h1 h2 h3 kl kc n n (by omega) (Int.le_refl _) hb' h63
  simp only [Int.toNat_natCast] at hr
  unfold Oper.wp
  simp [execOp, hop, hl, hc, hr, Result.andThen]
  exact hK' _ _ hK

/-- The blocks of R are the same in two worlds. -/
def SameOn (R : Nat → Prop) (w w' : World) : Prop := ∀ b, R b → w'.heap[b]? = w.heap[b]?
theorem SameOn.refl (R : Nat → Prop) (w : World) : SameOn R w w := fun _ _ => rfl
theorem SameOn.trans {R : Nat → Prop} {a b c : World} (h : SameOn R a b) (k : SameOn R b c) : SameOn R a c := fun i hi => (k i hi).trans (h i hi)
theorem SameOn.alloc {R : Nat → Prop} {a w : World} (h : SameOn R a w) (hR : ∀ b, R b → b < w.heap.size) (o : Obj) : SameOn R a (w.alloc o) :=
  fun b hb => (Below.heap_alloc w o b (hR b hb)).trans (h b hb)
theorem SameOn.setCell {R : Nat → Prop} {a w : World} (h : SameOn R a w) {p : Addr} (hp : ¬ R p.block) (u : Value) : SameOn R a (w.setCell p u) :=
  fun b hb => (Below.heap_setCell w p u b (fun e => hp (e ▸ hb))).trans (h b hb)
theorem SameOn.below {R : Nat → Prop} {a w w' : World} (h : SameOn R a w) {N : Nat} (hb : Below N w w') (hR : ∀ b, R b → b < N) : SameOn R a w' :=
  fun b hb' => (hb.block b (hR b hb')).trans (h b hb')
theorem _root_.Go.RowKit.Below.on {R : Nat → Prop} {w w' : World} {N : Nat} (hb : Below N w w') (hR : ∀ b, R b → b < N) : SameOn R w w' := (SameOn.refl R w).below hb hR
theorem SameOn.cell {R : Nat → Prop} {w w' : World} (h : SameOn R w w') {b : Nat} (hb : R b) (o : Nat) : w'.cell? ⟨b, o, none⟩ = w.cell? ⟨b, o, none⟩ := World.cell?_of_block (w := w) (h b hb)
theorem SameOn.drew (R : Nat → Prop) (w : World) : SameOn R w w.drew := fun _ _ => rfl
/-- The blocks that are new in w'. -/
def Fresh (w w' : World) (b : Nat) : Prop := w.heap.size ≤ b ∧ b < w'.heap.size

/-- A slice of ints that lies in blocks of R. -/
def IntsAt (B : Nat → Prop) (w : World) (v : Value) (xs : List Int) : Prop :=
  ∃ a cap, v = .slice a xs.length cap ∧ (xs.length ≤ maxLen ∧ xs.length ≤ cap) ∧ (xs = [] ∨ ∃ b o, a = some ⟨b, o, none⟩ ∧ B b ∧ ∀ i, i < xs.length → w.cell? ⟨b, o + i, none⟩ = some (.int .i64 (xs.getD i 0)))

theorem IntsAt.keep {B : Nat → Prop} {w w' : World} {v : Value} {xs : List Int} (h : IntsAt B w v xs) (hb : SameOn B w w') : IntsAt B w' v xs := by
  obtain ⟨a, cap, e, hl, h⟩ := h
  refine ⟨a, cap, e, hl, ?_⟩
  rcases h with h | ⟨b, o, e, hB, h⟩
  · exact Or.inl h
  · exact Or.inr ⟨b, o, e, hB, fun i hi => (hb.cell hB (o + i)).trans (h i hi)⟩
theorem IntsAt.mono {B B' : Nat → Prop} {w : World} {v : Value} {xs : List Int} (h : IntsAt B w v xs) (hb : ∀ b, B b → B' b) : IntsAt B' w v xs := by
  obtain ⟨a, cap, e, hl, h⟩ := h
  refine ⟨a, cap, e, hl, ?_⟩
  rcases h with h | ⟨b, o, e, hB, h⟩
  · exact Or.inl h
  · exact Or.inr ⟨b, o, e, hb b hB, h⟩

/-- A form: its sort, its text, its scopes, its From, its kids. -/
structure Fm where
  sort : Int
  text : ByteArray
  scopes : List Int
  frm : Int
  kids : List Fm

/-- No form. -/
def Fm.no : Fm := ⟨0, ⟨#[]⟩, [], 0, []⟩

/-- How many forms a form is. -/
def Fm.sz : Fm → Nat
  | ⟨_, _, _, _, ks⟩ => 1 + (ks.map fun k => k.sz).sum
def Fm.szs (ks : List Fm) : Nat := (ks.map Fm.sz).sum
/-- What the law's own count takes of a form. -/
def Fm.cost : Fm → Nat
  | ⟨_, t, sc, _, ks⟩ => t.size + sc.length + ks.length + (ks.map fun k => k.cost).sum
def Fm.costs (ks : List Fm) : Nat := (ks.map Fm.cost).sum

theorem Fm.szs_nil : Fm.szs [] = 0 := rfl
theorem Fm.szs_cons (k : Fm) (r : List Fm) : Fm.szs (k :: r) = k.sz + Fm.szs r := by simp [Fm.szs]
theorem Fm.costs_nil : Fm.costs [] = 0 := rfl
theorem Fm.costs_cons (k : Fm) (r : List Fm) : Fm.costs (k :: r) = k.cost + Fm.costs r := by simp [Fm.costs]
theorem Fm.sz_kids (f : Fm) : f.sz = 1 + Fm.szs f.kids := by
  obtain ⟨s, t, sc, fr, ks⟩ := f
  rw [Fm.sz]; rfl
theorem Fm.cost_eq (f : Fm) : f.cost = f.text.size + f.scopes.length + f.kids.length + Fm.costs f.kids := by
  obtain ⟨s, t, sc, fr, ks⟩ := f
  rw [Fm.cost]; rfl

/-- A form's five cells, and what they lead to, all in blocks of B. -/
def FormAt (B : Nat → Prop) (w : World) : Fm → Value → Value → Value → Value → Value → Prop
  | ⟨s, t, sc, fr, ks⟩, c0, c1, c2, c3, c4 => c0 = .int .i64 s ∧ c1 = .string t ∧ t.size ≤ maxLen ∧ IntsAt B w c2 sc ∧ c3 = .int .i64 fr ∧
      ∃ a cap, c4 = .slice a ks.length cap ∧ ks.length ≤ maxLen ∧ (ks = [] ∨ ∃ b o, a = some ⟨b, o, none⟩ ∧ B b ∧ ∀ (i : Nat) (hi : i < ks.length),
        ∃ k0 k1 k2 k3 k4, w.cell? ⟨b, o + i * 5, none⟩ = some k0 ∧ w.cell? ⟨b, o + i * 5 + 1, none⟩ = some k1 ∧ w.cell? ⟨b, o + i * 5 + 2, none⟩ = some k2 ∧ w.cell? ⟨b, o + i * 5 + 3, none⟩ = some k3 ∧ w.cell? ⟨b, o + i * 5 + 4, none⟩ = some k4 ∧
          (have := List.sizeOf_lt_of_mem (List.getElem_mem hi); FormAt B w ks[i] k0 k1 k2 k3 k4))

/-- Forms that lie side by side from a cell on. -/
def RowAt (B : Nat → Prop) (w : World) (b o : Nat) (ks : List Fm) : Prop := ∀ (i : Nat) (hi : i < ks.length),
  ∃ k0 k1 k2 k3 k4, w.cell? ⟨b, o + i * 5, none⟩ = some k0 ∧ w.cell? ⟨b, o + i * 5 + 1, none⟩ = some k1 ∧ w.cell? ⟨b, o + i * 5 + 2, none⟩ = some k2 ∧ w.cell? ⟨b, o + i * 5 + 3, none⟩ = some k3 ∧ w.cell? ⟨b, o + i * 5 + 4, none⟩ = some k4 ∧ FormAt B w ks[i] k0 k1 k2 k3 k4

/-- A slice of forms. -/
def FormsAt (B : Nat → Prop) (w : World) (v : Value) (ks : List Fm) : Prop :=
  ∃ a cap, v = .slice a ks.length cap ∧ ks.length ≤ maxLen ∧ (ks = [] ∨ ∃ b o, a = some ⟨b, o, none⟩ ∧ B b ∧ RowAt B w b o ks)

theorem formAt_iff (B : Nat → Prop) (w : World) (f : Fm) (c0 c1 c2 c3 c4 : Value) : FormAt B w f c0 c1 c2 c3 c4 ↔
    c0 = .int .i64 f.sort ∧ c1 = .string f.text ∧ f.text.size ≤ maxLen ∧ IntsAt B w c2 f.scopes ∧ c3 = .int .i64 f.frm ∧ FormsAt B w c4 f.kids := by
  obtain ⟨s, t, sc, fr, ks⟩ := f
  rw [FormAt]; rfl

theorem RowAt.get {B : Nat → Prop} {w : World} {b : Nat} (ks : List Fm) {o : Nat} (h : RowAt B w b o ks) (i : Nat) (hi : i < ks.length) :
    ∃ c0 c1 c2 c3 c4, w.cell? ⟨b, o + i * 5, none⟩ = some c0 ∧ w.cell? ⟨b, o + i * 5 + 1, none⟩ = some c1 ∧ w.cell? ⟨b, o + i * 5 + 2, none⟩ = some c2 ∧ w.cell? ⟨b, o + i * 5 + 3, none⟩ = some c3 ∧ w.cell? ⟨b, o + i * 5 + 4, none⟩ = some c4 ∧ FormAt B w ks[i] c0 c1 c2 c3 c4 := h i hi
theorem RowAt.mk {B : Nat → Prop} {w : World} {b : Nat} (ks : List Fm) {o : Nat} (h : ∀ (i : Nat) (hi : i < ks.length),
    ∃ c0 c1 c2 c3 c4, w.cell? ⟨b, o + i * 5, none⟩ = some c0 ∧ w.cell? ⟨b, o + i * 5 + 1, none⟩ = some c1 ∧ w.cell? ⟨b, o + i * 5 + 2, none⟩ = some c2 ∧ w.cell? ⟨b, o + i * 5 + 3, none⟩ = some c3 ∧ w.cell? ⟨b, o + i * 5 + 4, none⟩ = some c4 ∧ FormAt B w ks[i] c0 c1 c2 c3 c4) : RowAt B w b o ks := h

theorem Fm.szs_get : ∀ (ks : List Fm) (i : Nat) (hi : i < ks.length), ks[i].sz ≤ Fm.szs ks
  | [], _, hi => absurd hi (Nat.not_lt_zero _)
  | k :: r, 0, _ => by rw [Fm.szs_cons]; simp
  | k :: r, i + 1, hi => by
    have := Fm.szs_get r i (by simpa using hi)
    simp only [List.getElem_cons_succ, Fm.szs_cons]; omega
theorem Fm.costs_get : ∀ (ks : List Fm) (i : Nat) (hi : i < ks.length), ks[i].cost ≤ Fm.costs ks
  | [], _, hi => absurd hi (Nat.not_lt_zero _)
  | k :: r, 0, _ => by rw [Fm.costs_cons]; simp
  | k :: r, i + 1, hi => by
    have := Fm.costs_get r i (by simpa using hi)
    simp only [List.getElem_cons_succ, Fm.costs_cons]; omega

theorem keep_upto {B : Nat → Prop} {w w' : World} (hb : SameOn B w w') : ∀ (n : Nat) (f : Fm), f.sz ≤ n → ∀ {c0 c1 c2 c3 c4 : Value}, FormAt B w f c0 c1 c2 c3 c4 → FormAt B w' f c0 c1 c2 c3 c4
  | 0, f, hn, _, _, _, _, _, _ => by have := Fm.sz_kids f; omega
  | n + 1, f, hn, c0, c1, c2, c3, c4, h => by
    have hsz := Fm.sz_kids f
    rw [formAt_iff] at h ⊢
    obtain ⟨h0, h1, h2, h3, h4, a, cap, h5, h6, h7⟩ := h
    refine ⟨h0, h1, h2, h3.keep hb, h4, a, cap, h5, h6, ?_⟩
    rcases h7 with h7 | ⟨b, o, h7, h8, h9⟩
    · exact Or.inl h7
    · refine Or.inr ⟨b, o, h7, h8, fun i hi => ?_⟩
      obtain ⟨k0, k1, k2, k3, k4, e0, e1, e2, e3, e4, e5⟩ := h9 i hi
      exact ⟨k0, k1, k2, k3, k4, (hb.cell h8 _).trans e0, (hb.cell h8 _).trans e1, (hb.cell h8 _).trans e2, (hb.cell h8 _).trans e3, (hb.cell h8 _).trans e4, keep_upto hb n _ (by have := Fm.szs_get f.kids i hi; omega) e5⟩
theorem mono_upto {B B' : Nat → Prop} {w : World} (hb : ∀ b, B b → B' b) : ∀ (n : Nat) (f : Fm), f.sz ≤ n → ∀ {c0 c1 c2 c3 c4 : Value}, FormAt B w f c0 c1 c2 c3 c4 → FormAt B' w f c0 c1 c2 c3 c4
  | 0, f, hn, _, _, _, _, _, _ => by have := Fm.sz_kids f; omega
  | n + 1, f, hn, c0, c1, c2, c3, c4, h => by
    have hsz := Fm.sz_kids f
    rw [formAt_iff] at h ⊢
    obtain ⟨h0, h1, h2, h3, h4, a, cap, h5, h6, h7⟩ := h
    refine ⟨h0, h1, h2, h3.mono hb, h4, a, cap, h5, h6, ?_⟩
    rcases h7 with h7 | ⟨b, o, h7, h8, h9⟩
    · exact Or.inl h7
    · refine Or.inr ⟨b, o, h7, hb b h8, fun i hi => ?_⟩
      obtain ⟨k0, k1, k2, k3, k4, e0, e1, e2, e3, e4, e5⟩ := h9 i hi
      exact ⟨k0, k1, k2, k3, k4, e0, e1, e2, e3, e4, mono_upto hb n _ (by have := Fm.szs_get f.kids i hi; omega) e5⟩

theorem FormAt.keep {B : Nat → Prop} {w w' : World} (hb : SameOn B w w') (f : Fm) {c0 c1 c2 c3 c4 : Value} (h : FormAt B w f c0 c1 c2 c3 c4) : FormAt B w' f c0 c1 c2 c3 c4 := keep_upto hb f.sz f (Nat.le_refl _) h
theorem FormAt.mono {B B' : Nat → Prop} {w : World} (hb : ∀ b, B b → B' b) (f : Fm) {c0 c1 c2 c3 c4 : Value} (h : FormAt B w f c0 c1 c2 c3 c4) : FormAt B' w f c0 c1 c2 c3 c4 := mono_upto hb f.sz f (Nat.le_refl _) h
theorem RowAt.keep {B : Nat → Prop} {w w' : World} (hb : SameOn B w w') {b : Nat} (hB : B b) (ks : List Fm) {o : Nat} (h : RowAt B w b o ks) : RowAt B w' b o ks := fun i hi => by
  obtain ⟨k0, k1, k2, k3, k4, e0, e1, e2, e3, e4, e5⟩ := h i hi
  exact ⟨k0, k1, k2, k3, k4, (hb.cell hB _).trans e0, (hb.cell hB _).trans e1, (hb.cell hB _).trans e2, (hb.cell hB _).trans e3, (hb.cell hB _).trans e4, FormAt.keep hb _ e5⟩
theorem RowAt.mono {B B' : Nat → Prop} {w : World} (hb : ∀ b, B b → B' b) {b : Nat} (ks : List Fm) {o : Nat} (h : RowAt B w b o ks) : RowAt B' w b o ks := fun i hi => by
  obtain ⟨k0, k1, k2, k3, k4, e0, e1, e2, e3, e4, e5⟩ := h i hi
  exact ⟨k0, k1, k2, k3, k4, e0, e1, e2, e3, e4, FormAt.mono hb _ e5⟩
theorem FormsAt.keep {B : Nat → Prop} {w w' : World} (hb : SameOn B w w') {v : Value} {ks : List Fm} (h : FormsAt B w v ks) : FormsAt B w' v ks := by
  obtain ⟨a, cap, e, hl, h⟩ := h
  refine ⟨a, cap, e, hl, ?_⟩
  rcases h with h | ⟨b, o, e, hB, h⟩
  · exact Or.inl h
  · exact Or.inr ⟨b, o, e, hB, RowAt.keep hb hB ks h⟩
theorem FormsAt.mono {B B' : Nat → Prop} {w : World} (hb : ∀ b, B b → B' b) {v : Value} {ks : List Fm} (h : FormsAt B w v ks) : FormsAt B' w v ks := by
  obtain ⟨a, cap, e, hl, h⟩ := h
  refine ⟨a, cap, e, hl, ?_⟩
  rcases h with h | ⟨b, o, e, hB, h⟩
  · exact Or.inl h
  · exact Or.inr ⟨b, o, e, hb b hB, RowAt.mono hb ks h⟩

theorem Fm.costs_take (ks : List Fm) (k : Nat) (h : k < ks.length) : Fm.costs (ks.take (k + 1)) = Fm.costs (ks.take k) + ks[k].cost := by
  rw [List.take_succ_eq_append_getElem h]; unfold Fm.costs
  simp only [List.map_append, List.sum_append, List.map_cons, List.map_nil, List.sum_cons, List.sum_nil, Nat.add_zero]
theorem Fm.szs_take (ks : List Fm) (k : Nat) (h : k < ks.length) : Fm.szs (ks.take (k + 1)) = Fm.szs (ks.take k) + ks[k].sz := by
  rw [List.take_succ_eq_append_getElem h]; unfold Fm.szs
  simp only [List.map_append, List.sum_append, List.map_cons, List.map_nil, List.sum_cons, List.sum_nil, Nat.add_zero]
theorem Fm.costs_take_le : ∀ (ks : List Fm) (k : Nat), Fm.costs (ks.take k) ≤ Fm.costs ks
  | [], k => by simp
  | a :: r, 0 => by simp [Fm.costs]
  | a :: r, k + 1 => by have := Fm.costs_take_le r k; simp only [List.take_succ_cons, Fm.costs_cons]; omega
theorem Fm.szs_take_le : ∀ (ks : List Fm) (k : Nat), Fm.szs (ks.take k) ≤ Fm.szs ks
  | [], k => by simp
  | a :: r, 0 => by simp [Fm.szs]
  | a :: r, k + 1 => by have := Fm.szs_take_le r k; simp only [List.take_succ_cons, Fm.szs_cons]; omega
theorem sz_upto : ∀ (n : Nat) (f : Fm), f.sz ≤ n → f.sz ≤ 1 + f.cost
  | 0, f, hn => by have := Fm.sz_kids f; omega
  | n + 1, f, hn => by
    have h1 := Fm.sz_kids f
    have h2 := Fm.cost_eq f
    have h3 : ∀ ks : List Fm, Fm.szs ks ≤ n → Fm.szs ks ≤ ks.length + Fm.costs ks := by
      intro ks
      induction ks with
      | nil => intro _; simp [Fm.szs]
      | cons k r ih =>
        intro hk
        rw [Fm.szs_cons] at hk ⊢
        rw [Fm.costs_cons, List.length_cons]
        have := sz_upto n k (by omega)
        have := ih (by omega)
        omega
    have := h3 f.kids (by omega)
    omega
theorem Fm.sz_le (f : Fm) : f.sz ≤ 1 + f.cost := sz_upto f.sz f (Nat.le_refl _)

end Go.Siskin

namespace Go.Siskin
open Go.RowKit

/-- The cells of numbers. -/
def numL (k : IntKind) (xs : List Nat) : List Value := xs.map fun x : Nat => Value.int k (x : Int)
theorem numL_length (k : IntKind) (xs : List Nat) : (numL k xs).length = xs.length := by simp [numL]
theorem numL_get (k : IntKind) (xs : List Nat) (i : Nat) (h : i < xs.length) : (numL k xs)[i]? = some (.int k (xs[i] : Int)) := by simp [numL, h]
theorem numL_snoc (k : IntKind) (xs : List Nat) (x : Nat) : numL k (xs ++ [x]) = numL k xs ++ [.int k (x : Int)] := by simp [numL]
theorem numL_set (k : IntKind) (xs : List Nat) (i x : Nat) : numL k (xs.set i x) = (numL k xs).set i (.int k (x : Int)) := by simp [numL, List.map_set]

/-- A slice of numbers that lies in blocks of B. -/
def RowOf (k : IntKind) (B : Nat → Prop) (w : World) (v : Value) (xs : List Nat) : Prop :=
  ∃ a cap, v = .slice a xs.length cap ∧ xs.length ≤ cap ∧ cap ≤ maxLen ∧ (xs = [] ∨ ∃ b o, a = some ⟨b, o, none⟩ ∧ B b ∧ ∀ i (h : i < xs.length), w.cell? ⟨b, o + i, none⟩ = some (.int k (xs[i] : Int)))

theorem RowOf.keep {k : IntKind} {B : Nat → Prop} {w w' : World} {v : Value} {xs : List Nat} (h : RowOf k B w v xs) (hb : SameOn B w w') : RowOf k B w' v xs := by
  obtain ⟨a, cap, e, h1, h2, h⟩ := h
  refine ⟨a, cap, e, h1, h2, ?_⟩
  rcases h with h | ⟨b, o, e, hB, h⟩
  · exact Or.inl h
  · exact Or.inr ⟨b, o, e, hB, fun i hi => (hb.cell hB (o + i)).trans (h i hi)⟩
theorem RowOf.mono {k : IntKind} {B B' : Nat → Prop} {w : World} {v : Value} {xs : List Nat} (h : RowOf k B w v xs) (hb : ∀ b, B b → B' b) : RowOf k B' w v xs := by
  obtain ⟨a, cap, e, h1, h2, h⟩ := h
  refine ⟨a, cap, e, h1, h2, ?_⟩
  rcases h with h | ⟨b, o, e, hB, h⟩
  · exact Or.inl h
  · exact Or.inr ⟨b, o, e, hb b hB, h⟩

/-- Groups that lie in what is there. -/
def NatA (w : World) (v : Value) (gs : List Nat) : Prop := RowOf .u64 (fun b => b < w.heap.size) w v gs
theorem NatA.below {w w' : World} {v : Value} {gs : List Nat} {n : Nat} (h : NatA w v gs) (hb : Below n w w') (hn : w.heap.size ≤ n) : NatA w' v gs := by
  have hs := hb.size
  exact (RowOf.keep h (hb.on (fun b hb => by omega))).mono (fun b h => by omega)
theorem NatA.alloc {w : World} {v : Value} {gs : List Nat} (h : NatA w v gs) (o : Obj) : NatA (w.alloc o) v gs := h.below ((Below.refl w.heap.size w).alloc (Nat.le_refl _) o) (Nat.le_refl _)
theorem NatA.drew {w : World} {v : Value} {gs : List Nat} (h : NatA w v gs) : NatA w.drew v gs := h.below (Below.refl w.heap.size w).drew (Nat.le_refl _)
theorem NatA.nil {w : World} : NatA w (.slice none 0 0) [] := ⟨none, 0, rfl, Nat.le_refl _, Nat.zero_le _, Or.inl rfl⟩

theorem cell_one_newZ (w : World) (v : Value) (t : TypeId) : ∀ (j : Nat) u, [v][j]? = some u → (w.alloc (.cells #[v] t)).cell? ((⟨w.heap.size, 0, none⟩ : Addr).add j) = some u := by
  intro j u h
  cases j with
  | zero =>
    simp at h; subst h
    rw [show (⟨w.heap.size, 0, none⟩ : Addr).add 0 = ⟨w.heap.size, 0, none⟩ by simp [Addr.add]]
    exact (own_new w #[v] t).cell 0
  | succ j => simp at h

theorem ownsRow_get {w : World} {base n : Nat} {e : TypeId} {k : IntKind} {v : Value} {xs : List Nat} (h : w.ownsRow base e 1 v n (numL k xs)) {B : Nat → Prop} (hB : ∀ g, v.ownBlock = some g → B g) : RowOf k B w v xs := by
  have hl := h.1
  rw [numL_length] at hl
  rcases h.2 with ⟨rfl, h0⟩ | ⟨g, cap, cur, rfl, hb, hg, hcap, hc2, -, -⟩
  · have : xs = [] := List.length_eq_zero_iff.1 (by omega)
    subst this
    exact ⟨none, 0, rfl, Nat.le_refl _, Nat.zero_le _, Or.inl rfl⟩
  · refine ⟨some ⟨g, 0, none⟩, cap, by rw [hl, Nat.mul_one], by omega, hc2, Or.inr ⟨g, 0, rfl, hB g rfl, fun i hi => ?_⟩⟩
    have k' := h.cells (g := g) rfl i _ (numL_get k xs i hi)
    rw [Go.WideShapes.add_plain] at k'
    exact k'
theorem natA_own {w : World} {base n : Nat} {e : TypeId} {v : Value} {xs : List Nat} (h : w.ownsRow base e 1 v n (numL .u64 xs)) : NatA w v xs := ownsRow_get h (fun g e => (h.lt g e).2)
theorem intsAt_own {w : World} {base n : Nat} {e : TypeId} {v : Value} {xs : List Nat} (h : w.ownsRow base e 1 v n (numL .i64 xs)) (hn : xs.length ≤ maxLen) : IntsAt (fun b => b < w.heap.size) w v (xs.map fun d : Nat => (d : Int)) := by
  obtain ⟨a, cap, e, h1, h2, h3⟩ := ownsRow_get h (B := fun b => b < w.heap.size) (fun g e => (h.lt g e).2)
  refine ⟨a, cap, by rw [List.length_map]; exact e, ⟨by rw [List.length_map]; omega, by rw [List.length_map]; omega⟩, ?_⟩
  rcases h3 with h3 | ⟨b, o, e, hB, h3⟩
  · left; rw [h3]; rfl
  · refine Or.inr ⟨b, o, e, hB, fun i hi => ?_⟩
    rw [List.length_map] at hi
    rw [h3 i hi]; simp [List.getD_eq_getElem?_getD, hi]
end Go.Siskin
namespace Go.Proofs.YtbbffhpppacihaaDoor
open Go.RowKit Go.Siskin

theorem Tryd.infoIntZ : (Tryd.prog.info? 3).map (fun i => (i.zero, i.size, i.bytes)) = some (some (.int .i64 0), 1, 8) := by kernel_rfl
theorem Tryd.infoWordZ : (Tryd.prog.info? 80).map (fun i => (i.zero, i.size, i.bytes)) = some (some (.int .u64 0), 1, 8) := by kernel_rfl
theorem ret_exz {v v' : Value} (h : v = v') : Ending.returned v = .returned v' := by rw [h]

/-- The table of powers of ten stands. -/
def Pow9 (w : World) : Prop := 1 < w.heap.size ∧ ∀ i, i < 9 → w.cell? ⟨1, i, none⟩ = some (.int .u64 ((10 ^ i : Nat) : Int))
theorem Pow9.below {w w' : World} {n : Nat} (h : Pow9 w) (hb : Below n w w') (hn : w.heap.size ≤ n) : Pow9 w' := by
  obtain ⟨h0, h1⟩ := h
  exact ⟨by have := hb.size; omega, fun i hi => (hb.cell (p := ⟨1, i, none⟩) (by show 1 < n; omega)).trans (h1 i hi)⟩
theorem Pow9.alloc {w : World} (h : Pow9 w) (o : Obj) : Pow9 (w.alloc o) := h.below ((Below.refl w.heap.size w).alloc (Nat.le_refl _) o) (Nat.le_refl _)
theorem Pow9.drew {w : World} (h : Pow9 w) : Pow9 w.drew := h.below (Below.refl w.heap.size w).drew (Nat.le_refl _)
end Go.Proofs.YtbbffhpppacihaaDoor

namespace Go.Siskin

/-- The last m decimal digits of v, the first ahead. -/
def digL (m v : Nat) : List UInt8 := (List.range m).map fun t => Lib.dg v (m - 1 - t)
def digT (m v : Nat) : ByteArray := ⟨(digL m v).toArray⟩
/-- The numeral of v. -/
def dec (v : Nat) : ByteArray := digT (Lib.nDigits v) v

theorem digL_length (m v : Nat) : (digL m v).length = m := by simp [digL]
theorem digT_size (m v : Nat) : (digT m v).size = m := by
  show (digL m v).toArray.size = m
  rw [List.size_toArray, digL_length]
theorem dec_size (v : Nat) : (dec v).size = Lib.nDigits v := digT_size _ _
theorem dg_nat (v j : Nat) : (Lib.dg v j).toNat = 48 + v / 10 ^ j % 10 := by
  unfold Lib.dg
  have : v / 10 ^ j % 10 < 10 := Nat.mod_lt _ (by decide)
  simp; omega
theorem digT_get (m v k : Nat) (h : k < (digT m v).size) : (digT m v)[k] = Lib.dg v (m - 1 - k) := by
  show (digL m v).toArray[k] = _
  simp [digL]
theorem digT_nat (m v k : Nat) (h : k < (digT m v).size) : ((digT m v)[k].toNat : Int) = 48 + ((v / 10 ^ (m - 1 - k) % 10 : Nat) : Int) := by
  rw [digT_get, dg_nat]; omega
theorem dec_list (v : Nat) : (dec v).data.toList = Lib.decDigits v := by
  show (digL (Lib.nDigits v) v).toArray.toList = _
  rw [List.toList_toArray, Lib.decDigits_eq]; rfl
theorem dec_eq (v : Nat) : dec v = ⟨(Lib.decDigits v).toArray⟩ := by
  unfold dec digT; rw [Lib.decDigits_eq]; rfl
theorem dec_small {v : Nat} (h : v < 10) : dec v = ⟨#[UInt8.ofNat (48 + v)]⟩ := by
  rw [dec_eq, Lib.decDigits, dif_pos h]
theorem dec_big {v : Nat} (h : ¬ v < 10) : dec v = dec (v / 10) ++ ⟨#[UInt8.ofNat (48 + v % 10)]⟩ := by
  rw [dec_eq, Lib.decDigits, dif_neg h, dec_eq]
  apply ByteArray.ext
  rw [ByteArray.data_append]; simp

theorem ba_ext {a b : ByteArray} (h : a.data.toList = b.data.toList) : a = b := by
  apply ByteArray.ext
  exact Array.toList_inj.1 h

theorem digL_succ (m v : Nat) : digL (m + 1) v = digL m (v / 10) ++ [UInt8.ofNat (48 + v % 10)] := by
  unfold digL
  rw [List.range_succ, List.map_append]
  congr 1
  · refine List.map_congr_left fun t ht => ?_
    have ht' : t < m := List.mem_range.1 ht
    rw [show m + 1 - 1 - t = (m - 1 - t) + 1 by omega, Lib.dg_succ]
  · simp [Lib.dg]
theorem digT_snoc (m v d : Nat) (h : d < 10) : digT m v ++ ⟨#[UInt8.ofNat (48 + d)]⟩ = digT (m + 1) (v * 10 + d) := by
  apply ba_ext
  rw [ByteArray.data_append]
  show (((digL m v).toArray) ++ #[UInt8.ofNat (48 + d)]).toList = (digL (m + 1) (v * 10 + d)).toArray.toList
  rw [digL_succ, show (v * 10 + d) / 10 = v by omega, show (v * 10 + d) % 10 = d by omega]; simp
theorem digT_drop (m v k : Nat) : (digT m v).extract k m = digT (m - k) v := by
  apply ba_ext
  rw [ByteArray.data_extract, Array.toList_extract]
  show ((digL m v).toArray.toList.drop k).take (m - k) = (digL (m - k) v).toArray.toList
  rw [List.toList_toArray, List.toList_toArray]
  apply List.ext_getElem
  · simp [digL]
  · intro i h1 h2
    simp [digL] at h1 h2 ⊢
    congr 1; omega
theorem nDigits_of {m v : Nat} (h1 : v < 10 ^ m) (h2 : m = 1 ∨ (0 < m ∧ v / 10 ^ (m - 1) % 10 ≠ 0)) : Lib.nDigits v = m := by
  rcases h2 with rfl | ⟨h0, h2⟩
  · exact Lib.nDigits_small (by simpa using h1)
  · obtain ⟨k, rfl⟩ : ∃ k, m = k + 1 := ⟨m - 1, by omega⟩
    refine Lib.nDigits_unique k v ?_ h1
    rcases Nat.lt_or_ge v (10 ^ k) with h | h
    · rw [Nat.add_sub_cancel, Nat.div_eq_of_lt h] at h2; simp at h2
    · exact h
theorem digT_dec {m v : Nat} (h1 : v < 10 ^ m) (h2 : m = 1 ∨ (0 < m ∧ v / 10 ^ (m - 1) % 10 ≠ 0)) : digT m v = dec v := by
  unfold dec; rw [nDigits_of h1 h2]
theorem pow_le_dec {v : Nat} (h : 0 < v) : 10 ^ (Lib.nDigits v - 1) ≤ v := by
  induction v using Nat.strongRecOn with
  | _ v ih =>
    by_cases hv : v < 10
    · rw [Lib.nDigits_small hv]; simp; omega
    · rw [Lib.nDigits_big hv]
      have := ih (v / 10) (by omega) (by omega)
      have hp := Lib.nDigits_pos (v / 10)
      obtain ⟨k, hk⟩ : ∃ k, Lib.nDigits (v / 10) = k + 1 := ⟨Lib.nDigits (v / 10) - 1, by omega⟩
      rw [hk] at this ⊢
      simp only [Nat.add_sub_cancel] at this ⊢
      rw [Nat.pow_succ]; omega
theorem dec_top {v : Nat} (h : 0 < v) : v / 10 ^ (Lib.nDigits v - 1) % 10 ≠ 0 := by
  have h1 := pow_le_dec h
  have h2 := Lib.lt_pow_nDigits v
  have h3 := Lib.nDigits_pos v
  obtain ⟨k, hk⟩ : ∃ k, Lib.nDigits v = k + 1 := ⟨Lib.nDigits v - 1, by omega⟩
  rw [hk] at h1 h2 ⊢
  simp only [Nat.add_sub_cancel] at h1 ⊢
  rw [Nat.pow_succ] at h2
  have hp : 0 < 10 ^ k := Nat.pow_pos (by decide)
  have a1 : 0 < v / 10 ^ k := Nat.div_pos h1 hp
  have a2 : v / 10 ^ k < 10 := Nat.div_lt_of_lt_mul h2
  rw [Nat.mod_eq_of_lt a2]; omega
theorem nDigits_mono {a b : Nat} (h : a ≤ b) : Lib.nDigits a ≤ Lib.nDigits b := by
  by_cases ha : a = 0
  · subst ha; rw [Lib.nDigits_small (by decide)]; exact Lib.nDigits_pos b
  · have h1 := pow_le_dec (v := a) (by omega)
    have h2 := Lib.lt_pow_nDigits b
    have h3 : 10 ^ (Lib.nDigits a - 1) < 10 ^ Lib.nDigits b := by omega
    have h4 := (Nat.pow_lt_pow_iff_right (by decide)).1 h3
    omega
theorem nDigits_le {v m : Nat} (h : v < 10 ^ m) (hm : 0 < m) : Lib.nDigits v ≤ m := by
  by_cases hv : v = 0
  · subst hv; rw [Lib.nDigits_small (by decide)]; exact hm
  · have h1 := pow_le_dec (v := v) (by omega)
    have h3 : 10 ^ (Lib.nDigits v - 1) < 10 ^ m := by omega
    have h4 := (Nat.pow_lt_pow_iff_right (by decide)).1 h3
    omega
theorem high_zero {v j : Nat} (h : Lib.nDigits v ≤ j) : v / 10 ^ j = 0 := by
  apply Nat.div_eq_of_lt
  exact Nat.lt_of_lt_of_le (Lib.lt_pow_nDigits v) (Nat.pow_le_pow_right (by decide) h)

theorem dec_inj {a b : Nat} (h : dec a = dec b) : a = b := by
  induction a using Nat.strongRecOn generalizing b with
  | _ a ih =>
    have hs : Lib.nDigits a = Lib.nDigits b := by rw [← dec_size, ← dec_size, h]
    by_cases ha : a < 10
    · by_cases hb : b < 10
      · rw [dec_small ha, dec_small hb] at h
        have h := congrArg (fun x : ByteArray => x.data.toList) h
        simp at h
        have := congrArg UInt8.toNat h
        simp at this; omega
      · rw [Lib.nDigits_small ha, Lib.nDigits_big hb] at hs
        have := Lib.nDigits_pos (b / 10); omega
    · by_cases hb : b < 10
      · rw [Lib.nDigits_small hb, Lib.nDigits_big ha] at hs
        have := Lib.nDigits_pos (a / 10); omega
      · rw [dec_big ha, dec_big hb] at h
        have h := congrArg (fun x : ByteArray => x.data.toList) h
        simp [ByteArray.data_append] at h
        have e1 := ih (a / 10) (by omega) (b := b / 10) (ByteArray.ext h.1)
        have := congrArg UInt8.toNat h.2
        simp at this; omega
end Go.Siskin

namespace Go.Siskin

theorem p9 : (1000000000 : Nat) = 10 ^ 9 := rfl
theorem p9k (k : Nat) : 1000000000 ^ k = 10 ^ (9 * k) := by rw [p9, Nat.pow_mul]
theorem p9pos (k : Nat) : 0 < 1000000000 ^ k := Nat.pow_pos (by decide)

/-- The lowest m groups of v. -/
def grpN (m v : Nat) : List Nat := (List.range m).map fun i => v / 1000000000 ^ i % 1000000000
/-- How many groups v has; nought has none. -/
def nG (v : Nat) : Nat := if v = 0 then 0 else (Lib.nDigits v - 1) / 9 + 1
/-- The groups of v. -/
def grp (v : Nat) : List Nat := grpN (nG v) v

theorem grpN_length (m v : Nat) : (grpN m v).length = m := by simp [grpN]
theorem grp_length (v : Nat) : (grp v).length = nG v := grpN_length _ _
theorem grpN_get (m v i : Nat) (h : i < (grpN m v).length) : (grpN m v)[i] = v / 1000000000 ^ i % 1000000000 := by simp [grpN]
theorem grpN_zero (v : Nat) : grpN 0 v = [] := rfl
theorem grpN_snoc (m v : Nat) : grpN (m + 1) v = grpN m v ++ [v / 1000000000 ^ m % 1000000000] := by
  unfold grpN; rw [List.range_succ, List.map_append]; rfl
theorem grpN_take (m j v : Nat) (h : j ≤ m) : (grpN m v).take j = grpN j v := by
  apply List.ext_getElem
  · simp [grpN]; omega
  · intro i h1 h2; simp [grpN]
theorem grpN_drop (m j v : Nat) : (grpN m v).drop j = grpN (m - j) (v / 1000000000 ^ j) := by
  apply List.ext_getElem
  · simp [grpN]
  · intro i h1 h2
    simp only [grpN, List.getElem_drop, List.getElem_map, List.getElem_range]
    rw [Nat.div_div_eq_div_mul, ← Nat.pow_add]

theorem nG_zero : nG 0 = 0 := rfl
theorem grp_zero : grp 0 = [] := rfl
theorem nG_pos {v : Nat} (h : 0 < v) : 0 < nG v := by unfold nG; rw [if_neg (by omega)]; omega
theorem lt_pow_nG (v : Nat) : v < 1000000000 ^ nG v := by
  by_cases h : v = 0
  · subst h; simp [nG]
  · rw [p9k]
    unfold nG; rw [if_neg h]
    refine Nat.lt_of_lt_of_le (Lib.lt_pow_nDigits v) (Nat.pow_le_pow_right (by decide) ?_)
    have := Lib.nDigits_pos v
    omega
theorem pow_le_nG {v : Nat} (h : 0 < v) : 1000000000 ^ (nG v - 1) ≤ v := by
  rw [p9k]
  unfold nG; rw [if_neg (by omega)]
  refine Nat.le_trans (Nat.pow_le_pow_right (by decide) ?_) (pow_le_dec h)
  omega
theorem nG_of {v m : Nat} (h1 : v < 1000000000 ^ m) (h2 : m = 0 ∨ 1000000000 ^ (m - 1) ≤ v) : nG v = m := by
  rcases Nat.eq_zero_or_pos v with h0 | h0
  · subst h0
    rcases h2 with h2 | h2
    · subst h2; rfl
    · have := p9pos (m - 1); omega
  · have a1 := lt_pow_nG v
    have a2 := pow_le_nG h0
    have a3 := nG_pos h0
    rcases h2 with h2 | h2
    · subst h2; simp at h1; omega
    · have b1 : 1000000000 ^ (nG v - 1) < 1000000000 ^ m := by omega
      have b2 := (Nat.pow_lt_pow_iff_right (by decide)).1 b1
      have b3 : 1000000000 ^ (m - 1) < 1000000000 ^ nG v := by omega
      have b4 := (Nat.pow_lt_pow_iff_right (by decide)).1 b3
      omega
theorem grpN_grp {v m : Nat} (h1 : v < 1000000000 ^ m) (h2 : m = 0 ∨ 1000000000 ^ (m - 1) ≤ v) : grpN m v = grp v := by unfold grp; rw [nG_of h1 h2]
theorem nG_le {v m : Nat} (h : v < 1000000000 ^ m) : nG v ≤ m := by
  rcases Nat.eq_zero_or_pos v with h0 | h0
  · subst h0; exact Nat.zero_le _
  · have a2 := pow_le_nG h0
    have a3 := nG_pos h0
    have b1 : 1000000000 ^ (nG v - 1) < 1000000000 ^ m := by omega
    have b2 := (Nat.pow_lt_pow_iff_right (by decide)).1 b1
    omega
theorem nG_mono {a b : Nat} (h : a ≤ b) : nG a ≤ nG b := nG_le (Nat.lt_of_le_of_lt h (lt_pow_nG b))
theorem nG_one {v : Nat} (h0 : 0 < v) (h : v < 1000000000) : nG v = 1 := nG_of (by simpa using h) (Or.inr (by simp; omega))
theorem grp_one {v : Nat} (h0 : 0 < v) (h : v < 1000000000) : grp v = [v] := by
  unfold grp; rw [nG_one h0 h]; simp [grpN, Nat.mod_eq_of_lt h]
theorem nG_is_zero {v : Nat} : nG v = 0 ↔ v = 0 := by
  constructor
  · intro h
    have := lt_pow_nG v
    rw [h] at this; simp at this; exact this
  · rintro rfl; rfl
/-- The greatest group is not nought. -/
theorem top_pos {v : Nat} (h : 0 < v) : 0 < v / 1000000000 ^ (nG v - 1) ∧ v / 1000000000 ^ (nG v - 1) < 1000000000 := by
  have a1 := lt_pow_nG v
  have a2 := pow_le_nG h
  have a3 := nG_pos h
  refine ⟨Nat.div_pos a2 (p9pos _), Nat.div_lt_of_lt_mul ?_⟩
  rw [← Nat.pow_succ, show (nG v - 1).succ = nG v by omega]
  exact a1
theorem top_get {v : Nat} (h : 0 < v) : v / 1000000000 ^ (nG v - 1) % 1000000000 = v / 1000000000 ^ (nG v - 1) := Nat.mod_eq_of_lt (top_pos h).2

/-- A digit out of its group. -/
theorem digit_group (v p : Nat) : v / 1000000000 ^ (p / 9) % 1000000000 / 10 ^ (p % 9) % 10 = v / 10 ^ p % 10 := by
  rw [p9k]
  obtain ⟨q, hq⟩ : ∃ q, q = p / 9 := ⟨_, rfl⟩
  obtain ⟨r, hr⟩ : ∃ r, r = p % 9 := ⟨_, rfl⟩
  rw [← hq, ← hr]
  have hp : p = 9 * q + r := by omega
  have hr9 : r < 9 := by omega
  rw [hp, Nat.pow_add, ← Nat.div_div_eq_div_mul]
  generalize v / 10 ^ (9 * q) = x
  obtain ⟨s, hs⟩ : ∃ s, 9 = r + (s + 1) := ⟨9 - r - 1, by omega⟩
  rw [p9, hs, Nat.pow_add, Nat.mod_mul_right_div_self, Nat.mod_mod_of_dvd]
  exact ⟨10 ^ s, by rw [Nat.pow_succ, Nat.mul_comm]⟩

/-- How many digits, by the greatest group. -/
theorem nDigits_top {v : Nat} (h : 0 < v) : Lib.nDigits v = 9 * (nG v - 1) + Lib.nDigits (v / 1000000000 ^ (nG v - 1)) := by
  obtain ⟨k, hk⟩ : ∃ k, k = nG v - 1 := ⟨_, rfl⟩
  have t := top_pos h
  rw [← hk] at t ⊢
  obtain ⟨x, hx⟩ : ∃ x, x = v / 1000000000 ^ k := ⟨_, rfl⟩
  rw [← hx] at t ⊢
  have hp := Lib.nDigits_pos x
  obtain ⟨d, hd⟩ : ∃ d, Lib.nDigits x = d + 1 := ⟨Lib.nDigits x - 1, by omega⟩
  have l1 := Lib.lt_pow_nDigits x
  have l2 := pow_le_dec t.1
  rw [hd] at l1 l2 ⊢
  rw [Nat.add_sub_cancel] at l2
  rw [← Nat.add_assoc]
  have hP := p9pos k
  refine Lib.nDigits_unique (9 * k + d) v ?_ ?_
  · rw [Nat.pow_add, ← p9k]
    refine Nat.le_trans (Nat.mul_le_mul_left _ l2) ?_
    rw [hx]; exact Nat.mul_div_le v _
  · rw [Nat.add_assoc, Nat.pow_add, ← p9k]
    refine Nat.lt_of_lt_of_le ?_ (Nat.mul_le_mul_left _ (Nat.succ_le_of_lt l1))
    rw [hx, Nat.mul_comm]
    have h1 := Nat.div_add_mod v (1000000000 ^ k)
    have h2 := Nat.mod_lt v hP
    rw [Nat.succ_mul, Nat.mul_comm (v / _)]; omega
/-- How many of the nine powers are not above x. -/
def nPow (x j : Nat) : Nat := ((List.range j).filter fun i => 10 ^ i ≤ x).length
theorem nPow_succ (x j : Nat) : nPow x (j + 1) = nPow x j + if 10 ^ j ≤ x then 1 else 0 := by
  unfold nPow
  rw [List.range_succ, List.filter_append, List.length_append]
  by_cases h : 10 ^ j ≤ x
  · rw [if_pos h, List.filter_cons_of_pos (by simpa using h)]; rfl
  · rw [if_neg h, List.filter_cons_of_neg (by simpa using h)]; rfl
theorem nPow_le (x : Nat) : ∀ j, nPow x j ≤ j
  | 0 => Nat.le_refl _
  | j + 1 => by
    rw [nPow_succ]
    have := nPow_le x j
    split <;> omega
theorem nPow_min {x : Nat} (h : 0 < x) : ∀ j, nPow x j = min j (Lib.nDigits x)
  | 0 => by simp [nPow]
  | j + 1 => by
    rw [nPow_succ, nPow_min h j]
    have l1 := Lib.lt_pow_nDigits x
    have l2 := pow_le_dec h
    have hp := Lib.nDigits_pos x
    by_cases hj : 10 ^ j ≤ x
    · rw [if_pos hj]
      have : 10 ^ j < 10 ^ Lib.nDigits x := by omega
      have := (Nat.pow_lt_pow_iff_right (by decide)).1 this
      omega
    · rw [if_neg hj]
      have : 10 ^ (Lib.nDigits x - 1) < 10 ^ j := by omega
      have := (Nat.pow_lt_pow_iff_right (by decide)).1 this
      omega
theorem nPow_nine {x : Nat} (h : 0 < x) (h9 : x < 1000000000) : nPow x 9 = Lib.nDigits x := by
  rw [nPow_min h]
  have := nDigits_le (v := x) (m := 9) (by rw [← p9]; exact h9) (by decide)
  omega
end Go.Siskin

namespace Go.Proofs.YtbbffhpppacihaaDoor
open Go.RowKit Go.Siskin

theorem ret_boolz {a b : Bool} (h : a = b) : Ending.returned (.bool a) = .returned (.bool b) := by rw [h]
theorem ret_intz {k : IntKind} {a b : Int} (h : a = b) : Ending.returned (.int k a) = .returned (.int k b) := by rw [h]
theorem ret_strz {a b : ByteArray} (h : a = b) : Ending.returned (.string a) = .returned (.string b) := by rw [h]

set_option maxHeartbeats 400000 in
theorem l11At_any (m v k : Nat) (w : World) (hm : m ≤ maxLen) (hk : k ≤ maxLen) (hv : v < 10 ^ m) :
    Calls Tryd.prog 86 #[.string (digT m v), .int .i64 k] w fun e w' => e = .returned (.int .i64 ((v / 10 ^ k % 10 : Nat) : Int)) ∧ w' = w := by
  have hsz := digT_size m v
  have hsz' : ((digT m v).size : Int) = m := by rw [hsz]
  unfold maxLen at hm hk
  have HV := hid hv
  clear hv
  by_cases h : m ≤ k
  · have HE : Hid (v / 10 ^ k % 10 = 0) := by
      show _ = _
      rw [Nat.div_eq_of_lt (Nat.lt_of_lt_of_le HV.out (Nat.pow_le_pow_right (by decide) h))]
    go_enter Tryd.func86, Tryd.ntmps86
    go_wp2_with fail
    go_ret
    exact ⟨ret_intz (by rw [HE.out]; rfl), rfl⟩
  · have hd := digT_nat m v (m - 1 - k) (by omega)
    rw [show m - 1 - (m - 1 - k) = k by omega] at hd
    have hlt : v / 10 ^ k % 10 < 10 := Nat.mod_lt _ (by decide)
    generalize hc : (digT m v)[m - 1 - k]'(by omega) = c at hd
    have HC := hid hc
    clear hc
    go_enter Tryd.func86, Tryd.ntmps86
    go_wp2_with fail
    go_ret
    refine ⟨ret_intz ?_, rfl⟩
    rw [HC.out, hd]; omega

set_option maxHeartbeats 400000 in
theorem l11Trim_any (m v : Nat) (w : World) (hm : m ≤ maxLen) (hm0 : 0 < m) (hv : v < 10 ^ m) :
    Calls Tryd.prog 62 #[.string (digT m v)] w fun e w' => e = .returned (.string (dec v)) ∧ w' = w := by
  have hsz := digT_size m v
  have hsz' : ((digT m v).size : Int) = m := by rw [hsz]
  unfold maxLen at hm
  have HV := hid hv
  clear hv
  go_enter Tryd.func62, Tryd.ntmps62
  go_wp2_with fail
  go_loop [3] (fun i => ∃ k : Nat, k < m ∧ i = .int .i64 k ∧ Hid (v < 10 ^ (m - k))) (fun i => m - (intOf i).toNat)
  case atStart => exact ⟨0, hm0, rfl, HV.out⟩
  case round =>
    obtain ⟨k, hk, rfl, HA⟩ := hrel
    have hd := digT_nat m v k (by omega)
    by_cases hlt : k + 1 < m
    · by_cases hz : v / 10 ^ (m - 1 - k) % 10 = 0
      · have hd2 : (((digT m v)[k]'(by omega)).toNat : Int) == 48 := by rw [hd, hz]; rfl
        have HN : Hid (v < 10 ^ (m - (k + 1))) := by
          show _ < _
          have h1 := HA.out
          rw [show m - k = (m - 1 - k) + 1 by omega, Nat.pow_succ] at h1
          have h2 : v / 10 ^ (m - 1 - k) < 10 := Nat.div_lt_of_lt_mul h1
          rw [Nat.mod_eq_of_lt h2] at hz
          rw [show m - (k + 1) = m - 1 - k by omega]
          rcases Nat.div_eq_zero_iff.1 hz with h | h
          · have := Nat.pow_pos (n := m - 1 - k) (show 0 < 10 by decide); omega
          · exact h
        clear hd
        go_wp2_with fail
        go_round
        case rel => exact ⟨k + 1, by omega, by go_num, HN⟩
        case measure => simp [intOf]; omega
      · have hd2 : ((((digT m v)[k]'(by omega)).toNat : Int) == 48) = false := by
          rw [hd, beq_eq_false_iff_ne]
          generalize v / 10 ^ (m - 1 - k) % 10 = x at hz
          omega
        have HN : Hid ((digT m v).extract k m = dec v) := by
          show _ = _
          rw [digT_drop]
          exact digT_dec HA.out (Or.inr ⟨by omega, by rw [show m - k - 1 = m - 1 - k by omega]; exact hz⟩)
        clear hd
        go_wp2_with fail
        go_ret
        exact ⟨ret_strz HN.out, rfl⟩
    · have HN : Hid ((digT m v).extract k m = dec v) := by
        show _ = _
        rw [digT_drop]
        exact digT_dec HA.out (Or.inl (by omega))
      clear hd
      go_wp2_with fail
      go_ret
      exact ⟨ret_strz HN.out, rfl⟩
end Go.Proofs.YtbbffhpppacihaaDoor
