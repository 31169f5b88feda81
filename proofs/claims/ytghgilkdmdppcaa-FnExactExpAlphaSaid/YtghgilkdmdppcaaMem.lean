/-
  Memory: blocks of the call's own; a slice of ints; a form (a tree of structs and slices) as it lies in memory below a block number. No program is named.
-/
import Derived.WalkKit
import Derived.WalkSpells
import Derived.WalkLawsBesides
namespace Go.Siskin
open Go.RowKit

/-- A fact kept from the walk. -/
theorem hid {p : Prop} (h : p) : Hid p := h

/-- A block of cells, nothing of it frozen. -/
def Own (w : World) (g : Nat) (e : TypeId) (cs : Array Value) : Prop := w.heap[g]? = some (.cells cs e (0, 0))

theorem Own.cell {w : World} {g : Nat} {e : TypeId} {cs : Array Value} (h : Own w g e cs) (i : Nat) : w.cell? ⟨g, i, none⟩ = cs[i]? := by
  unfold Own at h; simp [World.cell?, h]
theorem Own.frozen {w : World} {g : Nat} {e : TypeId} {cs : Array Value} (h : Own w g e cs) (i : Nat) : w.frozen? ⟨g, i, none⟩ = false := by
  unfold Own at h; simp [World.frozen?, h]
theorem Own.set {w : World} {g : Nat} {e : TypeId} {cs : Array Value} (h : Own w g e cs) (i : Nat) (v : Value) : Own (w.setCell ⟨g, i, none⟩ v) g e (cs.setIfInBounds i v) := by
  unfold Own at h ⊢; simp [World.setCell, Array.getElem?_modify, h]
theorem Own.keep {B : Nat} {w w' : World} {g : Nat} {e : TypeId} {cs : Array Value} (h : Own w g e cs) (hb : Below B w w') (hg : g < B) : Own w' g e cs := (hb.block g hg).trans h
theorem Own.lt {w : World} {g : Nat} {e : TypeId} {cs : Array Value} (h : Own w g e cs) : g < w.heap.size := by
  unfold Own at h
  exact (Array.getElem?_eq_some_iff.1 h).1
theorem own_new (w : World) (cs : Array Value) (e : TypeId) : Own (w.alloc (.cells cs e)) w.heap.size e cs := by
  show (w.heap.push (.cells cs e))[w.heap.size]? = _
  simp

/-- What lies below B reads as it did. -/
theorem bcell {W w1 : World} (hb : Below W.heap.size W w1) : (∀ b o, b < W.heap.size → w1.cell? ⟨b, o, none⟩ = W.cell? ⟨b, o, none⟩) ∧ (∀ b o, b < W.heap.size → w1.frozen? ⟨b, o, none⟩ = W.frozen? ⟨b, o, none⟩) :=
  ⟨fun b o h => hb.cell (p := ⟨b, o, none⟩) h, fun b o h => hb.frozen (p := ⟨b, o, none⟩) h⟩

/-- 'make([]T, n)': a new block of n zero elements. -/
theorem wpList_make_new {P : Program} (w : World) {ops : Array Oper} {rest : List Oper} {o : Oper} {a : Act} {Q : Exit → Act → World → Prop}
    (hg : o.guard = none) (l c : Operand) (t : TypeId) (hop : o.op = Op.makeSlice t l c)
    (e : TypeId) (i : TypeInfo) (z : Value) (size : Nat) (h1 : P.underlying t = some (.slice e)) (h2 : P.info? e = some i) (h3 : i.zero = some z) (h4 : i.size = size)
    (kl kc : IntKind) (n : Nat) (hl : a.eval l = .int kl (n : Int)) (hc : a.eval c = .int kc (n : Int)) (b2 : i.bytes * n ≤ 281474976710656) (b3 : n ≤ maxLen)
    (hK : wpList P ops Q rest (a.put o.dst (.slice (some ⟨w.heap.size, 0, none⟩) n n)) (w.alloc (.cells (madeCells z.cells (n * size)) e))) :
    wpList P ops Q (o :: rest) a w := by
  refine wpList_plain hg fun K hK' => ?_
  subst h4
  have h63 : (n : Int) ≤ 9223372036854775807 := by
    have h := b3
    simp [maxLen] at h
    omega
  have hb' : (i.bytes : Int) * (n : Int) ≤ 281474976710656 := by
    have h : ((i.bytes * n : Nat) : Int) ≤ 281474976710656 := by omega
    rwa [Int.natCast_mul] at h
  have hr := run_make (P := P) w t e i z h1 h2 h3 kl kc n n (by omega) (Int.le_refl _) hb' h63
  simp only [Int.toNat_natCast] at hr
  unfold Oper.wp
  simp [execOp, hop, hl, hc, hr, Result.andThen]
  exact hK' _ _ hK

/-- The blocks of R are the same in two worlds. -/
def SameOn (R : Nat → Prop) (w w' : World) : Prop := ∀ b, R b → w'.heap[b]? = w.heap[b]?
theorem SameOn.refl (R : Nat → Prop) (w : World) : SameOn R w w := fun _ _ => rfl
theorem SameOn.trans {R : Nat → Prop} {a b c : World} (h : SameOn R a b) (k : SameOn R b c) : SameOn R a c := fun i hi => (k i hi).trans (h i hi)
theorem SameOn.alloc {R : Nat → Prop} {a w : World} (h : SameOn R a w) (hR : ∀ b, R b → b < w.heap.size) (o : Obj) : SameOn R a (w.alloc o) :=
  fun b hb => (Below.heap_alloc w o b (hR b hb)).trans (h b hb)
theorem SameOn.setCell {R : Nat → Prop} {a w : World} (h : SameOn R a w) {p : Addr} (hp : ¬ R p.block) (u : Value) : SameOn R a (w.setCell p u) :=
  fun b hb => (Below.heap_setCell w p u b (fun e => hp (e ▸ hb))).trans (h b hb)
theorem SameOn.below {R : Nat → Prop} {a w w' : World} (h : SameOn R a w) {N : Nat} (hb : Below N w w') (hR : ∀ b, R b → b < N) : SameOn R a w' :=
  fun b hb' => (hb.block b (hR b hb')).trans (h b hb')
theorem _root_.Go.RowKit.Below.on {R : Nat → Prop} {w w' : World} {N : Nat} (hb : Below N w w') (hR : ∀ b, R b → b < N) : SameOn R w w' := (SameOn.refl R w).below hb hR
theorem SameOn.cell {R : Nat → Prop} {w w' : World} (h : SameOn R w w') {b : Nat} (hb : R b) (o : Nat) : w'.cell? ⟨b, o, none⟩ = w.cell? ⟨b, o, none⟩ := World.cell?_of_block (w := w) (h b hb)
theorem SameOn.drew (R : Nat → Prop) (w : World) : SameOn R w w.drew := fun _ _ => rfl
/-- The blocks that are new in w'. -/
def Fresh (w w' : World) (b : Nat) : Prop := w.heap.size ≤ b ∧ b < w'.heap.size

/-- A slice of ints that lies in blocks of R. -/
def IntsAt (B : Nat → Prop) (w : World) (v : Value) (xs : List Int) : Prop :=
  ∃ a cap, v = .slice a xs.length cap ∧ (xs.length ≤ maxLen ∧ xs.length ≤ cap) ∧ (xs = [] ∨ ∃ b o, a = some ⟨b, o, none⟩ ∧ B b ∧ ∀ i, i < xs.length → w.cell? ⟨b, o + i, none⟩ = some (.int .i64 (xs.getD i 0)))

theorem IntsAt.keep {B : Nat → Prop} {w w' : World} {v : Value} {xs : List Int} (h : IntsAt B w v xs) (hb : SameOn B w w') : IntsAt B w' v xs := by
  obtain ⟨a, cap, e, hl, h⟩ := h
  refine ⟨a, cap, e, hl, ?_⟩
  rcases h with h | ⟨b, o, e, hB, h⟩
  · exact Or.inl h
  · exact Or.inr ⟨b, o, e, hB, fun i hi => (hb.cell hB (o + i)).trans (h i hi)⟩
theorem IntsAt.mono {B B' : Nat → Prop} {w : World} {v : Value} {xs : List Int} (h : IntsAt B w v xs) (hb : ∀ b, B b → B' b) : IntsAt B' w v xs := by
  obtain ⟨a, cap, e, hl, h⟩ := h
  refine ⟨a, cap, e, hl, ?_⟩
  rcases h with h | ⟨b, o, e, hB, h⟩
  · exact Or.inl h
  · exact Or.inr ⟨b, o, e, hb b hB, h⟩

/-- A form: its sort, its text, its scopes, its From, its kids. -/
structure Fm where
  sort : Int
  text : ByteArray
  scopes : List Int
  frm : Int
  kids : List Fm

/-- No form. -/
def Fm.no : Fm := ⟨0, ⟨#[]⟩, [], 0, []⟩

/-- How many forms a form is. -/
def Fm.sz : Fm → Nat
  | ⟨_, _, _, _, ks⟩ => 1 + (ks.map fun k => k.sz).sum
def Fm.szs (ks : List Fm) : Nat := (ks.map Fm.sz).sum
/-- What the law's own count takes of a form. -/
def Fm.cost : Fm → Nat
  | ⟨_, t, sc, _, ks⟩ => t.size + sc.length + ks.length + (ks.map fun k => k.cost).sum
def Fm.costs (ks : List Fm) : Nat := (ks.map Fm.cost).sum

theorem Fm.szs_nil : Fm.szs [] = 0 := rfl
theorem Fm.szs_cons (k : Fm) (r : List Fm) : Fm.szs (k :: r) = k.sz + Fm.szs r := by simp [Fm.szs]
theorem Fm.costs_nil : Fm.costs [] = 0 := rfl
theorem Fm.costs_cons (k : Fm) (r : List Fm) : Fm.costs (k :: r) = k.cost + Fm.costs r := by simp [Fm.costs]
theorem Fm.sz_kids (f : Fm) : f.sz = 1 + Fm.szs f.kids := by
  obtain ⟨s, t, sc, fr, ks⟩ := f
  rw [Fm.sz]; rfl
theorem Fm.cost_eq (f : Fm) : f.cost = f.text.size + f.scopes.length + f.kids.length + Fm.costs f.kids := by
  obtain ⟨s, t, sc, fr, ks⟩ := f
  rw [Fm.cost]; rfl

/-- A form's five cells, and what they lead to, all in blocks of B. -/
def FormAt (B : Nat → Prop) (w : World) : Fm → Value → Value → Value → Value → Value → Prop
  | ⟨s, t, sc, fr, ks⟩, c0, c1, c2, c3, c4 => c0 = .int .i64 s ∧ c1 = .string t ∧ t.size ≤ maxLen ∧ IntsAt B w c2 sc ∧ c3 = .int .i64 fr ∧
      ∃ a cap, c4 = .slice a ks.length cap ∧ ks.length ≤ maxLen ∧ (ks = [] ∨ ∃ b o, a = some ⟨b, o, none⟩ ∧ B b ∧ ∀ (i : Nat) (hi : i < ks.length),
        ∃ k0 k1 k2 k3 k4, w.cell? ⟨b, o + i * 5, none⟩ = some k0 ∧ w.cell? ⟨b, o + i * 5 + 1, none⟩ = some k1 ∧ w.cell? ⟨b, o + i * 5 + 2, none⟩ = some k2 ∧ w.cell? ⟨b, o + i * 5 + 3, none⟩ = some k3 ∧ w.cell? ⟨b, o + i * 5 + 4, none⟩ = some k4 ∧
          (have := List.sizeOf_lt_of_mem (List.getElem_mem hi); FormAt B w ks[i] k0 k1 k2 k3 k4))

/-- Forms that lie side by side from a cell on. -/
def RowAt (B : Nat → Prop) (w : World) (b o : Nat) (ks : List Fm) : Prop := ∀ (i : Nat) (hi : i < ks.length),
  ∃ k0 k1 k2 k3 k4, w.cell? ⟨b, o + i * 5, none⟩ = some k0 ∧ w.cell? ⟨b, o + i * 5 + 1, none⟩ = some k1 ∧ w.cell? ⟨b, o + i * 5 + 2, none⟩ = some k2 ∧ w.cell? ⟨b, o + i * 5 + 3, none⟩ = some k3 ∧ w.cell? ⟨b, o + i * 5 + 4, none⟩ = some k4 ∧ FormAt B w ks[i] k0 k1 k2 k3 k4

/-- A slice of forms. -/
def FormsAt (B : Nat → Prop) (w : World) (v : Value) (ks : List Fm) : Prop :=
  ∃ a cap, v = .slice a ks.length cap ∧ ks.length ≤ maxLen ∧ (ks = [] ∨ ∃ b o, a = some ⟨b, o, none⟩ ∧ B b ∧ RowAt B w b o ks)

theorem formAt_iff (B : Nat → Prop) (w : World) (f : Fm) (c0 c1 c2 c3 c4 : Value) : FormAt B w f c0 c1 c2 c3 c4 ↔
    c0 = .int .i64 f.sort ∧ c1 = .string f.text ∧ f.text.size ≤ maxLen ∧ IntsAt B w c2 f.scopes ∧ c3 = .int .i64 f.frm ∧ FormsAt B w c4 f.kids := by
  obtain ⟨s, t, sc, fr, ks⟩ := f
  rw [FormAt]; rfl

theorem RowAt.get {B : Nat → Prop} {w : World} {b : Nat} (ks : List Fm) {o : Nat} (h : RowAt B w b o ks) (i : Nat) (hi : i < ks.length) :
    ∃ c0 c1 c2 c3 c4, w.cell? ⟨b, o + i * 5, none⟩ = some c0 ∧ w.cell? ⟨b, o + i * 5 + 1, none⟩ = some c1 ∧ w.cell? ⟨b, o + i * 5 + 2, none⟩ = some c2 ∧ w.cell? ⟨b, o + i * 5 + 3, none⟩ = some c3 ∧ w.cell? ⟨b, o + i * 5 + 4, none⟩ = some c4 ∧ FormAt B w ks[i] c0 c1 c2 c3 c4 := h i hi
theorem RowAt.mk {B : Nat → Prop} {w : World} {b : Nat} (ks : List Fm) {o : Nat} (h : ∀ (i : Nat) (hi : i < ks.length),
    ∃ c0 c1 c2 c3 c4, w.cell? ⟨b, o + i * 5, none⟩ = some c0 ∧ w.cell? ⟨b, o + i * 5 + 1, none⟩ = some c1 ∧ w.cell? ⟨b, o + i * 5 + 2, none⟩ = some c2 ∧ w.cell? ⟨b, o + i * 5 + 3, none⟩ = some c3 ∧ w.cell? ⟨b, o + i * 5 + 4, none⟩ = some c4 ∧ FormAt B w ks[i] c0 c1 c2 c3 c4) : RowAt B w b o ks := h

theorem Fm.szs_get : ∀ (ks : List Fm) (i : Nat) (hi : i < ks.length), ks[i].sz ≤ Fm.szs ks
  | [], _, hi => absurd hi (Nat.not_lt_zero _)
  | k :: r, 0, _ => by rw [Fm.szs_cons]; simp
  | k :: r, i + 1, hi => by
    have := Fm.szs_get r i (by simpa using hi)
    simp only [List.getElem_cons_succ, Fm.szs_cons]; omega
theorem Fm.costs_get : ∀ (ks : List Fm) (i : Nat) (hi : i < ks.length), ks[i].cost ≤ Fm.costs ks
  | [], _, hi => absurd hi (Nat.not_lt_zero _)
  | k :: r, 0, _ => by rw [Fm.costs_cons]; simp
  | k :: r, i + 1, hi => by
    have := Fm.costs_get r i (by simpa using hi)
    simp only [List.getElem_cons_succ, Fm.costs_cons]; omega

theorem keep_upto {B : Nat → Prop} {w w' : World} (hb : SameOn B w w') : ∀ (n : Nat) (f : Fm), f.sz ≤ n → ∀ {c0 c1 c2 c3 c4 : Value}, FormAt B w f c0 c1 c2 c3 c4 → FormAt B w' f c0 c1 c2 c3 c4
  | 0, f, hn, _, _, _, _, _, _ => by have := Fm.sz_kids f; omega
  | n + 1, f, hn, c0, c1, c2, c3, c4, h => by
    have hsz := Fm.sz_kids f
    rw [formAt_iff] at h ⊢
    obtain ⟨h0, h1, h2, h3, h4, a, cap, h5, h6, h7⟩ := h
    refine ⟨h0, h1, h2, h3.keep hb, h4, a, cap, h5, h6, ?_⟩
    rcases h7 with h7 | ⟨b, o, h7, h8, h9⟩
    · exact Or.inl h7
    · refine Or.inr ⟨b, o, h7, h8, fun i hi => ?_⟩
      obtain ⟨k0, k1, k2, k3, k4, e0, e1, e2, e3, e4, e5⟩ := h9 i hi
      exact ⟨k0, k1, k2, k3, k4, (hb.cell h8 _).trans e0, (hb.cell h8 _).trans e1, (hb.cell h8 _).trans e2, (hb.cell h8 _).trans e3, (hb.cell h8 _).trans e4, keep_upto hb n _ (by have := Fm.szs_get f.kids i hi; omega) e5⟩
theorem mono_upto {B B' : Nat → Prop} {w : World} (hb : ∀ b, B b → B' b) : ∀ (n : Nat) (f : Fm), f.sz ≤ n → ∀ {c0 c1 c2 c3 c4 : Value}, FormAt B w f c0 c1 c2 c3 c4 → FormAt B' w f c0 c1 c2 c3 c4
  | 0, f, hn, _, _, _, _, _, _ => by have := Fm.sz_kids f; omega
  | n + 1, f, hn, c0, c1, c2, c3, c4, h => by
    have hsz := Fm.sz_kids f
    rw [formAt_iff] at h ⊢
    obtain ⟨h0, h1, h2, h3, h4, a, cap, h5, h6, h7⟩ := h
    refine ⟨h0, h1, h2, h3.mono hb, h4, a, cap, h5, h6, ?_⟩
    rcases h7 with h7 | ⟨b, o, h7, h8, h9⟩
    · exact Or.inl h7
    · refine Or.inr ⟨b, o, h7, hb b h8, fun i hi => ?_⟩
      obtain ⟨k0, k1, k2, k3, k4, e0, e1, e2, e3, e4, e5⟩ := h9 i hi
      exact ⟨k0, k1, k2, k3, k4, e0, e1, e2, e3, e4, mono_upto hb n _ (by have := Fm.szs_get f.kids i hi; omega) e5⟩

theorem FormAt.keep {B : Nat → Prop} {w w' : World} (hb : SameOn B w w') (f : Fm) {c0 c1 c2 c3 c4 : Value} (h : FormAt B w f c0 c1 c2 c3 c4) : FormAt B w' f c0 c1 c2 c3 c4 := keep_upto hb f.sz f (Nat.le_refl _) h
theorem FormAt.mono {B B' : Nat → Prop} {w : World} (hb : ∀ b, B b → B' b) (f : Fm) {c0 c1 c2 c3 c4 : Value} (h : FormAt B w f c0 c1 c2 c3 c4) : FormAt B' w f c0 c1 c2 c3 c4 := mono_upto hb f.sz f (Nat.le_refl _) h
theorem RowAt.keep {B : Nat → Prop} {w w' : World} (hb : SameOn B w w') {b : Nat} (hB : B b) (ks : List Fm) {o : Nat} (h : RowAt B w b o ks) : RowAt B w' b o ks := fun i hi => by
  obtain ⟨k0, k1, k2, k3, k4, e0, e1, e2, e3, e4, e5⟩ := h i hi
  exact ⟨k0, k1, k2, k3, k4, (hb.cell hB _).trans e0, (hb.cell hB _).trans e1, (hb.cell hB _).trans e2, (hb.cell hB _).trans e3, (hb.cell hB _).trans e4, FormAt.keep hb _ e5⟩
theorem RowAt.mono {B B' : Nat → Prop} {w : World} (hb : ∀ b, B b → B' b) {b : Nat} (ks : List Fm) {o : Nat} (h : RowAt B w b o ks) : RowAt B' w b o ks := fun i hi => by
  obtain ⟨k0, k1, k2, k3, k4, e0, e1, e2, e3, e4, e5⟩ := h i hi
  exact ⟨k0, k1, k2, k3, k4, e0, e1, e2, e3, e4, FormAt.mono hb _ e5⟩
theorem FormsAt.keep {B : Nat → Prop} {w w' : World} (hb : SameOn B w w') {v : Value} {ks : List Fm} (h : FormsAt B w v ks) : FormsAt B w' v ks := by
  obtain ⟨a, cap, e, hl, h⟩ := h
  refine ⟨a, cap, e, hl, ?_⟩
  rcases h with h | ⟨b, o, e, hB, h⟩
  · exact Or.inl h
  · exact Or.inr ⟨b, o, e, hB, RowAt.keep hb hB ks h⟩
theorem FormsAt.mono {B B' : Nat → Prop} {w : World} (hb : ∀ b, B b → B' b) {v : Value} {ks : List Fm} (h : FormsAt B w v ks) : FormsAt B' w v ks := by
  obtain ⟨a, cap, e, hl, h⟩ := h
  refine ⟨a, cap, e, hl, ?_⟩
  rcases h with h | ⟨b, o, e, hB, h⟩
  · exact Or.inl h
  · exact Or.inr ⟨b, o, e, hb b hB, RowAt.mono hb ks h⟩

theorem Fm.costs_take (ks : List Fm) (k : Nat) (h : k < ks.length) : Fm.costs (ks.take (k + 1)) = Fm.costs (ks.take k) + ks[k].cost := by
  rw [List.take_succ_eq_append_getElem h]; unfold Fm.costs
  simp only [List.map_append, List.sum_append, List.map_cons, List.map_nil, List.sum_cons, List.sum_nil, Nat.add_zero]
theorem Fm.szs_take (ks : List Fm) (k : Nat) (h : k < ks.length) : Fm.szs (ks.take (k + 1)) = Fm.szs (ks.take k) + ks[k].sz := by
  rw [List.take_succ_eq_append_getElem h]; unfold Fm.szs
  simp only [List.map_append, List.sum_append, List.map_cons, List.map_nil, List.sum_cons, List.sum_nil, Nat.add_zero]
theorem Fm.costs_take_le : ∀ (ks : List Fm) (k : Nat), Fm.costs (ks.take k) ≤ Fm.costs ks
  | [], k => by simp
  | a :: r, 0 => by simp [Fm.costs]
  | a :: r, k + 1 => by have := Fm.costs_take_le r k; simp only [List.take_succ_cons, Fm.costs_cons]; omega
theorem Fm.szs_take_le : ∀ (ks : List Fm) (k : Nat), Fm.szs (ks.take k) ≤ Fm.szs ks
  | [], k => by simp
  | a :: r, 0 => by simp [Fm.szs]
  | a :: r, k + 1 => by have := Fm.szs_take_le r k; simp only [List.take_succ_cons, Fm.szs_cons]; omega
theorem sz_upto : ∀ (n : Nat) (f : Fm), f.sz ≤ n → f.sz ≤ 1 + f.cost
  | 0, f, hn => by have := Fm.sz_kids f; omega
  | n + 1, f, hn => by
    have h1 := Fm.sz_kids f
    have h2 := Fm.cost_eq f
    have h3 : ∀ ks : List Fm, Fm.szs ks ≤ n → Fm.szs ks ≤ ks.length + Fm.costs ks := by
      intro ks
      induction ks with
      | nil => intro _; simp [Fm.szs]
      | cons k r ih =>
        intro hk
        rw [Fm.szs_cons] at hk ⊢
        rw [Fm.costs_cons, List.length_cons]
        have := sz_upto n k (by omega)
        have := ih (by omega)
        omega
    have := h3 f.kids (by omega)
    omega
theorem Fm.sz_le (f : Fm) : f.sz ≤ 1 + f.cost := sz_upto f.sz f (Nat.le_refl _)

end Go.Siskin
