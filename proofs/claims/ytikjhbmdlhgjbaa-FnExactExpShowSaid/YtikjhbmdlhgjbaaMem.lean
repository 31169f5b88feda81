/- Memory: blocks of the call's own; a slice of ints; a form (a tree of structs and slices) as it lies in memory below a block number. No program is named. -/
import Derived.WalkKit
import Derived.WalkSpells
import Derived.WalkLawsBesides
namespace Go.Siskin
open Go.RowKit

/-- A fact kept from the walk. -/
theorem hid {p : Prop} (h : p) : Hid p := h

/-- A block of cells, nothing of it frozen. -/
def Own (w : World) (g : Nat) (e : TypeId) (cs : Array Value) : Prop := w.heap[g]? = some (.cells cs e (0, 0))

theorem Own.cell {w : World} {g : Nat} {e : TypeId} {cs : Array Value} (h : Own w g e cs) (i : Nat) : w.cell? ⟨g, i, none⟩ = cs[i]? := by
  unfold Own at h; simp [World.cell?, h]
theorem Own.frozen {w : World} {g : Nat} {e : TypeId} {cs : Array Value} (h : Own w g e cs) (i : Nat) : w.frozen? ⟨g, i, none⟩ = false := by
  unfold Own at h; simp [World.frozen?, h]
theorem Own.set {w : World} {g : Nat} {e : TypeId} {cs : Array Value} (h : Own w g e cs) (i : Nat) (v : Value) : Own (w.setCell ⟨g, i, none⟩ v) g e (cs.setIfInBounds i v) := by
  unfold Own at h ⊢; simp [World.setCell, Array.getElem?_modify, h]
theorem Own.keep {B : Nat} {w w' : World} {g : Nat} {e : TypeId} {cs : Array Value} (h : Own w g e cs) (hb : Below B w w') (hg : g < B) : Own w' g e cs := (hb.block g hg).trans h
theorem Own.lt {w : World} {g : Nat} {e : TypeId} {cs : Array Value} (h : Own w g e cs) : g < w.heap.size := by
  unfold Own at h
  exact (Array.getElem?_eq_some_iff.1 h).1
theorem own_new (w : World) (cs : Array Value) (e : TypeId) : Own (w.alloc (.cells cs e)) w.heap.size e cs := by
  show (w.heap.push (.cells cs e))[w.heap.size]? = _
  simp

/-- What lies below B reads as it did. -/
theorem bcell {W w1 : World} (hb : Below W.heap.size W w1) : (∀ b o, b < W.heap.size → w1.cell? ⟨b, o, none⟩ = W.cell? ⟨b, o, none⟩) ∧ (∀ b o, b < W.heap.size → w1.frozen? ⟨b, o, none⟩ = W.frozen? ⟨b, o, none⟩) :=
  ⟨fun b o h => hb.cell (p := ⟨b, o, none⟩) h, fun b o h => hb.frozen (p := ⟨b, o, none⟩) h⟩

/-- 'make([]T, n)': a new block of n zero elements. -/
theorem wpList_make_new {P : Program} (w : World) {ops : Array Oper} {rest : List Oper} {o : Oper} {a : Act} {Q : Exit → Act → World → Prop}
    (hg : o.guard = none) (l c : Operand) (t : TypeId) (hop : o.op = Op.makeSlice t l c)
    (e : TypeId) (i : TypeInfo) (z : Value) (size : Nat) (h1 : P.underlying t = some (.slice e)) (h2 : P.info? e = some i) (h3 : i.zero = some z) (h4 : i.size = size)
    (kl kc : IntKind) (n : Nat) (hl : a.eval l = .int kl (n : Int)) (hc : a.eval c = .int kc (n : Int)) (b2 : i.bytes * n ≤ 281474976710656) (b3 : n ≤ maxLen)
    (hK : wpList P ops Q rest (a.put o.dst (.slice (some ⟨w.heap.size, 0, none⟩) n n)) (w.alloc (.cells (madeCells z.cells (n * size)) e))) :
    wpList P ops Q (o :: rest) a w := by
  refine wpList_plain hg fun K hK' => ?_
  subst h4
  have h63 : (n : Int) ≤ 9223372036854775807 := by
    have h := b3
    simp [maxLen] at h
    omega
  have hb' : (i.bytes : Int) * (n : Int) ≤ 281474976710656 := by
    have h : ((i.bytes * n : Nat) : Int) ≤ 281474976710656 := by omega
    rwa [Int.natCast_mul] at h
  have hr := run_make (P := P) w t e i z h1 h2 h3 kl kc n n (by omega) (Int.le_refl _) hb' h63
  simp only [Int.toNat_natCast] at hr
  unfold Oper.wp
  simp [execOp, hop, hl, hc, hr, Result.andThen]
  exact hK' _ _ hK

/-- The blocks of R are the same in two worlds. -/
def SameOn (R : Nat → Prop) (w w' : World) : Prop := ∀ b, R b → w'.heap[b]? = w.heap[b]?
theorem SameOn.refl (R : Nat → Prop) (w : World) : SameOn R w w := fun _ _ => rfl
theorem SameOn.trans {R : Nat → Prop} {a b c : World} (h : SameOn R a b) (k : SameOn R b c) : SameOn R a c := fun i hi => (k i hi).trans (h i hi)
theorem SameOn.alloc {R : Nat → Prop} {a w : World} (h : SameOn R a w) (hR : ∀ b, R b → b < w.heap.size) (o : Obj) : SameOn R a (w.alloc o) :=
  fun b hb => (Below.heap_alloc w o b (hR b hb)).trans (h b hb)
theorem SameOn.setCell {R : Nat → Prop} {a w : World} (h : SameOn R a w) {p : Addr} (hp : ¬ R p.block) (u : Value) : SameOn R a (w.setCell p u) :=
  fun b hb => (Below.heap_setCell w p u b (fun e => hp (e ▸ hb))).trans (h b hb)
theorem SameOn.below {R : Nat → Prop} {a w w' : World} (h : SameOn R a w) {N : Nat} (hb : Below N w w') (hR : ∀ b, R b → b < N) : SameOn R a w' :=
  fun b hb' => (hb.block b (hR b hb')).trans (h b hb')
theorem _root_.Go.RowKit.Below.on {R : Nat → Prop} {w w' : World} {N : Nat} (hb : Below N w w') (hR : ∀ b, R b → b < N) : SameOn R w w' := (SameOn.refl R w).below hb hR
theorem SameOn.cell {R : Nat → Prop} {w w' : World} (h : SameOn R w w') {b : Nat} (hb : R b) (o : Nat) : w'.cell? ⟨b, o, none⟩ = w.cell? ⟨b, o, none⟩ := World.cell?_of_block (w := w) (h b hb)
theorem SameOn.drew (R : Nat → Prop) (w : World) : SameOn R w w.drew := fun _ _ => rfl
/-- The blocks that are new in w'. -/
def Fresh (w w' : World) (b : Nat) : Prop := w.heap.size ≤ b ∧ b < w'.heap.size

/-- A slice of ints that lies in blocks of R. -/
def IntsAt (B : Nat → Prop) (w : World) (v : Value) (xs : List Int) : Prop :=
  ∃ a cap, v = .slice a xs.length cap ∧ xs.length ≤ maxLen ∧ (xs = [] ∨ ∃ b o, a = some ⟨b, o, none⟩ ∧ B b ∧ ∀ i, i < xs.length → w.cell? ⟨b, o + i, none⟩ = some (.int .i64 (xs.getD i 0)))

theorem IntsAt.keep {B : Nat → Prop} {w w' : World} {v : Value} {xs : List Int} (h : IntsAt B w v xs) (hb : SameOn B w w') : IntsAt B w' v xs := by
  obtain ⟨a, cap, e, hl, h⟩ := h
  refine ⟨a, cap, e, hl, ?_⟩
  rcases h with h | ⟨b, o, e, hB, h⟩
  · exact Or.inl h
  · exact Or.inr ⟨b, o, e, hB, fun i hi => (hb.cell hB (o + i)).trans (h i hi)⟩
theorem IntsAt.mono {B B' : Nat → Prop} {w : World} {v : Value} {xs : List Int} (h : IntsAt B w v xs) (hb : ∀ b, B b → B' b) : IntsAt B' w v xs := by
  obtain ⟨a, cap, e, hl, h⟩ := h
  refine ⟨a, cap, e, hl, ?_⟩
  rcases h with h | ⟨b, o, e, hB, h⟩
  · exact Or.inl h
  · exact Or.inr ⟨b, o, e, hb b hB, h⟩

/-- A form: its sort, its text, its scopes, its From, its kids. -/
inductive Fm where
  | mk (sort : Int) (text : ByteArray) (scopes : List Int) (frm : Int) (kids : List Fm)

instance : Inhabited Fm := ⟨.mk 0 ⟨#[]⟩ [] 0 []⟩
def Fm.sort : Fm → Int | .mk s _ _ _ _ => s
def Fm.text : Fm → ByteArray | .mk _ t _ _ _ => t
def Fm.scopes : Fm → List Int | .mk _ _ s _ _ => s
def Fm.frm : Fm → Int | .mk _ _ _ f _ => f
def Fm.kids : Fm → List Fm | .mk _ _ _ _ k => k

mutual
/-- How many forms a form is. -/
def Fm.sz : Fm → Nat
  | .mk _ _ _ _ ks => 1 + Fm.szs ks
def Fm.szs : List Fm → Nat
  | [] => 0
  | k :: r => k.sz + Fm.szs r
end

mutual
/-- What the law's own count takes of a form. -/
def Fm.cost : Fm → Nat
  | .mk _ t sc _ ks => t.size + sc.length + ks.length + Fm.costs ks
def Fm.costs : List Fm → Nat
  | [] => 0
  | k :: r => k.cost + Fm.costs r
end

mutual
/-- A form's five cells, and what they lead to, all in blocks of B. -/
def FormAt (B : Nat → Prop) (w : World) : Fm → Value → Value → Value → Value → Value → Prop
  | .mk s t sc fr ks, c0, c1, c2, c3, c4 => c0 = .int .i64 s ∧ c1 = .string t ∧ t.size ≤ maxLen ∧ IntsAt B w c2 sc ∧ c3 = .int .i64 fr ∧
      ∃ a cap, c4 = .slice a ks.length cap ∧ ks.length ≤ maxLen ∧ (ks = [] ∨ ∃ b o, a = some ⟨b, o, none⟩ ∧ B b ∧ RowAt B w b o ks)
/-- Forms that lie side by side from a cell on. -/
def RowAt (B : Nat → Prop) (w : World) (b o : Nat) : List Fm → Prop
  | [] => True
  | k :: r => (∃ c0 c1 c2 c3 c4, w.cell? ⟨b, o, none⟩ = some c0 ∧ w.cell? ⟨b, o + 1, none⟩ = some c1 ∧ w.cell? ⟨b, o + 2, none⟩ = some c2 ∧ w.cell? ⟨b, o + 3, none⟩ = some c3 ∧ w.cell? ⟨b, o + 4, none⟩ = some c4 ∧ FormAt B w k c0 c1 c2 c3 c4) ∧ RowAt B w b (o + 5) r
end

/-- A slice of forms. -/
def FormsAt (B : Nat → Prop) (w : World) (v : Value) (ks : List Fm) : Prop :=
  ∃ a cap, v = .slice a ks.length cap ∧ ks.length ≤ maxLen ∧ (ks = [] ∨ ∃ b o, a = some ⟨b, o, none⟩ ∧ B b ∧ RowAt B w b o ks)

theorem formAt_iff (B : Nat → Prop) (w : World) (f : Fm) (c0 c1 c2 c3 c4 : Value) : FormAt B w f c0 c1 c2 c3 c4 ↔
    c0 = .int .i64 f.sort ∧ c1 = .string f.text ∧ f.text.size ≤ maxLen ∧ IntsAt B w c2 f.scopes ∧ c3 = .int .i64 f.frm ∧ FormsAt B w c4 f.kids := by
  cases f; simp only [FormAt, FormsAt, Fm.sort, Fm.text, Fm.scopes, Fm.frm, Fm.kids]

mutual
theorem FormAt.keep {B : Nat → Prop} {w w' : World} (hb : SameOn B w w') : ∀ (f : Fm) {c0 c1 c2 c3 c4 : Value}, FormAt B w f c0 c1 c2 c3 c4 → FormAt B w' f c0 c1 c2 c3 c4
  | .mk s t sc fr ks, c0, c1, c2, c3, c4, h => by
    simp only [FormAt] at h ⊢
    obtain ⟨h0, h1, h2, h3, h4, a, cap, h5, h6, h7⟩ := h
    refine ⟨h0, h1, h2, h3.keep hb, h4, a, cap, h5, h6, ?_⟩
    rcases h7 with h7 | ⟨b, o, h7, h8, h9⟩
    · exact Or.inl h7
    · exact Or.inr ⟨b, o, h7, h8, RowAt.keep hb h8 ks h9⟩
theorem RowAt.keep {B : Nat → Prop} {w w' : World} (hb : SameOn B w w') {b : Nat} (hB : B b) : ∀ (ks : List Fm) {o : Nat}, RowAt B w b o ks → RowAt B w' b o ks
  | [], _, _ => by simp only [RowAt]
  | k :: r, o, h => by
    simp only [RowAt] at h ⊢
    obtain ⟨⟨c0, c1, c2, c3, c4, h0, h1, h2, h3, h4, h5⟩, h6⟩ := h
    exact ⟨⟨c0, c1, c2, c3, c4, (hb.cell hB (o)).trans h0, (hb.cell hB (o + 1)).trans h1, (hb.cell hB (o + 2)).trans h2, (hb.cell hB (o + 3)).trans h3, (hb.cell hB (o + 4)).trans h4, FormAt.keep hb k h5⟩, RowAt.keep hb hB r h6⟩
end

mutual
theorem FormAt.mono {B B' : Nat → Prop} {w : World} (hb : ∀ b, B b → B' b) : ∀ (f : Fm) {c0 c1 c2 c3 c4 : Value}, FormAt B w f c0 c1 c2 c3 c4 → FormAt B' w f c0 c1 c2 c3 c4
  | .mk s t sc fr ks, c0, c1, c2, c3, c4, h => by
    simp only [FormAt] at h ⊢
    obtain ⟨h0, h1, h2, h3, h4, a, cap, h5, h6, h7⟩ := h
    refine ⟨h0, h1, h2, h3.mono hb, h4, a, cap, h5, h6, ?_⟩
    rcases h7 with h7 | ⟨b, o, h7, h8, h9⟩
    · exact Or.inl h7
    · exact Or.inr ⟨b, o, h7, hb b h8, RowAt.mono hb ks h9⟩
theorem RowAt.mono {B B' : Nat → Prop} {w : World} (hb : ∀ b, B b → B' b) {b : Nat} : ∀ (ks : List Fm) {o : Nat}, RowAt B w b o ks → RowAt B' w b o ks
  | [], _, _ => by simp only [RowAt]
  | k :: r, o, h => by
    simp only [RowAt] at h ⊢
    obtain ⟨⟨c0, c1, c2, c3, c4, h0, h1, h2, h3, h4, h5⟩, h6⟩ := h
    exact ⟨⟨c0, c1, c2, c3, c4, h0, h1, h2, h3, h4, FormAt.mono hb k h5⟩, RowAt.mono hb r h6⟩
end

theorem FormsAt.keep {B : Nat → Prop} {w w' : World} (hb : SameOn B w w') {v : Value} {ks : List Fm} (h : FormsAt B w v ks) : FormsAt B w' v ks := by
  obtain ⟨a, cap, e, hl, h⟩ := h
  refine ⟨a, cap, e, hl, ?_⟩
  rcases h with h | ⟨b, o, e, hB, h⟩
  · exact Or.inl h
  · exact Or.inr ⟨b, o, e, hB, RowAt.keep hb hB ks h⟩
theorem FormsAt.mono {B B' : Nat → Prop} {w : World} (hb : ∀ b, B b → B' b) {v : Value} {ks : List Fm} (h : FormsAt B w v ks) : FormsAt B' w v ks := by
  obtain ⟨a, cap, e, hl, h⟩ := h
  refine ⟨a, cap, e, hl, ?_⟩
  rcases h with h | ⟨b, o, e, hB, h⟩
  · exact Or.inl h
  · exact Or.inr ⟨b, o, e, hb b hB, RowAt.mono hb ks h⟩

/-- The five cells of the form at a place. -/
theorem RowAt.get {B : Nat → Prop} {w : World} {b : Nat} : ∀ (ks : List Fm) {o : Nat}, RowAt B w b o ks → ∀ (i : Nat) (hi : i < ks.length),
    ∃ c0 c1 c2 c3 c4, w.cell? ⟨b, o + i * 5, none⟩ = some c0 ∧ w.cell? ⟨b, o + i * 5 + 1, none⟩ = some c1 ∧ w.cell? ⟨b, o + i * 5 + 2, none⟩ = some c2 ∧ w.cell? ⟨b, o + i * 5 + 3, none⟩ = some c3 ∧ w.cell? ⟨b, o + i * 5 + 4, none⟩ = some c4 ∧ FormAt B w ks[i] c0 c1 c2 c3 c4
  | [], _, _, i, hi => absurd hi (Nat.not_lt_zero _)
  | k :: r, o, h, 0, hi => by
    simp only [RowAt] at h
    simpa using h.1
  | k :: r, o, h, i + 1, hi => by
    simp only [RowAt] at h
    have := RowAt.get r h.2 i (by simpa using hi)
    rw [show o + (i + 1) * 5 = o + 5 + i * 5 from by omega]
    exact this

theorem RowAt.mk {B : Nat → Prop} {w : World} {b : Nat} : ∀ (ks : List Fm) {o : Nat}, (∀ (i : Nat) (hi : i < ks.length),
    ∃ c0 c1 c2 c3 c4, w.cell? ⟨b, o + i * 5, none⟩ = some c0 ∧ w.cell? ⟨b, o + i * 5 + 1, none⟩ = some c1 ∧ w.cell? ⟨b, o + i * 5 + 2, none⟩ = some c2 ∧ w.cell? ⟨b, o + i * 5 + 3, none⟩ = some c3 ∧ w.cell? ⟨b, o + i * 5 + 4, none⟩ = some c4 ∧ FormAt B w ks[i] c0 c1 c2 c3 c4) → RowAt B w b o ks
  | [], _, _ => by simp only [RowAt]
  | k :: r, o, h => by
    simp only [RowAt]
    have h0 := h 0 (by simp)
    rw [Nat.zero_mul, Nat.add_zero] at h0
    refine ⟨h0, RowAt.mk r fun i hi => ?_⟩
    have := h (i + 1) (by simpa using hi)
    rw [show o + (i + 1) * 5 = o + 5 + i * 5 from by omega] at this
    exact this

/-! ### Counting -/

theorem Fm.szs_get : ∀ (ks : List Fm) (i : Nat) (hi : i < ks.length), ks[i].sz ≤ Fm.szs ks
  | [], _, hi => absurd hi (Nat.not_lt_zero _)
  | k :: r, 0, _ => by simp [Fm.szs]
  | k :: r, i + 1, hi => by
    have := Fm.szs_get r i (by simpa using hi)
    simp only [List.getElem_cons_succ, Fm.szs]; omega
theorem Fm.costs_get : ∀ (ks : List Fm) (i : Nat) (hi : i < ks.length), ks[i].cost ≤ Fm.costs ks
  | [], _, hi => absurd hi (Nat.not_lt_zero _)
  | k :: r, 0, _ => by simp [Fm.costs]
  | k :: r, i + 1, hi => by
    have := Fm.costs_get r i (by simpa using hi)
    simp only [List.getElem_cons_succ, Fm.costs]; omega
theorem Fm.sz_kids (f : Fm) : f.sz = 1 + Fm.szs f.kids := by cases f; simp [Fm.sz, Fm.kids]
theorem Fm.cost_eq (f : Fm) : f.cost = f.text.size + f.scopes.length + f.kids.length + Fm.costs f.kids := by cases f; simp [Fm.cost, Fm.kids, Fm.text, Fm.scopes]
theorem Fm.costs_take (ks : List Fm) (k : Nat) (h : k < ks.length) : Fm.costs (ks.take (k + 1)) = Fm.costs (ks.take k) + ks[k].cost := by
  induction ks generalizing k with
  | nil => simp at h
  | cons a r ih =>
    cases k with
    | zero => simp [Fm.costs]
    | succ k => simp only [List.take_succ_cons, Fm.costs, List.getElem_cons_succ]; rw [ih k (by simpa using h)]; omega
theorem Fm.szs_take (ks : List Fm) (k : Nat) (h : k < ks.length) : Fm.szs (ks.take (k + 1)) = Fm.szs (ks.take k) + ks[k].sz := by
  induction ks generalizing k with
  | nil => simp at h
  | cons a r ih =>
    cases k with
    | zero => simp [Fm.szs]
    | succ k => simp only [List.take_succ_cons, Fm.szs, List.getElem_cons_succ]; rw [ih k (by simpa using h)]; omega
theorem Fm.costs_take_le (ks : List Fm) (k : Nat) : Fm.costs (ks.take k) ≤ Fm.costs ks := by
  induction ks generalizing k with
  | nil => simp
  | cons a r ih =>
    cases k with
    | zero => simp [Fm.costs]
    | succ k => simp only [List.take_succ_cons, Fm.costs]; have := ih k; omega
theorem Fm.szs_take_le (ks : List Fm) (k : Nat) : Fm.szs (ks.take k) ≤ Fm.szs ks := by
  induction ks generalizing k with
  | nil => simp
  | cons a r ih =>
    cases k with
    | zero => simp [Fm.szs]
    | succ k => simp only [List.take_succ_cons, Fm.szs]; have := ih k; omega
mutual
theorem Fm.sz_le : ∀ f : Fm, f.sz ≤ 1 + f.cost
  | .mk s t sc fr ks => by have := Fm.szs_le ks; simp only [Fm.sz, Fm.cost]; omega
theorem Fm.szs_le : ∀ ks : List Fm, Fm.szs ks ≤ ks.length + Fm.costs ks
  | [] => by simp [Fm.szs]
  | k :: r => by have := Fm.sz_le k; have := Fm.szs_le r; simp only [Fm.szs, Fm.costs, List.length_cons]; omega
end

end Go.Siskin
