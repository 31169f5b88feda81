/-
  Memory: blocks of the call's own; a slice of ints; a form (a tree of structs and slices) as it lies in memory below a block number. No program is named.
  Memory: a slice of numbers of one kind, as it lies in memory; the table of powers of ten.
  Plain numbers: a number in so many decimal digits, and its numeral. No condition; no program is named.
  The model's l11Trim and l11At over numbers in decimal digits. Condition: the texts are numbers in so many digits.
  The model's l11Text and l11Small: digits from the right as a numeral, and the numeral of a small number. Condition: the digits lie in memory as IntsAt says.
-/
import Derived.WalkKit
import Derived.WalkSpells
import Derived.WalkLawsBesides
import Derived.Test.YtakicnplmcemnaaDoorProg
import Derived.Deep.AppendLies
import Derived.Laws.OwnMore
import Derived.Lib.ItoaNum
import Derived.Lib.Strings
import Derived.Laws.IdiomStrings
import Derived.Deep.RegionHeld3
import Derived.Deep.RegionLaw
namespace Go.Siskin
open Go.RowKit

/-- A fact kept from the walk. -/
theorem hid {p : Prop} (h : p) : Hid p := h

/-- A block of cells, nothing of it frozen. -/
def Own (w : World) (g : Nat) (e : TypeId) (cs : Array Value) : Prop := w.heap[g]? = some (.cells cs e (0, 0))

theorem Own.cell {w : World} {g : Nat} {e : TypeId} {cs : Array Value} (h : Own w g e cs) (i : Nat) : w.cell? ⟨g, i, none⟩ = cs[i]? := by
  unfold Own at h; simp [World.cell?, h]
theorem Own.frozen {w : World} {g : Nat} {e : TypeId} {cs : Array Value} (h : Own w g e cs) (i : Nat) : w.frozen? ⟨g, i, none⟩ = false := by
  unfold Own at h; simp [World.frozen?, h]
theorem Own.set {w : World} {g : Nat} {e : TypeId} {cs : Array Value} (h : Own w g e cs) (i : Nat) (v : Value) : Own (w.setCell ⟨g, i, none⟩ v) g e (cs.setIfInBounds i v) := by
  unfold Own at h ⊢; simp [World.setCell, Array.getElem?_modify, h]
theorem Own.keep {B : Nat} {w w' : World} {g : Nat} {e : TypeId} {cs : Array Value} (h : Own w g e cs) (hb : Below B w w') (hg : g < B) : Own w' g e cs := (hb.block g hg).trans h
theorem Own.lt {w : World} {g : Nat} {e : TypeId} {cs : Array Value} (h : Own w g e cs) : g < w.heap.size := by
  unfold Own at h
  exact (Array.getElem?_eq_some_iff.1 h).1
theorem own_new (w : World) (cs : Array Value) (e : TypeId) : Own (w.alloc (.cells cs e)) w.heap.size e cs := by
  show (w.heap.push (.cells cs e))[w.heap.size]? = _
  simp

/-- What lies below B reads as it did. -/
theorem bcell {W w1 : World} (hb : Below W.heap.size W w1) : (∀ b o, b < W.heap.size → w1.cell? ⟨b, o, none⟩ = W.cell? ⟨b, o, none⟩) ∧ (∀ b o, b < W.heap.size → w1.frozen? ⟨b, o, none⟩ = W.frozen? ⟨b, o, none⟩) :=
  ⟨fun b o h => hb.cell (p := ⟨b, o, none⟩) h, fun b o h => hb.frozen (p := ⟨b, o, none⟩) h⟩

/-- 'make([]T, n)': a new block of n zero elements. -/
theorem wpList_make_new {P : Program} (w : World) {ops : Array Oper} {rest : List Oper} {o : Oper} {a : Act} {Q : Exit → Act → World → Prop}
    (hg : o.guard = none) (l c : Operand) (t : TypeId) (hop : o.op = Op.makeSlice t l c)
    (e : TypeId) (i : TypeInfo) (z : Value) (size : Nat) (h1 : P.underlying t = some (.slice e)) (h2 : P.info? e = some i) (h3 : i.zero = some z) (h4 : i.size = size)
    (kl kc : IntKind) (n : Nat) (hl : a.eval l = .int kl (n : Int)) (hc : a.eval c = .int kc (n : Int)) (b2 : i.bytes * n ≤ 281474976710656) (b3 : n ≤ maxLen)
    (hK : wpList P ops Q rest (a.put o.dst (.slice (some ⟨w.heap.size, 0, none⟩) n n)) (w.alloc (.cells (madeCells z.cells (n * size)) e))) :
    wpList P ops Q (o :: rest) a w := by
  refine wpList_plain hg fun K hK' => ?_
  subst h4
  have h63 : (n : Int) ≤ 9223372036854775807 := by
    have h := b3
    simp [maxLen] at h
    omega
  have hb' : (i.bytes : Int) * (n : Int) ≤ 281474976710656 := by
    have h : ((i.bytes * n : Nat) : Int) ≤ 281474976710656 := by omega
    rwa [Int.natCast_mul] at h
  have hr := run_make (P := P) w t e i z h1 h2 h3 kl kc n n (by omega) (Int.le_refl _) hb' h63
  simp only [Int.toNat_natCast] at hr
  unfold Oper.wp
  simp [execOp, hop, hl, hc, hr, Result.andThen]
  exact hK' _ _ hK

/-- The blocks of R are the same in two worlds. -/
def SameOn (R : Nat → Prop) (w w' : World) : Prop := ∀ b, R b → w'.heap[b]? = w.heap[b]?
theorem SameOn.refl (R : Nat → Prop) (w : World) : SameOn R w w := fun _ _ => rfl
theorem SameOn.trans {R : Nat → Prop} {a b c : World} (h : SameOn R a b) (k : SameOn R b c) : SameOn R a c := fun i hi => (k i hi).trans (h i hi)
theorem SameOn.alloc {R : Nat → Prop} {a w : World} (h : SameOn R a w) (hR : ∀ b, R b → b < w.heap.size) (o : Obj) : SameOn R a (w.alloc o) :=
  fun b hb => (Below.heap_alloc w o b (hR b hb)).trans (h b hb)
theorem SameOn.setCell {R : Nat → Prop} {a w : World} (h : SameOn R a w) {p : Addr} (hp : ¬ R p.block) (u : Value) : SameOn R a (w.setCell p u) :=
  fun b hb => (Below.heap_setCell w p u b (fun e => hp (e ▸ hb))).trans (h b hb)
theorem SameOn.below {R : Nat → Prop} {a w w' : World} (h : SameOn R a w) {N : Nat} (hb : Below N w w') (hR : ∀ b, R b → b < N) : SameOn R a w' :=
  fun b hb' => (hb.block b (hR b hb')).trans (h b hb')
theorem _root_.Go.RowKit.Below.on {R : Nat → Prop} {w w' : World} {N : Nat} (hb : Below N w w') (hR : ∀ b, R b → b < N) : SameOn R w w' := (SameOn.refl R w).below hb hR
theorem SameOn.cell {R : Nat → Prop} {w w' : World} (h : SameOn R w w') {b : Nat} (hb : R b) (o : Nat) : w'.cell? ⟨b, o, none⟩ = w.cell? ⟨b, o, none⟩ := World.cell?_of_block (w := w) (h b hb)
theorem SameOn.drew (R : Nat → Prop) (w : World) : SameOn R w w.drew := fun _ _ => rfl
/-- The blocks that are new in w'. -/
def Fresh (w w' : World) (b : Nat) : Prop := w.heap.size ≤ b ∧ b < w'.heap.size

/-- A slice of ints that lies in blocks of R. -/
def IntsAt (B : Nat → Prop) (w : World) (v : Value) (xs : List Int) : Prop :=
  ∃ a cap, v = .slice a xs.length cap ∧ (xs.length ≤ maxLen ∧ xs.length ≤ cap) ∧ (xs = [] ∨ ∃ b o, a = some ⟨b, o, none⟩ ∧ B b ∧ ∀ i, i < xs.length → w.cell? ⟨b, o + i, none⟩ = some (.int .i64 (xs.getD i 0)))

theorem IntsAt.keep {B : Nat → Prop} {w w' : World} {v : Value} {xs : List Int} (h : IntsAt B w v xs) (hb : SameOn B w w') : IntsAt B w' v xs := by
  obtain ⟨a, cap, e, hl, h⟩ := h
  refine ⟨a, cap, e, hl, ?_⟩
  rcases h with h | ⟨b, o, e, hB, h⟩
  · exact Or.inl h
  · exact Or.inr ⟨b, o, e, hB, fun i hi => (hb.cell hB (o + i)).trans (h i hi)⟩
theorem IntsAt.mono {B B' : Nat → Prop} {w : World} {v : Value} {xs : List Int} (h : IntsAt B w v xs) (hb : ∀ b, B b → B' b) : IntsAt B' w v xs := by
  obtain ⟨a, cap, e, hl, h⟩ := h
  refine ⟨a, cap, e, hl, ?_⟩
  rcases h with h | ⟨b, o, e, hB, h⟩
  · exact Or.inl h
  · exact Or.inr ⟨b, o, e, hb b hB, h⟩

/-- A form: its sort, its text, its scopes, its From, its kids. -/
structure Fm where
  sort : Int
  text : ByteArray
  scopes : List Int
  frm : Int
  kids : List Fm

/-- No form. -/
def Fm.no : Fm := ⟨0, ⟨#[]⟩, [], 0, []⟩

/-- How many forms a form is. -/
def Fm.sz : Fm → Nat
  | ⟨_, _, _, _, ks⟩ => 1 + (ks.map fun k => k.sz).sum
def Fm.szs (ks : List Fm) : Nat := (ks.map Fm.sz).sum
/-- What the law's own count takes of a form. -/
def Fm.cost : Fm → Nat
  | ⟨_, t, sc, _, ks⟩ => t.size + sc.length + ks.length + (ks.map fun k => k.cost).sum
def Fm.costs (ks : List Fm) : Nat := (ks.map Fm.cost).sum

theorem Fm.szs_nil : Fm.szs [] = 0 := rfl
theorem Fm.szs_cons (k : Fm) (r : List Fm) : Fm.szs (k :: r) = k.sz + Fm.szs r := by simp [Fm.szs]
theorem Fm.costs_nil : Fm.costs [] = 0 := rfl
theorem Fm.costs_cons (k : Fm) (r : List Fm) : Fm.costs (k :: r) = k.cost + Fm.costs r := by simp [Fm.costs]
theorem Fm.sz_kids (f : Fm) : f.sz = 1 + Fm.szs f.kids := by
  obtain ⟨s, t, sc, fr, ks⟩ := f
  rw [Fm.sz]; rfl
theorem Fm.cost_eq (f : Fm) : f.cost = f.text.size + f.scopes.length + f.kids.length + Fm.costs f.kids := by
  obtain ⟨s, t, sc, fr, ks⟩ := f
  rw [Fm.cost]; rfl

/-- A form's five cells, and what they lead to, all in blocks of B. -/
def FormAt (B : Nat → Prop) (w : World) : Fm → Value → Value → Value → Value → Value → Prop
  | ⟨s, t, sc, fr, ks⟩, c0, c1, c2, c3, c4 => c0 = .int .i64 s ∧ c1 = .string t ∧ t.size ≤ maxLen ∧ IntsAt B w c2 sc ∧ c3 = .int .i64 fr ∧
      ∃ a cap, c4 = .slice a ks.length cap ∧ ks.length ≤ maxLen ∧ (ks = [] ∨ ∃ b o, a = some ⟨b, o, none⟩ ∧ B b ∧ ∀ (i : Nat) (hi : i < ks.length),
        ∃ k0 k1 k2 k3 k4, w.cell? ⟨b, o + i * 5, none⟩ = some k0 ∧ w.cell? ⟨b, o + i * 5 + 1, none⟩ = some k1 ∧ w.cell? ⟨b, o + i * 5 + 2, none⟩ = some k2 ∧ w.cell? ⟨b, o + i * 5 + 3, none⟩ = some k3 ∧ w.cell? ⟨b, o + i * 5 + 4, none⟩ = some k4 ∧
          (have := List.sizeOf_lt_of_mem (List.getElem_mem hi); FormAt B w ks[i] k0 k1 k2 k3 k4))

/-- Forms that lie side by side from a cell on. -/
def RowAt (B : Nat → Prop) (w : World) (b o : Nat) (ks : List Fm) : Prop := ∀ (i : Nat) (hi : i < ks.length),
  ∃ k0 k1 k2 k3 k4, w.cell? ⟨b, o + i * 5, none⟩ = some k0 ∧ w.cell? ⟨b, o + i * 5 + 1, none⟩ = some k1 ∧ w.cell? ⟨b, o + i * 5 + 2, none⟩ = some k2 ∧ w.cell? ⟨b, o + i * 5 + 3, none⟩ = some k3 ∧ w.cell? ⟨b, o + i * 5 + 4, none⟩ = some k4 ∧ FormAt B w ks[i] k0 k1 k2 k3 k4

/-- A slice of forms. -/
def FormsAt (B : Nat → Prop) (w : World) (v : Value) (ks : List Fm) : Prop :=
  ∃ a cap, v = .slice a ks.length cap ∧ ks.length ≤ maxLen ∧ (ks = [] ∨ ∃ b o, a = some ⟨b, o, none⟩ ∧ B b ∧ RowAt B w b o ks)

theorem formAt_iff (B : Nat → Prop) (w : World) (f : Fm) (c0 c1 c2 c3 c4 : Value) : FormAt B w f c0 c1 c2 c3 c4 ↔
    c0 = .int .i64 f.sort ∧ c1 = .string f.text ∧ f.text.size ≤ maxLen ∧ IntsAt B w c2 f.scopes ∧ c3 = .int .i64 f.frm ∧ FormsAt B w c4 f.kids := by
  obtain ⟨s, t, sc, fr, ks⟩ := f
  rw [FormAt]; rfl

theorem RowAt.get {B : Nat → Prop} {w : World} {b : Nat} (ks : List Fm) {o : Nat} (h : RowAt B w b o ks) (i : Nat) (hi : i < ks.length) :
    ∃ c0 c1 c2 c3 c4, w.cell? ⟨b, o + i * 5, none⟩ = some c0 ∧ w.cell? ⟨b, o + i * 5 + 1, none⟩ = some c1 ∧ w.cell? ⟨b, o + i * 5 + 2, none⟩ = some c2 ∧ w.cell? ⟨b, o + i * 5 + 3, none⟩ = some c3 ∧ w.cell? ⟨b, o + i * 5 + 4, none⟩ = some c4 ∧ FormAt B w ks[i] c0 c1 c2 c3 c4 := h i hi
theorem RowAt.mk {B : Nat → Prop} {w : World} {b : Nat} (ks : List Fm) {o : Nat} (h : ∀ (i : Nat) (hi : i < ks.length),
    ∃ c0 c1 c2 c3 c4, w.cell? ⟨b, o + i * 5, none⟩ = some c0 ∧ w.cell? ⟨b, o + i * 5 + 1, none⟩ = some c1 ∧ w.cell? ⟨b, o + i * 5 + 2, none⟩ = some c2 ∧ w.cell? ⟨b, o + i * 5 + 3, none⟩ = some c3 ∧ w.cell? ⟨b, o + i * 5 + 4, none⟩ = some c4 ∧ FormAt B w ks[i] c0 c1 c2 c3 c4) : RowAt B w b o ks := h

theorem Fm.szs_get : ∀ (ks : List Fm) (i : Nat) (hi : i < ks.length), ks[i].sz ≤ Fm.szs ks
  | [], _, hi => absurd hi (Nat.not_lt_zero _)
  | k :: r, 0, _ => by rw [Fm.szs_cons]; simp
  | k :: r, i + 1, hi => by
    have := Fm.szs_get r i (by simpa using hi)
    simp only [List.getElem_cons_succ, Fm.szs_cons]; omega
theorem Fm.costs_get : ∀ (ks : List Fm) (i : Nat) (hi : i < ks.length), ks[i].cost ≤ Fm.costs ks
  | [], _, hi => absurd hi (Nat.not_lt_zero _)
  | k :: r, 0, _ => by rw [Fm.costs_cons]; simp
  | k :: r, i + 1, hi => by
    have := Fm.costs_get r i (by simpa using hi)
    simp only [List.getElem_cons_succ, Fm.costs_cons]; omega

theorem keep_upto {B : Nat → Prop} {w w' : World} (hb : SameOn B w w') : ∀ (n : Nat) (f : Fm), f.sz ≤ n → ∀ {c0 c1 c2 c3 c4 : Value}, FormAt B w f c0 c1 c2 c3 c4 → FormAt B w' f c0 c1 c2 c3 c4
  | 0, f, hn, _, _, _, _, _, _ => by have := Fm.sz_kids f; omega
  | n + 1, f, hn, c0, c1, c2, c3, c4, h => by
    have hsz := Fm.sz_kids f
    rw [formAt_iff] at h ⊢
    obtain ⟨h0, h1, h2, h3, h4, a, cap, h5, h6, h7⟩ := h
    refine ⟨h0, h1, h2, h3.keep hb, h4, a, cap, h5, h6, ?_⟩
    rcases h7 with h7 | ⟨b, o, h7, h8, h9⟩
    · exact Or.inl h7
    · refine Or.inr ⟨b, o, h7, h8, fun i hi => ?_⟩
      obtain ⟨k0, k1, k2, k3, k4, e0, e1, e2, e3, e4, e5⟩ := h9 i hi
      exact ⟨k0, k1, k2, k3, k4, (hb.cell h8 _).trans e0, (hb.cell h8 _).trans e1, (hb.cell h8 _).trans e2, (hb.cell h8 _).trans e3, (hb.cell h8 _).trans e4, keep_upto hb n _ (by have := Fm.szs_get f.kids i hi; omega) e5⟩
theorem mono_upto {B B' : Nat → Prop} {w : World} (hb : ∀ b, B b → B' b) : ∀ (n : Nat) (f : Fm), f.sz ≤ n → ∀ {c0 c1 c2 c3 c4 : Value}, FormAt B w f c0 c1 c2 c3 c4 → FormAt B' w f c0 c1 c2 c3 c4
  | 0, f, hn, _, _, _, _, _, _ => by have := Fm.sz_kids f; omega
  | n + 1, f, hn, c0, c1, c2, c3, c4, h => by
    have hsz := Fm.sz_kids f
    rw [formAt_iff] at h ⊢
    obtain ⟨h0, h1, h2, h3, h4, a, cap, h5, h6, h7⟩ := h
    refine ⟨h0, h1, h2, h3.mono hb, h4, a, cap, h5, h6, ?_⟩
    rcases h7 with h7 | ⟨b, o, h7, h8, h9⟩
    · exact Or.inl h7
    · refine Or.inr ⟨b, o, h7, hb b h8, fun i hi => ?_⟩
      obtain ⟨k0, k1, k2, k3, k4, e0, e1, e2, e3, e4, e5⟩ := h9 i hi
      exact ⟨k0, k1, k2, k3, k4, e0, e1, e2, e3, e4, mono_upto hb n _ (by have := Fm.szs_get f.kids i hi; omega) e5⟩

theorem FormAt.keep {B : Nat → Prop} {w w' : World} (hb : SameOn B w w') (f : Fm) {c0 c1 c2 c3 c4 : Value} (h : FormAt B w f c0 c1 c2 c3 c4) : FormAt B w' f c0 c1 c2 c3 c4 := keep_upto hb f.sz f (Nat.le_refl _) h
theorem FormAt.mono {B B' : Nat → Prop} {w : World} (hb : ∀ b, B b → B' b) (f : Fm) {c0 c1 c2 c3 c4 : Value} (h : FormAt B w f c0 c1 c2 c3 c4) : FormAt B' w f c0 c1 c2 c3 c4 := mono_upto hb f.sz f (Nat.le_refl _) h
theorem RowAt.keep {B : Nat → Prop} {w w' : World} (hb : SameOn B w w') {b : Nat} (hB : B b) (ks : List Fm) {o : Nat} (h : RowAt B w b o ks) : RowAt B w' b o ks := fun i hi => by
  obtain ⟨k0, k1, k2, k3, k4, e0, e1, e2, e3, e4, e5⟩ := h i hi
  exact ⟨k0, k1, k2, k3, k4, (hb.cell hB _).trans e0, (hb.cell hB _).trans e1, (hb.cell hB _).trans e2, (hb.cell hB _).trans e3, (hb.cell hB _).trans e4, FormAt.keep hb _ e5⟩
theorem RowAt.mono {B B' : Nat → Prop} {w : World} (hb : ∀ b, B b → B' b) {b : Nat} (ks : List Fm) {o : Nat} (h : RowAt B w b o ks) : RowAt B' w b o ks := fun i hi => by
  obtain ⟨k0, k1, k2, k3, k4, e0, e1, e2, e3, e4, e5⟩ := h i hi
  exact ⟨k0, k1, k2, k3, k4, e0, e1, e2, e3, e4, FormAt.mono hb _ e5⟩
theorem FormsAt.keep {B : Nat → Prop} {w w' : World} (hb : SameOn B w w') {v : Value} {ks : List Fm} (h : FormsAt B w v ks) : FormsAt B w' v ks := by
  obtain ⟨a, cap, e, hl, h⟩ := h
  refine ⟨a, cap, e, hl, ?_⟩
  rcases h with h | ⟨b, o, e, hB, h⟩
  · exact Or.inl h
  · exact Or.inr ⟨b, o, e, hB, RowAt.keep hb hB ks h⟩
theorem FormsAt.mono {B B' : Nat → Prop} {w : World} (hb : ∀ b, B b → B' b) {v : Value} {ks : List Fm} (h : FormsAt B w v ks) : FormsAt B' w v ks := by
  obtain ⟨a, cap, e, hl, h⟩ := h
  refine ⟨a, cap, e, hl, ?_⟩
  rcases h with h | ⟨b, o, e, hB, h⟩
  · exact Or.inl h
  · exact Or.inr ⟨b, o, e, hb b hB, RowAt.mono hb ks h⟩

theorem Fm.costs_take (ks : List Fm) (k : Nat) (h : k < ks.length) : Fm.costs (ks.take (k + 1)) = Fm.costs (ks.take k) + ks[k].cost := by
  rw [List.take_succ_eq_append_getElem h]; unfold Fm.costs
  simp only [List.map_append, List.sum_append, List.map_cons, List.map_nil, List.sum_cons, List.sum_nil, Nat.add_zero]
theorem Fm.szs_take (ks : List Fm) (k : Nat) (h : k < ks.length) : Fm.szs (ks.take (k + 1)) = Fm.szs (ks.take k) + ks[k].sz := by
  rw [List.take_succ_eq_append_getElem h]; unfold Fm.szs
  simp only [List.map_append, List.sum_append, List.map_cons, List.map_nil, List.sum_cons, List.sum_nil, Nat.add_zero]
theorem Fm.costs_take_le : ∀ (ks : List Fm) (k : Nat), Fm.costs (ks.take k) ≤ Fm.costs ks
  | [], k => by simp
  | a :: r, 0 => by simp [Fm.costs]
  | a :: r, k + 1 => by have := Fm.costs_take_le r k; simp only [List.take_succ_cons, Fm.costs_cons]; omega
theorem Fm.szs_take_le : ∀ (ks : List Fm) (k : Nat), Fm.szs (ks.take k) ≤ Fm.szs ks
  | [], k => by simp
  | a :: r, 0 => by simp [Fm.szs]
  | a :: r, k + 1 => by have := Fm.szs_take_le r k; simp only [List.take_succ_cons, Fm.szs_cons]; omega
theorem sz_upto : ∀ (n : Nat) (f : Fm), f.sz ≤ n → f.sz ≤ 1 + f.cost
  | 0, f, hn => by have := Fm.sz_kids f; omega
  | n + 1, f, hn => by
    have h1 := Fm.sz_kids f
    have h2 := Fm.cost_eq f
    have h3 : ∀ ks : List Fm, Fm.szs ks ≤ n → Fm.szs ks ≤ ks.length + Fm.costs ks := by
      intro ks
      induction ks with
      | nil => intro _; simp [Fm.szs]
      | cons k r ih =>
        intro hk
        rw [Fm.szs_cons] at hk ⊢
        rw [Fm.costs_cons, List.length_cons]
        have := sz_upto n k (by omega)
        have := ih (by omega)
        omega
    have := h3 f.kids (by omega)
    omega
theorem Fm.sz_le (f : Fm) : f.sz ≤ 1 + f.cost := sz_upto f.sz f (Nat.le_refl _)

end Go.Siskin

namespace Go.Siskin
open Go.RowKit

/-- The cells of numbers. -/
def numL (k : IntKind) (xs : List Nat) : List Value := xs.map fun x : Nat => Value.int k (x : Int)
theorem numL_length (k : IntKind) (xs : List Nat) : (numL k xs).length = xs.length := by simp [numL]
theorem numL_get (k : IntKind) (xs : List Nat) (i : Nat) (h : i < xs.length) : (numL k xs)[i]? = some (.int k (xs[i] : Int)) := by simp [numL, h]
theorem numL_snoc (k : IntKind) (xs : List Nat) (x : Nat) : numL k (xs ++ [x]) = numL k xs ++ [.int k (x : Int)] := by simp [numL]
theorem numL_set (k : IntKind) (xs : List Nat) (i x : Nat) : numL k (xs.set i x) = (numL k xs).set i (.int k (x : Int)) := by simp [numL, List.map_set]

/-- A slice of numbers that lies in blocks of B. -/
def RowOf (k : IntKind) (B : Nat → Prop) (w : World) (v : Value) (xs : List Nat) : Prop :=
  ∃ a cap, v = .slice a xs.length cap ∧ xs.length ≤ cap ∧ cap ≤ maxLen ∧ (xs = [] ∨ ∃ b o, a = some ⟨b, o, none⟩ ∧ B b ∧ ∀ i (h : i < xs.length), w.cell? ⟨b, o + i, none⟩ = some (.int k (xs[i] : Int)))

theorem RowOf.keep {k : IntKind} {B : Nat → Prop} {w w' : World} {v : Value} {xs : List Nat} (h : RowOf k B w v xs) (hb : SameOn B w w') : RowOf k B w' v xs := by
  obtain ⟨a, cap, e, h1, h2, h⟩ := h
  refine ⟨a, cap, e, h1, h2, ?_⟩
  rcases h with h | ⟨b, o, e, hB, h⟩
  · exact Or.inl h
  · exact Or.inr ⟨b, o, e, hB, fun i hi => (hb.cell hB (o + i)).trans (h i hi)⟩
theorem RowOf.mono {k : IntKind} {B B' : Nat → Prop} {w : World} {v : Value} {xs : List Nat} (h : RowOf k B w v xs) (hb : ∀ b, B b → B' b) : RowOf k B' w v xs := by
  obtain ⟨a, cap, e, h1, h2, h⟩ := h
  refine ⟨a, cap, e, h1, h2, ?_⟩
  rcases h with h | ⟨b, o, e, hB, h⟩
  · exact Or.inl h
  · exact Or.inr ⟨b, o, e, hb b hB, h⟩

/-- Groups that lie in what is there. -/
def NatA (w : World) (v : Value) (gs : List Nat) : Prop := RowOf .u64 (fun b => b < w.heap.size) w v gs
theorem NatA.below {w w' : World} {v : Value} {gs : List Nat} {n : Nat} (h : NatA w v gs) (hb : Below n w w') (hn : w.heap.size ≤ n) : NatA w' v gs := by
  have hs := hb.size
  exact (RowOf.keep h (hb.on (fun b hb => by omega))).mono (fun b h => by omega)
theorem NatA.alloc {w : World} {v : Value} {gs : List Nat} (h : NatA w v gs) (o : Obj) : NatA (w.alloc o) v gs := h.below ((Below.refl w.heap.size w).alloc (Nat.le_refl _) o) (Nat.le_refl _)
theorem NatA.drew {w : World} {v : Value} {gs : List Nat} (h : NatA w v gs) : NatA w.drew v gs := h.below (Below.refl w.heap.size w).drew (Nat.le_refl _)
theorem NatA.nil {w : World} : NatA w (.slice none 0 0) [] := ⟨none, 0, rfl, Nat.le_refl _, Nat.zero_le _, Or.inl rfl⟩

theorem cell_one_newZ (w : World) (v : Value) (t : TypeId) : ∀ (j : Nat) u, [v][j]? = some u → (w.alloc (.cells #[v] t)).cell? ((⟨w.heap.size, 0, none⟩ : Addr).add j) = some u := by
  intro j u h
  cases j with
  | zero =>
    simp at h; subst h
    rw [show (⟨w.heap.size, 0, none⟩ : Addr).add 0 = ⟨w.heap.size, 0, none⟩ by simp [Addr.add]]
    exact (own_new w #[v] t).cell 0
  | succ j => simp at h

theorem ownsRow_get {w : World} {base n : Nat} {e : TypeId} {k : IntKind} {v : Value} {xs : List Nat} (h : w.ownsRow base e 1 v n (numL k xs)) {B : Nat → Prop} (hB : ∀ g, v.ownBlock = some g → B g) : RowOf k B w v xs := by
  have hl := h.1
  rw [numL_length] at hl
  rcases h.2 with ⟨rfl, h0⟩ | ⟨g, cap, cur, rfl, hb, hg, hcap, hc2, -, -⟩
  · have : xs = [] := List.length_eq_zero_iff.1 (by omega)
    subst this
    exact ⟨none, 0, rfl, Nat.le_refl _, Nat.zero_le _, Or.inl rfl⟩
  · refine ⟨some ⟨g, 0, none⟩, cap, by rw [hl, Nat.mul_one], by omega, hc2, Or.inr ⟨g, 0, rfl, hB g rfl, fun i hi => ?_⟩⟩
    have k' := h.cells (g := g) rfl i _ (numL_get k xs i hi)
    rw [Go.WideShapes.add_plain] at k'
    exact k'
theorem natA_own {w : World} {base n : Nat} {e : TypeId} {v : Value} {xs : List Nat} (h : w.ownsRow base e 1 v n (numL .u64 xs)) : NatA w v xs := ownsRow_get h (fun g e => (h.lt g e).2)
theorem intsAt_own {w : World} {base n : Nat} {e : TypeId} {v : Value} {xs : List Nat} (h : w.ownsRow base e 1 v n (numL .i64 xs)) (hn : xs.length ≤ maxLen) : IntsAt (fun b => b < w.heap.size) w v (xs.map fun d : Nat => (d : Int)) := by
  obtain ⟨a, cap, e, h1, h2, h3⟩ := ownsRow_get h (B := fun b => b < w.heap.size) (fun g e => (h.lt g e).2)
  refine ⟨a, cap, by rw [List.length_map]; exact e, ⟨by rw [List.length_map]; omega, by rw [List.length_map]; omega⟩, ?_⟩
  rcases h3 with h3 | ⟨b, o, e, hB, h3⟩
  · left; rw [h3]; rfl
  · refine Or.inr ⟨b, o, e, hB, fun i hi => ?_⟩
    rw [List.length_map] at hi
    rw [h3 i hi]; simp [List.getD_eq_getElem?_getD, hi]
end Go.Siskin
namespace Go.Proofs.YtakicnplmcemnaaDoor
open Go.RowKit Go.Siskin

theorem Tryd.infoIntZ : (Tryd.prog.info? 3).map (fun i => (i.zero, i.size, i.bytes)) = some (some (.int .i64 0), 1, 8) := by kernel_rfl
theorem Tryd.infoWordZ : (Tryd.prog.info? 52).map (fun i => (i.zero, i.size, i.bytes)) = some (some (.int .u64 0), 1, 8) := by kernel_rfl
theorem ret_exz {v v' : Value} (h : v = v') : Ending.returned v = .returned v' := by rw [h]

/-- The table of powers of ten stands. -/
def Pow9 (w : World) : Prop := 0 < w.heap.size ∧ ∀ i, i < 9 → w.cell? ⟨0, i, none⟩ = some (.int .u64 ((10 ^ i : Nat) : Int))
theorem Pow9.below {w w' : World} {n : Nat} (h : Pow9 w) (hb : Below n w w') (hn : w.heap.size ≤ n) : Pow9 w' := by
  obtain ⟨h0, h1⟩ := h
  exact ⟨by have := hb.size; omega, fun i hi => (hb.cell (p := ⟨0, i, none⟩) (by show 0 < n; omega)).trans (h1 i hi)⟩
theorem Pow9.alloc {w : World} (h : Pow9 w) (o : Obj) : Pow9 (w.alloc o) := h.below ((Below.refl w.heap.size w).alloc (Nat.le_refl _) o) (Nat.le_refl _)
theorem Pow9.drew {w : World} (h : Pow9 w) : Pow9 w.drew := h.below (Below.refl w.heap.size w).drew (Nat.le_refl _)
end Go.Proofs.YtakicnplmcemnaaDoor

namespace Go.Siskin

/-- The last m decimal digits of v, the first ahead. -/
def digL (m v : Nat) : List UInt8 := (List.range m).map fun t => Lib.dg v (m - 1 - t)
def digT (m v : Nat) : ByteArray := ⟨(digL m v).toArray⟩
/-- The numeral of v. -/
def dec (v : Nat) : ByteArray := digT (Lib.nDigits v) v

theorem digL_length (m v : Nat) : (digL m v).length = m := by simp [digL]
theorem digT_size (m v : Nat) : (digT m v).size = m := by
  show (digL m v).toArray.size = m
  rw [List.size_toArray, digL_length]
theorem dec_size (v : Nat) : (dec v).size = Lib.nDigits v := digT_size _ _
theorem dg_nat (v j : Nat) : (Lib.dg v j).toNat = 48 + v / 10 ^ j % 10 := by
  unfold Lib.dg
  have : v / 10 ^ j % 10 < 10 := Nat.mod_lt _ (by decide)
  simp; omega
theorem digT_get (m v k : Nat) (h : k < (digT m v).size) : (digT m v)[k] = Lib.dg v (m - 1 - k) := by
  show (digL m v).toArray[k] = _
  simp [digL]
theorem digT_nat (m v k : Nat) (h : k < (digT m v).size) : ((digT m v)[k].toNat : Int) = 48 + ((v / 10 ^ (m - 1 - k) % 10 : Nat) : Int) := by
  rw [digT_get, dg_nat]; omega
theorem dec_list (v : Nat) : (dec v).data.toList = Lib.decDigits v := by
  show (digL (Lib.nDigits v) v).toArray.toList = _
  rw [List.toList_toArray, Lib.decDigits_eq]; rfl
theorem dec_eq (v : Nat) : dec v = ⟨(Lib.decDigits v).toArray⟩ := by
  unfold dec digT; rw [Lib.decDigits_eq]; rfl
theorem dec_small {v : Nat} (h : v < 10) : dec v = ⟨#[UInt8.ofNat (48 + v)]⟩ := by
  rw [dec_eq, Lib.decDigits, dif_pos h]
theorem dec_big {v : Nat} (h : ¬ v < 10) : dec v = dec (v / 10) ++ ⟨#[UInt8.ofNat (48 + v % 10)]⟩ := by
  rw [dec_eq, Lib.decDigits, dif_neg h, dec_eq]
  apply ByteArray.ext
  rw [ByteArray.data_append]; simp

theorem ba_ext {a b : ByteArray} (h : a.data.toList = b.data.toList) : a = b := by
  apply ByteArray.ext
  exact Array.toList_inj.1 h

theorem digL_succ (m v : Nat) : digL (m + 1) v = digL m (v / 10) ++ [UInt8.ofNat (48 + v % 10)] := by
  unfold digL
  rw [List.range_succ, List.map_append]
  congr 1
  · refine List.map_congr_left fun t ht => ?_
    have ht' : t < m := List.mem_range.1 ht
    rw [show m + 1 - 1 - t = (m - 1 - t) + 1 by omega, Lib.dg_succ]
  · simp [Lib.dg]
theorem digT_snoc (m v d : Nat) (h : d < 10) : digT m v ++ ⟨#[UInt8.ofNat (48 + d)]⟩ = digT (m + 1) (v * 10 + d) := by
  apply ba_ext
  rw [ByteArray.data_append]
  show (((digL m v).toArray) ++ #[UInt8.ofNat (48 + d)]).toList = (digL (m + 1) (v * 10 + d)).toArray.toList
  rw [digL_succ, show (v * 10 + d) / 10 = v by omega, show (v * 10 + d) % 10 = d by omega]; simp
theorem digT_drop (m v k : Nat) : (digT m v).extract k m = digT (m - k) v := by
  apply ba_ext
  rw [ByteArray.data_extract, Array.toList_extract]
  show ((digL m v).toArray.toList.drop k).take (m - k) = (digL (m - k) v).toArray.toList
  rw [List.toList_toArray, List.toList_toArray]
  apply List.ext_getElem
  · simp [digL]
  · intro i h1 h2
    simp [digL] at h1 h2 ⊢
    congr 1; omega
theorem nDigits_of {m v : Nat} (h1 : v < 10 ^ m) (h2 : m = 1 ∨ (0 < m ∧ v / 10 ^ (m - 1) % 10 ≠ 0)) : Lib.nDigits v = m := by
  rcases h2 with rfl | ⟨h0, h2⟩
  · exact Lib.nDigits_small (by simpa using h1)
  · obtain ⟨k, rfl⟩ : ∃ k, m = k + 1 := ⟨m - 1, by omega⟩
    refine Lib.nDigits_unique k v ?_ h1
    rcases Nat.lt_or_ge v (10 ^ k) with h | h
    · rw [Nat.add_sub_cancel, Nat.div_eq_of_lt h] at h2; simp at h2
    · exact h
theorem digT_dec {m v : Nat} (h1 : v < 10 ^ m) (h2 : m = 1 ∨ (0 < m ∧ v / 10 ^ (m - 1) % 10 ≠ 0)) : digT m v = dec v := by
  unfold dec; rw [nDigits_of h1 h2]
theorem pow_le_dec {v : Nat} (h : 0 < v) : 10 ^ (Lib.nDigits v - 1) ≤ v := by
  induction v using Nat.strongRecOn with
  | _ v ih =>
    by_cases hv : v < 10
    · rw [Lib.nDigits_small hv]; simp; omega
    · rw [Lib.nDigits_big hv]
      have := ih (v / 10) (by omega) (by omega)
      have hp := Lib.nDigits_pos (v / 10)
      obtain ⟨k, hk⟩ : ∃ k, Lib.nDigits (v / 10) = k + 1 := ⟨Lib.nDigits (v / 10) - 1, by omega⟩
      rw [hk] at this ⊢
      simp only [Nat.add_sub_cancel] at this ⊢
      rw [Nat.pow_succ]; omega
theorem dec_top {v : Nat} (h : 0 < v) : v / 10 ^ (Lib.nDigits v - 1) % 10 ≠ 0 := by
  have h1 := pow_le_dec h
  have h2 := Lib.lt_pow_nDigits v
  have h3 := Lib.nDigits_pos v
  obtain ⟨k, hk⟩ : ∃ k, Lib.nDigits v = k + 1 := ⟨Lib.nDigits v - 1, by omega⟩
  rw [hk] at h1 h2 ⊢
  simp only [Nat.add_sub_cancel] at h1 ⊢
  rw [Nat.pow_succ] at h2
  have hp : 0 < 10 ^ k := Nat.pow_pos (by decide)
  have a1 : 0 < v / 10 ^ k := Nat.div_pos h1 hp
  have a2 : v / 10 ^ k < 10 := Nat.div_lt_of_lt_mul h2
  rw [Nat.mod_eq_of_lt a2]; omega
theorem nDigits_mono {a b : Nat} (h : a ≤ b) : Lib.nDigits a ≤ Lib.nDigits b := by
  by_cases ha : a = 0
  · subst ha; rw [Lib.nDigits_small (by decide)]; exact Lib.nDigits_pos b
  · have h1 := pow_le_dec (v := a) (by omega)
    have h2 := Lib.lt_pow_nDigits b
    have h3 : 10 ^ (Lib.nDigits a - 1) < 10 ^ Lib.nDigits b := by omega
    have h4 := (Nat.pow_lt_pow_iff_right (by decide)).1 h3
    omega
theorem nDigits_le {v m : Nat} (h : v < 10 ^ m) (hm : 0 < m) : Lib.nDigits v ≤ m := by
  by_cases hv : v = 0
  · subst hv; rw [Lib.nDigits_small (by decide)]; exact hm
  · have h1 := pow_le_dec (v := v) (by omega)
    have h3 : 10 ^ (Lib.nDigits v - 1) < 10 ^ m := by omega
    have h4 := (Nat.pow_lt_pow_iff_right (by decide)).1 h3
    omega
theorem high_zero {v j : Nat} (h : Lib.nDigits v ≤ j) : v / 10 ^ j = 0 := by
  apply Nat.div_eq_of_lt
  exact Nat.lt_of_lt_of_le (Lib.lt_pow_nDigits v) (Nat.pow_le_pow_right (by decide) h)

theorem dec_inj {a b : Nat} (h : dec a = dec b) : a = b := by
  induction a using Nat.strongRecOn generalizing b with
  | _ a ih =>
    have hs : Lib.nDigits a = Lib.nDigits b := by rw [← dec_size, ← dec_size, h]
    by_cases ha : a < 10
    · by_cases hb : b < 10
      · rw [dec_small ha, dec_small hb] at h
        have h := congrArg (fun x : ByteArray => x.data.toList) h
        simp at h
        have := congrArg UInt8.toNat h
        simp at this; omega
      · rw [Lib.nDigits_small ha, Lib.nDigits_big hb] at hs
        have := Lib.nDigits_pos (b / 10); omega
    · by_cases hb : b < 10
      · rw [Lib.nDigits_small hb, Lib.nDigits_big ha] at hs
        have := Lib.nDigits_pos (a / 10); omega
      · rw [dec_big ha, dec_big hb] at h
        have h := congrArg (fun x : ByteArray => x.data.toList) h
        simp [ByteArray.data_append] at h
        have e1 := ih (a / 10) (by omega) (b := b / 10) (ByteArray.ext h.1)
        have := congrArg UInt8.toNat h.2
        simp at this; omega
end Go.Siskin

namespace Go.Proofs.YtakicnplmcemnaaDoor
open Go.RowKit Go.Siskin

theorem ret_boolz {a b : Bool} (h : a = b) : Ending.returned (.bool a) = .returned (.bool b) := by rw [h]
theorem ret_intz {k : IntKind} {a b : Int} (h : a = b) : Ending.returned (.int k a) = .returned (.int k b) := by rw [h]
theorem ret_strz {a b : ByteArray} (h : a = b) : Ending.returned (.string a) = .returned (.string b) := by rw [h]

set_option maxHeartbeats 400000 in
theorem l11At_any (m v k : Nat) (w : World) (hm : m ≤ maxLen) (hk : k ≤ maxLen) (hv : v < 10 ^ m) :
    Calls Tryd.prog 76 #[.string (digT m v), .int .i64 k] w fun e w' => e = .returned (.int .i64 ((v / 10 ^ k % 10 : Nat) : Int)) ∧ w' = w := by
  have hsz := digT_size m v
  have hsz' : ((digT m v).size : Int) = m := by rw [hsz]
  unfold maxLen at hm hk
  have HV := hid hv
  clear hv
  by_cases h : m ≤ k
  · have HE : Hid (v / 10 ^ k % 10 = 0) := by
      show _ = _
      rw [Nat.div_eq_of_lt (Nat.lt_of_lt_of_le HV.out (Nat.pow_le_pow_right (by decide) h))]
    go_enter Tryd.func76, Tryd.ntmps76
    go_wp2_with fail
    go_ret
    exact ⟨ret_intz (by rw [HE.out]; rfl), rfl⟩
  · have hd := digT_nat m v (m - 1 - k) (by omega)
    rw [show m - 1 - (m - 1 - k) = k by omega] at hd
    have hlt : v / 10 ^ k % 10 < 10 := Nat.mod_lt _ (by decide)
    generalize hc : (digT m v)[m - 1 - k]'(by omega) = c at hd
    have HC := hid hc
    clear hc
    go_enter Tryd.func76, Tryd.ntmps76
    go_wp2_with fail
    go_ret
    refine ⟨ret_intz ?_, rfl⟩
    rw [HC.out, hd]; omega

set_option maxHeartbeats 400000 in
theorem l11Trim_any (m v : Nat) (w : World) (hm : m ≤ maxLen) (hm0 : 0 < m) (hv : v < 10 ^ m) :
    Calls Tryd.prog 93 #[.string (digT m v)] w fun e w' => e = .returned (.string (dec v)) ∧ w' = w := by
  have hsz := digT_size m v
  have hsz' : ((digT m v).size : Int) = m := by rw [hsz]
  unfold maxLen at hm
  have HV := hid hv
  clear hv
  go_enter Tryd.func93, Tryd.ntmps93
  go_wp2_with fail
  go_loop [3] (fun i => ∃ k : Nat, k < m ∧ i = .int .i64 k ∧ Hid (v < 10 ^ (m - k))) (fun i => m - (intOf i).toNat)
  case atStart => exact ⟨0, hm0, rfl, HV.out⟩
  case round =>
    obtain ⟨k, hk, rfl, HA⟩ := hrel
    have hd := digT_nat m v k (by omega)
    by_cases hlt : k + 1 < m
    · by_cases hz : v / 10 ^ (m - 1 - k) % 10 = 0
      · have hd2 : (((digT m v)[k]'(by omega)).toNat : Int) == 48 := by rw [hd, hz]; rfl
        have HN : Hid (v < 10 ^ (m - (k + 1))) := by
          show _ < _
          have h1 := HA.out
          rw [show m - k = (m - 1 - k) + 1 by omega, Nat.pow_succ] at h1
          have h2 : v / 10 ^ (m - 1 - k) < 10 := Nat.div_lt_of_lt_mul h1
          rw [Nat.mod_eq_of_lt h2] at hz
          rw [show m - (k + 1) = m - 1 - k by omega]
          rcases Nat.div_eq_zero_iff.1 hz with h | h
          · have := Nat.pow_pos (n := m - 1 - k) (show 0 < 10 by decide); omega
          · exact h
        clear hd
        go_wp2_with fail
        go_round
        case rel => exact ⟨k + 1, by omega, by go_num, HN⟩
        case measure => simp [intOf]; omega
      · have hd2 : ((((digT m v)[k]'(by omega)).toNat : Int) == 48) = false := by
          rw [hd, beq_eq_false_iff_ne]
          generalize v / 10 ^ (m - 1 - k) % 10 = x at hz
          omega
        have HN : Hid ((digT m v).extract k m = dec v) := by
          show _ = _
          rw [digT_drop]
          exact digT_dec HA.out (Or.inr ⟨by omega, by rw [show m - k - 1 = m - 1 - k by omega]; exact hz⟩)
        clear hd
        go_wp2_with fail
        go_ret
        exact ⟨ret_strz HN.out, rfl⟩
    · have HN : Hid ((digT m v).extract k m = dec v) := by
        show _ = _
        rw [digT_drop]
        exact digT_dec HA.out (Or.inl (by omega))
      clear hd
      go_wp2_with fail
      go_ret
      exact ⟨ret_strz HN.out, rfl⟩
end Go.Proofs.YtakicnplmcemnaaDoor

namespace Go.Proofs.YtakicnplmcemnaaDoor
open Go.RowKit Go.Siskin

theorem Tryd.infoByteZ : (Tryd.prog.info? 5).map (fun i => (i.zero, i.size, i.bytes)) = some (some (.int .u8 0), 1, 1) := by kernel_rfl
theorem info_partsZ {P : Program} {t : TypeId} {z : Option Value} {s b : Nat} (h : (P.info? t).map (fun i => (i.zero, i.size, i.bytes)) = some (z, s, b)) : ∃ i, P.info? t = some i ∧ i.zero = z ∧ i.size = s ∧ i.bytes = b := by
  obtain ⟨i, hi, he⟩ := Option.map_eq_some_iff.1 h
  simp only [Prod.mk.injEq] at he
  exact ⟨i, hi, he.1, he.2.1, he.2.2⟩

/-- Digits from the right. -/
def lowD : List Nat → Nat
  | [] => 0
  | d :: r => d + 10 * lowD r
def OkD (ds : List Nat) : Prop := ∀ d ∈ ds, d < 10
theorem lowD_lt : ∀ ds : List Nat, OkD ds → lowD ds < 10 ^ ds.length
  | [], _ => by simp [lowD]
  | d :: r, h => by
    have h1 := lowD_lt r (fun x hx => h x (List.mem_cons_of_mem _ hx))
    have h2 := h d (List.mem_cons_self ..)
    rw [lowD, List.length_cons, Nat.pow_succ]; omega
theorem lowD_append : ∀ (ds : List Nat) (x : Nat), lowD (ds ++ [x]) = lowD ds + x * 10 ^ ds.length
  | [], x => by simp [lowD]
  | d :: r, x => by
    rw [List.cons_append, lowD, lowD_append r x, lowD, List.length_cons, Nat.pow_succ, Nat.mul_add, Nat.mul_comm (10 ^ r.length) 10, ← Nat.mul_assoc, ← Nat.mul_assoc, Nat.mul_comm 10 x]; omega
theorem lowD_get : ∀ (ds : List Nat) (k : Nat) (h : k < ds.length), OkD ds → lowD ds / 10 ^ k % 10 = ds[k]
  | d :: r, 0, _, h => by
    have := h d (List.mem_cons_self ..)
    simp [lowD]; omega
  | d :: r, k + 1, hk, h => by
    have h0 := h d (List.mem_cons_self ..)
    have h1 := lowD_get r k (by simpa using hk) (fun x hx => h x (List.mem_cons_of_mem _ hx))
    rw [lowD, Nat.pow_succ, Nat.mul_comm (10 ^ k) 10, ← Nat.div_div_eq_div_mul, show (d + 10 * lowD r) / 10 = lowD r by omega, h1]; rfl

theorem conv_dig (W : World) (g cap : Nat) (l : List UInt8) (cs : Array Value) (e : TypeId) (ho : Own W g e cs) (hl : ∀ j (h : j < l.length), cs[j]? = some (.int .u8 (l[j].toNat : Int))) :
    (convert 67 9 (.slice (some ⟨g, 0, none⟩) l.length cap)).run Tryd.prog W = .ok (.string ⟨l.toArray⟩) W :=
  run_convert_bytes_back (P := Tryd.prog) W 67 9 5 ⟨g, 0, none⟩ cap l Tryd.underlying67 Tryd.underlying5 Tryd.underlying9 (fun j hj => by
    have h := ho.cell j
    rw [show (⟨g, 0, none⟩ : Addr).add j = ⟨g, j, none⟩ by unfold Addr.add; split <;> simp_all]
    exact h.trans (hl j hj))

set_option maxRecDepth 20000 in
set_option maxHeartbeats 1000000 in
theorem l11Text_any (ds : List Nat) (B : Nat → Prop) (va : Value) (w : World) (ha : IntsAt B w va (ds.map fun d : Nat => (d : Int))) (hB : ∀ b, B b → b < w.heap.size) (hn : ds.length ≤ 1048576) (hd : OkD ds) :
    Calls Tryd.prog 77 #[va] w fun e w' => e = .returned (.string (dec (lowD ds))) ∧ Below w.heap.size w w' := by
  obtain ⟨a, ca, rfl, hla, ha⟩ := ha
  rw [List.length_map] at *
  obtain ⟨i, hi, hz0, hz1, hz2⟩ := info_partsZ Tryd.infoByteZ
  have Hi := hid hi
  have Hz0 := hid hz0
  have Hz1 := hid hz1
  have Hz2 := hid hz2
  have HD := hid hd
  have HBB := hid hB
  clear hi hz0 hz1 hz2 hla hd hB
  generalize hL : ds.length = L at *
  go_enter Tryd.func77, Tryd.ntmps77
  go_wp2_with (at_make; refine wpList_make_new _ rfl _ _ 67 rfl 5 i (.int .u8 0) 1 Tryd.underlying67 Hi.out Hz0.out Hz1.out .i64 .i64 L rfl rfl (by rw [Hz2.out]; omega) (by unfold maxLen; omega) ?_)
  go_loopw [4] (fun i wr => ∃ k : Nat, k ≤ L ∧ i = .int .i64 k ∧ Hid (∃ cs : Array Value, Own wr w.heap.size 5 cs ∧ cs.size = L ∧ (∀ j, L - k ≤ j → j < L → cs[j]? = some (.int .u8 ((Lib.dg (lowD ds) (L - 1 - j)).toNat : Int))) ∧ Below w.heap.size w wr)) (fun i _ => L - (intOf i).toNat)
  case atStart => exact ⟨0, Nat.zero_le _, rfl, _, own_new _ _ _, by simp [size_madeCells], fun j h1 h2 => absurd h2 (by omega), (Below.refl _ _).alloc (Nat.le_refl _) _⟩
  case round =>
    obtain ⟨k, hk, rfl, HA⟩ := hrel
    obtain ⟨cs, ho, hcs, hgot, hbel⟩ := HA.out
    have HO := hid ho
    have HG := hid hgot
    have HB := hid hbel
    have HCS := hid hcs
    by_cases hlt : k < L
    · rcases ha with ha | ⟨ba, oa, rfl, hb, ha⟩
      · have := List.map_eq_nil_iff.1 ha; subst this; simp at hL; omega
      have hk' : k < ds.length := by omega
      have ga := (hbel.cell (p := ⟨ba, oa + k, none⟩) (HBB.out ba hb)).trans (ha k hlt)
      rw [show (ds.map fun d : Nat => (d : Int)).getD k 0 = (ds[k] : Int) by simp [List.getD_eq_getElem?_getD, hk']] at ga
      have gc := ho.cell (L - 1 - k)
      rw [Array.getElem?_eq_getElem (by omega)] at gc
      have gf := ho.frozen (L - 1 - k)
      have hdk : ds[k] < 10 := HD.out _ (List.getElem_mem hk')
      have HX : Hid (lowD ds / 10 ^ k % 10 = ds[k]) := lowD_get ds k hk' HD.out
      generalize ds[k] = x at *
      generalize hgd : cs[L - 1 - k] = old at gc
      clear ha HA ho hgot hbel hcs hgd
      go_wp2_with fail
      refine ⟨⟨k + 1, by omega, by go_num, _, HO.out.set (L - 1 - k) _, by simp [HCS.out], ?_, HB.out.setCell (Nat.le_refl _) _⟩, by simp [intOf]; omega⟩
      intro j h1 h2
      by_cases e : j = L - 1 - k
      · subst e
        rw [Array.getElem?_setIfInBounds, if_pos rfl, if_pos (by rw [HCS.out]; omega), show L - 1 - (L - 1 - k) = k by omega, dg_nat, HX.out]
        congr 2 <;> omega
      · rw [Array.getElem?_setIfInBounds, if_neg (by omega)]; exact HG.out j (by omega) h2
    · clear HA ho hgot hbel hcs
      obtain rfl : k = L := by omega
      by_cases h0 : k = 0
      · subst h0
        have : ds = [] := List.length_eq_zero_iff.1 hL
        subst this
        have HZ : Hid ((⟨#[48]⟩ : ByteArray) = dec (lowD [])) := by show _ = _; rw [dec_small (by simp [lowD])]; rfl
        go_wp2_with fail
        go_ret
        exact ⟨ret_strz HZ.out, HB.out⟩
      · have h0' : ((k : Int) == 0) = false := by rw [beq_eq_false_iff_ne]; omega
        have hcv := conv_dig wr w.heap.size k (digL k (lowD ds)) cs 5 HO.out (fun j h => by
          rw [digL_length] at h
          rw [HG.out j (by omega) h]
          simp [digL])
        rw [digL_length] at hcv
        have HT := hid (l11Trim_any k (lowD ds) wr (by unfold maxLen; omega) (by omega) (by rw [← hL]; exact lowD_lt ds HD.out))
        have hcv' : (convert 67 9 (.slice (some ⟨w.heap.size, 0, none⟩) k k)).run Tryd.prog wr = .ok (.string (digT k (lowD ds))) wr := hcv
        clear hcv
        go_wp2_with (go_at_call 93; refine HT.out.mono ?_; rintro e w' ⟨rfl, rfl⟩)
        go_ret
        exact ⟨rfl, HB.out⟩
end Go.Proofs.YtakicnplmcemnaaDoor
