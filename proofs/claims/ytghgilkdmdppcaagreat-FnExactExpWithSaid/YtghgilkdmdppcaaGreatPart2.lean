/-
  The drawing reader: pick tells a number below a bound, of tells one of a list of texts, l1Open makes a reader. Condition: the reader and its bytes lie in memory apart, and it has not picked too often.
  The drawing of an identifier, l8Id, and what it needs: of, l1Open. Condition: the reader and its bytes lie in memory apart, and it has not picked too often.
  Rows of forms that a call makes; appending ints from whatever slice. No program's step is walked here.
  The model's l1Copy and l1Copies make the same form in new memory. Condition: the form lies in memory as FormAt says, and is not too long.
  The model's l2Take returns the numbers of a list that are not a given one, in new memory. Condition: the slice lies in memory as IntsAt says.
  For the model's l2Put: a part of a slice of ints, and the place of a number among ascending ones.
-/
import Derived.Test.YtghgilkdmdppcaaGreatPart1
import Derived.BigQuiet
import Derived.Maps.AppendAt
import Derived.Deep.AppendLies
import Derived.Deep.AppendSrc
namespace Go.Proofs.YtghgilkdmdppcaaGreat
open Go.RowKit Go.Siskin

/-- Bytes that lie in blocks of R. -/
def BytesAt (R : Nat → Prop) (w : World) (v : Value) (n : Nat) : Prop :=
  ∃ a cap, v = .slice a n cap ∧ (n ≤ cap ∧ cap ≤ maxLen) ∧ (n = 0 ∨ ∃ b o, a = some ⟨b, o, none⟩ ∧ R b ∧ ∀ i, i < n → ∃ x : Nat, x < 256 ∧ w.cell? ⟨b, o + i, none⟩ = some (.int .u8 x))
theorem BytesAt.keep {R : Nat → Prop} {w w' : World} {v : Value} {n : Nat} (h : BytesAt R w v n) (hb : SameOn R w w') : BytesAt R w' v n := by
  obtain ⟨a, cap, e, hl, h⟩ := h
  refine ⟨a, cap, e, hl, ?_⟩
  rcases h with h | ⟨b, o, e, hB, h⟩
  · exact Or.inl h
  · refine Or.inr ⟨b, o, e, hB, fun i hi => ?_⟩
    obtain ⟨x, hx, hc⟩ := h i hi
    exact ⟨x, hx, (hb.cell hB (o + i)).trans hc⟩

theorem bits_xor_i64 (a b : Nat) (ha : a < 4611686018427387904) (hb : b < 4611686018427387904) : bits .xor .i64 (a : Int) (b : Int) = ((a ^^^ b : Nat) : Int) := by
  have hx : a ^^^ b < 2 ^ 62 := Nat.xor_lt_two_pow (by omega) (by omega)
  have h1 : (BitVec.ofInt 64 (a : Int)).toNat = a := by
    rw [BitVec.ofInt_natCast, BitVec.toNat_ofNat]; exact Nat.mod_eq_of_lt (by omega)
  have h2 : (BitVec.ofInt 64 (b : Int)).toNat = b := by
    rw [BitVec.ofInt_natCast, BitVec.toNat_ofNat]; exact Nat.mod_eq_of_lt (by omega)
  show IntKind.i64.wrap ((BitVec.ofInt 64 (a : Int) ^^^ BitVec.ofInt 64 (b : Int)).toNat : Int) = _
  rw [BitVec.toNat_xor, h1, h2]
  simp [IntKind.wrap, IntKind.bits, IntKind.signed]
  omega

end Go.Proofs.YtghgilkdmdppcaaGreat

namespace Go.Proofs.YtghgilkdmdppcaaGreat
open Go.RowKit Go.Siskin

theorem _root_.Go.Siskin.Own.more {w : World} {g : Nat} {e : TypeId} {cs : Array Value} (h : Own w g e cs) (hg : g < w.heap.size) (o : Obj) : Own (w.alloc o) g e cs := h.keep ((Below.refl w.heap.size w).alloc (Nat.le_refl _) _) hg
theorem _root_.Go.Siskin.Own.far {w w' : World} {g : Nat} {e : TypeId} {cs : Array Value} (h : Own w g e cs) {row : Option Nat} (hg : w.grownBy w' row) (hne : some g ≠ row) : Own w' g e cs := (hg.block g h.lt hne).trans h
theorem grown_set (w : World) (g i : Nat) (x : Value) : w.grownBy (w.setCell ⟨g, i, none⟩ x) (some g) :=
  ⟨rfl, rfl, rfl, by simp, fun j _ hne => Below.heap_setCell w _ _ j fun e => hne (congrArg some e)⟩

/-- Five cells, written one by one. -/
def wr5 (w : World) (g : Nat) (c0 c1 c2 c3 c4 : Value) : World := ((((w.setCell ⟨g, 0, none⟩ c0).setCell ⟨g, 1, none⟩ c1).setCell ⟨g, 2, none⟩ c2).setCell ⟨g, 3, none⟩ c3).setCell ⟨g, 4, none⟩ c4
theorem wr5_grown (w : World) (g : Nat) (c0 c1 c2 c3 c4 : Value) : w.grownBy (wr5 w g c0 c1 c2 c3 c4) (some g) :=
  ((((grown_set w g 0 c0).trans (grown_set _ g 1 c1)).trans (grown_set _ g 2 c2)).trans (grown_set _ g 3 c3)).trans (grown_set _ g 4 c4)
theorem wr5_size (w : World) (g : Nat) (c0 c1 c2 c3 c4 : Value) : (wr5 w g c0 c1 c2 c3 c4).heap.size = w.heap.size := by simp [wr5]

theorem row_ints {w : World} {base n : Nat} {v : Value} {xs : List Int} (h : w.ownsRow base 3 1 v n (xs.map (Value.int .i64))) (hn : xs.length ≤ maxLen) {B : Nat → Prop} (hB : ∀ g, base ≤ g → g < w.heap.size → B g) : IntsAt B w v xs := by
  have hl := h.1
  rw [List.length_map] at hl
  rcases h.2 with ⟨rfl, h0⟩ | ⟨g, cap, cur, rfl, hb, hg, hcap, -, -, -⟩
  · have : xs = [] := List.length_eq_zero_iff.1 (by omega)
    subst this
    exact ⟨none, 0, rfl, ⟨Nat.zero_le _, Nat.le_refl _⟩, Or.inl rfl⟩
  · refine ⟨some ⟨g, 0, none⟩, cap, by rw [hl, Nat.mul_one], ⟨hn, by omega⟩, Or.inr ⟨g, 0, rfl, hB g hb (Array.getElem?_eq_some_iff.1 hg).1, fun i hi => ?_⟩⟩
    have k := h.cells (g := g) rfl i (.int .i64 (xs.getD i 0)) (by rw [List.getElem?_map, List.getElem?_eq_getElem hi, List.getD_eq_getElem?_getD, List.getElem?_eq_getElem hi]; rfl)
    rw [Go.WideShapes.add_plain] at k
    exact k

theorem Tryz.infoIntE : (Tryz.prog.info? 3).map (fun i => (i.zero, i.size, i.bytes)) = some (some (.int .i64 0), 1, 8) := by kernel_rfl

end Go.Proofs.YtghgilkdmdppcaaGreat

namespace Go.Proofs.YtghgilkdmdppcaaGreat
open Go.RowKit Go.Siskin

/-- Cells, side by side, five for each form. -/
def FCells (S : Nat → Prop) (w : World) (cs : List Value) (ks : List Fm) : Prop := ∀ (i : Nat) (hi : i < ks.length),
  ∃ k0 k1 k2 k3 k4, cs[i * 5]? = some k0 ∧ cs[i * 5 + 1]? = some k1 ∧ cs[i * 5 + 2]? = some k2 ∧ cs[i * 5 + 3]? = some k3 ∧ cs[i * 5 + 4]? = some k4 ∧ FormAt S w ks[i] k0 k1 k2 k3 k4

theorem FCells.keep {S : Nat → Prop} {w w' : World} {cs : List Value} {ks : List Fm} (h : FCells S w cs ks) (hb : SameOn S w w') : FCells S w' cs ks := fun i hi => by
  obtain ⟨k0, k1, k2, k3, k4, e0, e1, e2, e3, e4, e5⟩ := h i hi
  exact ⟨k0, k1, k2, k3, k4, e0, e1, e2, e3, e4, FormAt.keep hb _ e5⟩
theorem FCells.mono {S S' : Nat → Prop} {w : World} {cs : List Value} {ks : List Fm} (h : FCells S w cs ks) (hb : ∀ b, S b → S' b) : FCells S' w cs ks := fun i hi => by
  obtain ⟨k0, k1, k2, k3, k4, e0, e1, e2, e3, e4, e5⟩ := h i hi
  exact ⟨k0, k1, k2, k3, k4, e0, e1, e2, e3, e4, FormAt.mono hb _ e5⟩
theorem FCells.snoc {S : Nat → Prop} {w : World} {cs : List Value} {ks : List Fm} {c0 c1 c2 c3 c4 : Value} {f : Fm} (h : FCells S w cs ks) (hl : cs.length = ks.length * 5) (hc : FormAt S w f c0 c1 c2 c3 c4) : FCells S w (cs ++ [c0, c1, c2, c3, c4]) (ks ++ [f]) := fun i hi => by
  rw [List.length_append, List.length_singleton] at hi
  by_cases e : i < ks.length
  · obtain ⟨k0, k1, k2, k3, k4, e0, e1, e2, e3, e4, e5⟩ := h i e
    refine ⟨k0, k1, k2, k3, k4, ?_, ?_, ?_, ?_, ?_, ?_⟩
    · rw [List.getElem?_append_left (by omega)]; exact e0
    · rw [List.getElem?_append_left (by omega)]; exact e1
    · rw [List.getElem?_append_left (by omega)]; exact e2
    · rw [List.getElem?_append_left (by omega)]; exact e3
    · rw [List.getElem?_append_left (by omega)]; exact e4
    · rw [List.getElem_append_left e]; exact e5
  · have hi' : i = ks.length := by omega
    subst hi'
    refine ⟨c0, c1, c2, c3, c4, ?_, ?_, ?_, ?_, ?_, ?_⟩
    · rw [List.getElem?_append_right (by omega), hl, Nat.sub_self]; rfl
    · rw [List.getElem?_append_right (by omega), hl, show ks.length * 5 + 1 - ks.length * 5 = 1 by omega]; rfl
    · rw [List.getElem?_append_right (by omega), hl, show ks.length * 5 + 2 - ks.length * 5 = 2 by omega]; rfl
    · rw [List.getElem?_append_right (by omega), hl, show ks.length * 5 + 3 - ks.length * 5 = 3 by omega]; rfl
    · rw [List.getElem?_append_right (by omega), hl, show ks.length * 5 + 4 - ks.length * 5 = 4 by omega]; rfl
    · simpa using hc

/-- A slice of forms that owns its row, from block base on; what the forms lead to lies in S, new blocks too, and not in the row. -/
structure Kids (S : Nat → Prop) (w : World) (base : Nat) (v : Value) (ks : List Fm) : Prop where
  row : ∃ cs, w.ownsRow base 29 5 v ks.length cs ∧ FCells S w cs ks
  off : ∀ g, v.ownBlock = some g → ¬ S g
  low : ∀ i, S i → base ≤ i ∧ i < w.heap.size

theorem kids_nil (S : Nat → Prop) (w : World) (base : Nat) (hS : ∀ i, S i → base ≤ i ∧ i < w.heap.size) : Kids S w base (.slice none 0 0) [] :=
  ⟨⟨[], World.ownsRow_nil _ _ _ _, fun i hi => absurd hi (by simp)⟩, fun _ h => (by cases h), hS⟩
theorem kids_no {w : World} {base : Nat} : Kids (fun _ => False) w base (.slice none 0 0) [] := kids_nil _ _ _ fun _ h => h.elim

/-- Over whatever leaves the forms and the row alone. -/
theorem Kids.keep {S : Nat → Prop} {w w' : World} {base : Nat} {v : Value} {ks : List Fm} (h : Kids S w base v ks) {row : Option Nat} (hg : w.grownBy w' row) (h1 : ∀ g, row = some g → ¬ S g) (h2 : v.ownBlock = none ∨ v.ownBlock ≠ row) : Kids S w' base v ks := by
  obtain ⟨⟨cs, r1, r2⟩, ho, hl⟩ := h
  exact ⟨⟨cs, r1.kept hg h2, r2.keep fun i hi => hg.block i (hl i hi).2 fun e => h1 i e.symm hi⟩, ho, fun i hi => ⟨(hl i hi).1, Nat.lt_of_lt_of_le (hl i hi).2 hg.size⟩⟩
theorem Kids.below {S : Nat → Prop} {w w' : World} {base : Nat} {v : Value} {ks : List Fm} (h : Kids S w base v ks) (hb : Below w.heap.size w w') : Kids S w' base v ks :=
  h.keep (row := none) ⟨hb.os, hb.tape, hb.output, hb.size, fun i hi _ => hb.block i hi⟩ (fun _ e => (by cases e)) (by cases v.ownBlock <;> simp)
/-- The forms may lead to more. -/
theorem Kids.more {S S' : Nat → Prop} {w : World} {base : Nat} {v : Value} {ks : List Fm} (h : Kids S w base v ks) (h1 : ∀ i, S i → S' i) (h2 : ∀ i, S' i → base ≤ i ∧ i < w.heap.size) (h3 : ∀ g, v.ownBlock = some g → ¬ S' g) : Kids S' w base v ks := by
  obtain ⟨⟨cs, r1, r2⟩, -, -⟩ := h
  exact ⟨⟨cs, r1, r2.mono h1⟩, h3, h2⟩
theorem Kids.lt {S : Nat → Prop} {w : World} {base : Nat} {v : Value} {ks : List Fm} (h : Kids S w base v ks) {g : Nat} (e : v.ownBlock = some g) : base ≤ g ∧ g < w.heap.size := by
  obtain ⟨⟨cs, r1, -⟩, -, -⟩ := h
  exact r1.lt g e
/-- With one form more. -/
theorem Kids.snoc {S : Nat → Prop} {w w' : World} {base : Nat} {v v' : Value} {ks : List Fm} (h : Kids S w base v ks) {cs : List Value} (r1 : w.ownsRow base 29 5 v ks.length cs) (r2 : FCells S w cs ks) {f : Fm} {c0 c1 c2 c3 c4 : Value} (hf : FormAt S w f c0 c1 c2 c3 c4)
    (hg : w.grownBy w' v.ownBlock) (hr : w'.ownsRow base 29 5 v' (ks.length + 1) (cs ++ [c0, c1, c2, c3, c4])) (hloc : v'.ownBlock = v.ownBlock ∨ ∃ g, v'.ownBlock = some g ∧ w.heap.size ≤ g) : Kids S w' base v' (ks ++ [f]) := by
  have hs : SameOn S w w' := fun i hi => hg.block i (h.low i hi).2 fun e => h.off i e.symm hi
  refine ⟨⟨_, by rw [List.length_append, List.length_singleton]; exact hr, (r2.snoc (by have := r1.1; omega) hf).keep hs⟩, fun g e hS => ?_, fun i hi => ⟨(h.low i hi).1, Nat.lt_of_lt_of_le (h.low i hi).2 hg.size⟩⟩
  rcases hloc with h1 | ⟨g', h1, h2⟩
  · exact h.off g (by rw [← h1]; exact e) hS
  · rw [h1] at e
    cases e
    have := (h.low _ hS).2
    omega
theorem Kids.shape {S : Nat → Prop} {w : World} {base : Nat} {v : Value} {ks : List Fm} (h : Kids S w base v ks) : ∃ a c, v = .slice a ks.length c := by
  obtain ⟨⟨cs, r1, -⟩, -, -⟩ := h
  rcases r1.2 with ⟨rfl, h0⟩ | ⟨g, cap, cur, rfl, -⟩
  · exact ⟨none, 0, by rw [h0]⟩
  · exact ⟨_, _, rfl⟩
/-- As forms in memory. -/
theorem Kids.forms {S : Nat → Prop} {w : World} {base : Nat} {v : Value} {ks : List Fm} (h : Kids S w base v ks) (hn : ks.length ≤ maxLen) {B : Nat → Prop} (hB : ∀ i, base ≤ i → i < w.heap.size → B i) : FormsAt B w v ks := by
  obtain ⟨⟨cs, r1, r2⟩, -, hl⟩ := h
  have r1' := r1
  rcases r1.2 with ⟨rfl, h0⟩ | ⟨g, cap, cur, rfl, hb, hg, -, -, -, -⟩
  · have : ks = [] := List.length_eq_zero_iff.1 h0
    subst this
    exact ⟨none, 0, rfl, Nat.zero_le _, Or.inl rfl⟩
  · refine ⟨some ⟨g, 0, none⟩, cap, rfl, hn, Or.inr ⟨g, 0, rfl, hB g hb (Array.getElem?_eq_some_iff.1 hg).1, RowAt.mk _ fun i hi => ?_⟩⟩
    obtain ⟨k0, k1, k2, k3, k4, e0, e1, e2, e3, e4, e5⟩ := r2 i hi
    have k := r1'.cells (g := g) rfl
    have q0 := k _ _ e0
    have q1 := k _ _ e1
    have q2 := k _ _ e2
    have q3 := k _ _ e3
    have q4 := k _ _ e4
    rw [Go.WideShapes.add_plain] at q0 q1 q2 q3 q4
    exact ⟨k0, k1, k2, k3, k4, q0, q1, q2, q3, q4, FormAt.mono (fun i hi => hB i (hl i hi).1 (hl i hi).2) _ e5⟩

theorem Tryz.infoFormE : (Tryz.prog.info? 29).map (fun i => (i.zero, i.size, i.bytes)) = some (some (.agg #[.int .i64 0, .string ⟨#[]⟩, .slice none 0 0, .int .i64 0, .slice none 0 0]), 5, 80) := by kernel_rfl

/-- 'append(s, u...)' of ints onto a row of the call's own that is there. -/
theorem run_append_ints (w : World) (base : Nat) (i : TypeInfo) (ty : TypeId) (hi : Tryz.prog.info? 3 = some i) (hz : i.zero = some (.int .i64 0)) (h1 : i.size = 1) (h2 : i.bytes = 8)
    (g0 n cap : Nat) (ys : List Int) (hown : w.ownsRow base 3 1 (.slice (some ⟨g0, 0, none⟩) n cap) n (ys.map (Value.int .i64))) (B : Nat → Prop) (u : Value) (xs : List Int) (hu : IntsAt B w u xs) (hn : n + xs.length ≤ 1048576 * 2) (hb : base ≤ w.heap.size) :
    ∃ g c w', (Builtin.append_ #[22, 22] ty #[.slice (some ⟨g0, 0, none⟩) n cap, u]).run Tryz.prog w = .ok (.slice (some ⟨g, 0, none⟩) (n + xs.length) c) w' ∧ w'.ownsRow base 3 1 (.slice (some ⟨g, 0, none⟩) (n + xs.length) c) (n + xs.length) ((ys ++ xs).map (Value.int .i64)) ∧ w.grownBy w' (some g0) ∧ base ≤ g := by
  obtain ⟨a, cu, rfl, -, hu⟩ := hu
  have form : ∀ {v' : Value} {w' : World} {m : Nat} {zs : List Value}, w'.ownsRow base 3 1 v' m zs → v' ≠ .slice none 0 0 → ∃ g c, v' = .slice (some ⟨g, 0, none⟩) m c ∧ base ≤ g := by
    intro v' w' m zs h hne
    rcases h.2 with ⟨e, -⟩ | ⟨g, c, cur, e, hb, -⟩
    · exact absurd e hne
    · exact ⟨g, c, e, hb⟩
  have some_case : ∀ (ad : Addr), (∀ j u, (xs.map (Value.int .i64))[j]? = some u → w.cell? (ad.add j) = some u) → ∃ g c w', (Builtin.append_ #[22, 22] ty #[.slice (some ⟨g0, 0, none⟩) n cap, .slice (some ad) xs.length cu]).run Tryz.prog w = .ok (.slice (some ⟨g, 0, none⟩) (n + xs.length) c) w' ∧ w'.ownsRow base 3 1 (.slice (some ⟨g, 0, none⟩) (n + xs.length) c) (n + xs.length) ((ys ++ xs).map (Value.int .i64)) ∧ w.grownBy w' (some g0) ∧ base ≤ g := by
    intro ad had
    obtain ⟨v', w', hr, ho, hg, hnil, -⟩ := run_append_own_at (P := Tryz.prog) w base 22 ty 3 i (.int .i64 0) 1 8 Tryz.underlying22 hi hz h1 h2 rfl (by decide) _ n _ hown ad xs.length cu (xs.map (Value.int .i64)) (by simp) had (fun u hu => by obtain ⟨x, -, rfl⟩ := List.mem_map.1 hu; rfl) (by unfold maxLen; omega) (by omega) hb
    have hne : v' ≠ .slice none 0 0 := fun e => by have := (hnil.1 e).1; cases this
    obtain ⟨g, c, rfl, hbg⟩ := form ho hne
    exact ⟨g, c, w', hr, by rw [List.map_append]; exact ho, hg, hbg⟩
  rcases hu with rfl | ⟨b, o, rfl, -, hu⟩
  · cases a with
    | some ad => exact some_case ad (fun j u hj => by simp at hj)
    | none =>
      have hbg : base ≤ g0 := (hown.lt g0 rfl).1
      refine ⟨g0, cap, w, ?_, by simpa using hown, World.grownBy.refl _ _, hbg⟩
      have hcap : n ≤ cap := by
        rcases hown.2 with ⟨e, -⟩ | ⟨g, c, cur, e, -, -, hle, -⟩
        · cases e
        · cases e; exact hle
      have hr := run_append_room_src (P := Tryz.prog) (w := w) 22 22 ty 3 i Tryz.underlying22 hi g0 0 n cap (.slice none 0 cu) 0 [] (Src.ofNil w Tryz.underlying22 cu) (by omega) (fun j hj => absurd hj (by simp)) (fun j hj => absurd hj (by simp))
      simpa [World.setCells] using hr
  · refine some_case ⟨b, o, none⟩ fun j u hj => ?_
    rw [List.getElem?_map] at hj
    by_cases hjl : j < xs.length
    · rw [List.getElem?_eq_getElem hjl] at hj
      cases hj
      have := hu j hjl
      rw [Go.WideShapes.add_plain, this, List.getD_eq_getElem?_getD, List.getElem?_eq_getElem hjl]; rfl
    · rw [List.getElem?_eq_none (by omega)] at hj
      cases hj

end Go.Proofs.YtghgilkdmdppcaaGreat

namespace Go.Proofs.YtghgilkdmdppcaaGreat
open Go.RowKit Go.Siskin

/-- 'append(s, u...)' of ints at the operation. -/
theorem wpList_append_ints (w : World) {ops : Array Oper} {rest : List Oper} {o : Oper} {a : Act} {Q : Exit → Act → World → Prop} (hgd : o.guard = none) (s x : Operand)
    (ho : o.op = .call { callee := .builtin .append, args := #[s, x], argTypes := #[22, 22] })
    (base : Nat) (i : TypeInfo) (hi : Tryz.prog.info? 3 = some i) (hz : i.zero = some (.int .i64 0)) (h1 : i.size = 1) (h2 : i.bytes = 8)
    (g0 n cap : Nat) (ys : List Int) (hs : a.eval s = .slice (some ⟨g0, 0, none⟩) n cap) (hown : w.ownsRow base 3 1 (.slice (some ⟨g0, 0, none⟩) n cap) n (ys.map (Value.int .i64))) (B : Nat → Prop) (u : Value) (xs : List Int) (hx : a.eval x = u) (hu : IntsAt B w u xs) (hn : n + xs.length ≤ 1048576 * 2) (hb : base ≤ w.heap.size)
    (h : ∀ g c w', w'.ownsRow base 3 1 (.slice (some ⟨g, 0, none⟩) (n + xs.length) c) (n + xs.length) ((ys ++ xs).map (Value.int .i64)) → w.grownBy w' (some g0) → base ≤ g → wpList Tryz.prog ops Q rest (a.put o.dst (.slice (some ⟨g, 0, none⟩) (n + xs.length) c)) w') :
    wpList Tryz.prog ops Q (o :: rest) a w := by
  refine wpList_plain hgd fun K hK => ?_
  obtain ⟨g, c, w', hr, r1, r2, r3⟩ := run_append_ints w base i o.type hi hz h1 h2 g0 n cap ys hown B u xs hu hn hb
  unfold Oper.wp execOp
  simp only [ho, resolve, invoke, builtin, Sem.run_bind, Sem.run_pure, Result.andThen_ok, List.map_toArray, List.map_cons, List.map_nil, hs, hx, hr]
  exact hK _ _ (h g c w' r1 r2 r3)

/-- The lists of a form that was copied are the call's own, each in a row of its own. -/
def Copied (w w' : World) (f : Fm) (d2 d4 : Value) : Prop := ∃ g c N S, d2 = .slice (some ⟨g, 0, none⟩) f.scopes.length c ∧ w'.ownsRow w.heap.size 3 1 d2 f.scopes.length (f.scopes.map (Value.int .i64)) ∧ g < N ∧ w.heap.size ≤ N ∧ N ≤ w'.heap.size ∧ Kids S w' N d4 f.kids

def CopyForm (n : Nat) : Prop := ∀ f : Fm, f.sz ≤ n → ∀ (B : Nat → Prop) (w : World) (c0 c1 c2 c3 c4 : Value), FormAt B w f c0 c1 c2 c3 c4 → (∀ b, B b → b < w.heap.size) → f.cost ≤ 1048576 →
  Calls Tryz.prog 32 #[.agg #[c0, c1, c2, c3, c4]] w fun e w' => ∃ d0 d1 d2 d3 d4, e = .returned (.agg #[d0, d1, d2, d3, d4]) ∧ FormAt (Fresh w w') w' f d0 d1 d2 d3 d4 ∧ Copied w w' f d2 d4 ∧ Below w.heap.size w w'
def CopyForms (n : Nat) : Prop := ∀ ks : List Fm, Fm.szs ks ≤ n → ∀ (B : Nat → Prop) (w : World) (v : Value), FormsAt B w v ks → (∀ b, B b → b < w.heap.size) → ks.length + Fm.costs ks ≤ 1048576 →
  Calls Tryz.prog 45 #[v] w fun e w' => ∃ u S, e = .returned u ∧ Kids S w' w.heap.size u ks ∧ Below w.heap.size w w'

set_option maxRecDepth 20000 in
set_option maxHeartbeats 2000000 in
theorem copies_of (n : Nat) (ih : CopyForm n) : CopyForms n := by
  intro ks hks B w v hv hB hc
  have HI := hid ih
  have HR := hid hB
  obtain ⟨a, ca, rfl, hla, ha⟩ := hv
  unfold maxLen at hla
  clear ih hB
  obtain ⟨i0, hi, hz0, hz1, hz2⟩ := info_parts Tryz.infoFormE
  have Hi := hid hi
  have Hz0 := hid hz0
  have Hz1 := hid hz1
  have Hz2 := hid hz2
  clear hi hz0 hz1 hz2
  go_enter Tryz.func45, Tryz.ntmps45
  go_wp2_with fail
  go_loopw [3, 4] (fun v i wr => ∃ k : Nat, k ≤ ks.length ∧ i = .int .i64 k ∧ Hid (∃ S, Kids S wr w.heap.size v (ks.take k)) ∧ Hid (Below w.heap.size w wr)) (fun _ i _ => ks.length - (intOf i).toNat)
  case atStart =>
    refine ⟨0, Nat.zero_le _, rfl, ⟨fun _ => False, ⟨[], World.ownsRow_made w #[] 0 (Nat.le_refl _) (Nat.zero_le _) (by simp), fun i hi => absurd hi (by simp)⟩, fun _ _ h => h, fun _ h => h.elim⟩, (Below.refl _ _).alloc (Nat.le_refl _) _⟩
  case round =>
    obtain ⟨k, hk, rfl, HK, HW⟩ := hrel
    obtain ⟨S, hK⟩ := HK.out
    have HK := hid hK
    clear hK
    have hsz := HW.out.size
    by_cases hlt : k < ks.length
    · rcases ha with ha | ⟨ba, oa, rfl, hb, ha⟩
      · subst ha; simp at hlt
      obtain ⟨c0, c1, c2, c3, c4, g0, g1, g2, g3, g4, hf⟩ := RowAt.get ks (RowAt.keep (HW.out.on HR.out) hb ks ha) k hlt
      have HC := hid (HI.out ks[k] (Nat.le_trans (Fm.szs_get ks k hlt) hks) B wr c0 c1 c2 c3 c4 hf (fun b hb => by have := HR.out b hb; omega) (by have := Fm.costs_get ks k hlt; omega))
      obtain ⟨rfl, rfl, -, h2, rfl, h4⟩ := (formAt_iff _ _ _ _ _ _ _ _).1 hf
      obtain ⟨a2, k2, rfl, -⟩ := h2
      obtain ⟨a4, k4, rfl, -⟩ := h4
      have HN := hid (List.take_succ_eq_append_getElem hlt)
      have hbb : ba < wr.heap.size := by have := HR.out ba hb; omega
      clear ha hf
      go_wp2_with fail
      refine HC.out.mono ?_
      rintro e w1 ⟨d0, d1, d2, d3, d4, rfl, hd, -, hw1⟩
      have HD := hid hd
      have hs1 := hw1.size
      have HK1 := hid ((HK.out.below hw1).more (S' := Reg S wr w1) (fun i hi => Or.inl hi) (fun i hi => by
        rcases hi with hi | hi
        · have := HK.out.low i hi; omega
        · omega) (fun g e hS => by
        rcases hS with hS | hS
        · exact HK.out.off g e hS
        · have := (HK.out.lt e).2; omega))
      have HB1 := hid (HW.out.trans (hw1.mono hsz))
      have HF1 := hid (FormAt.mono (B' := Reg S wr w1) (fun i hi => Or.inr hi) _ hd)
      obtain ⟨rfl, rfl, -, h2, rfl, h4⟩ := (formAt_iff _ _ _ _ _ _ _ _).1 hd
      obtain ⟨x2, y2, rfl, -⟩ := h2
      obtain ⟨x4, y4, rfl, -⟩ := h4
      obtain ⟨cs, r1, r2⟩ := HK1.out.row
      rw [List.length_take, Nat.min_eq_left hk] at r1
      have R1 := hid r1
      have R2 := hid r2
      clear hd hw1 r1 r2 HC
      go_wp2_with (at_builtin; refine wpList_append_own_at _ rfl _ _ 27 rfl w.heap.size 29 i0 _ 5 80 Tryz.underlying27 Hi.out Hz0.out Hz1.out Hz2.out rfl (by decide) _ k cs rfl (R1.out.alloc _) ⟨w1.heap.size, 0, none⟩ 1 1 [.int .i64 ks[k].sort, .string ks[k].text, .slice x2 ks[k].scopes.length y2, .int .i64 ks[k].frm, .slice x4 ks[k].kids.length y4] rfl rfl (World.news_of_block (cs := #[.int .i64 ks[k].sort, .string ks[k].text, .slice x2 ks[k].scopes.length y2, .int .i64 ks[k].frm, .slice x4 ks[k].kids.length y4]) (heap_alloc_new _ _)) (by simp [Value.oneCell']) (by unfold maxLen; omega) (by omega) (by simp; omega) ?_; intro v' w2 hown' hg hnil hb')
      have hall := (World.grownBy_alloc w1 _ _).trans hg
      refine ⟨⟨k + 1, by omega, by go_num, ⟨Reg S wr w1, ?_⟩, ?_⟩, by simp [intOf]; omega⟩
      · rw [HN.out]
        refine HK1.out.snoc (by rw [List.length_take, Nat.min_eq_left hk]; exact R1.out) R2.out HF1.out hall (by rw [List.length_take, Nat.min_eq_left hk]; exact hown') ?_
        rcases hb' with h | h
        · exact Or.inl h
        · exact Or.inr ⟨_, h, by simp⟩
      · refine HB1.out.trans ⟨hall.os, hall.tape, hall.output, hall.size, fun i hi => hall.block i (by omega) fun e => ?_⟩
        have := (R1.out.lt i e.symm).1
        omega
    · have hkk : k = ks.length := by omega
      go_wp2_with fail
      go_ret
      rw [hkk, List.take_length] at HK
      exact ⟨_, S, rfl, HK.out, HW.out⟩

set_option maxRecDepth 20000 in
set_option maxHeartbeats 2000000 in
theorem copy_of (n : Nat) (ih : CopyForms n) : CopyForm (n + 1) := by
  intro f hfz B w c0 c1 c2 c3 c4 hA hB hc
  have HI := hid ih
  have HR := hid hB
  have HCo := hid (Fm.cost_eq f)
  have HSz := hid (Fm.sz_kids f)
  obtain ⟨rfl, rfl, ht, h2, rfl, h4⟩ := (formAt_iff _ _ _ _ _ _ _ _).1 hA
  have H2 := hid h2
  have H4 := hid h4
  obtain ⟨a2, k2, rfl, -⟩ := h2
  obtain ⟨a4, k4, rfl, -⟩ := h4
  clear ih hB hA
  obtain ⟨i0, hi, hz0, hz1, hz2⟩ := info_parts Tryz.infoIntE
  have Hi := hid hi
  have Hz0 := hid hz0
  have Hz1 := hid hz1
  have Hz2 := hid hz2
  clear hi hz0 hz1 hz2
  obtain ⟨W, hW⟩ : ∃ W, W = ((w.alloc (.cells #[.int .i64 f.sort, .string f.text, .slice a2 f.scopes.length k2, .int .i64 f.frm, .slice a4 f.kids.length k4] 29)).alloc (.cells #[.int .i64 0, .string ⟨#[]⟩, .slice none 0 0, .int .i64 0, .slice none 0 0] 29)).alloc (.cells #[.int .i64 f.sort, .string f.text, .slice a2 f.scopes.length k2, .int .i64 f.frm, .slice a4 f.kids.length k4] 29) := ⟨_, rfl⟩
  have hWs : W.heap.size = w.heap.size + 3 := by rw [hW]; simp
  have O0 : Hid (Own W w.heap.size 29 #[.int .i64 f.sort, .string f.text, .slice a2 f.scopes.length k2, .int .i64 f.frm, .slice a4 f.kids.length k4]) := by
    show Own _ _ _ _
    rw [hW]; exact ((own_new _ _ _).more (by simp) _).more (by simp; omega) _
  have O1 : Hid (Own W (w.heap.size + 1) 29 #[.int .i64 0, .string ⟨#[]⟩, .slice none 0 0, .int .i64 0, .slice none 0 0]) := by
    show Own _ _ _ _
    have h := own_new (w.alloc (.cells #[.int .i64 f.sort, .string f.text, .slice a2 f.scopes.length k2, .int .i64 f.frm, .slice a4 f.kids.length k4] 29)) #[.int .i64 0, .string ⟨#[]⟩, .slice none 0 0, .int .i64 0, .slice none 0 0] 29
    rw [World.size_alloc] at h
    rw [hW]; exact h.more (by simp) _
  have O2 : Hid (Own W (w.heap.size + 2) 29 #[.int .i64 f.sort, .string f.text, .slice a2 f.scopes.length k2, .int .i64 f.frm, .slice a4 f.kids.length k4]) := by
    show Own _ _ _ _
    have h := own_new ((w.alloc (.cells #[.int .i64 f.sort, .string f.text, .slice a2 f.scopes.length k2, .int .i64 f.frm, .slice a4 f.kids.length k4] 29)).alloc (.cells #[.int .i64 0, .string ⟨#[]⟩, .slice none 0 0, .int .i64 0, .slice none 0 0] 29)) #[.int .i64 f.sort, .string f.text, .slice a2 f.scopes.length k2, .int .i64 f.frm, .slice a4 f.kids.length k4] 29
    rw [World.size_alloc, World.size_alloc] at h
    rw [hW]; exact h
  have HWB : Hid (Below w.heap.size w W) := by
    show Below _ _ _
    rw [hW]; exact (((Below.refl _ _).alloc (Nat.le_refl _) _).alloc (by simp) _).alloc (by simp; omega) _
  have HO3 : Hid ((W.alloc (.cells #[] 3)).ownsRow (w.heap.size + 3) 3 1 (.slice (some ⟨w.heap.size + 1 + 1 + 1, 0, none⟩) 0 0) 0 (([] : List Int).map (Value.int .i64))) := by
    show World.ownsRow _ _ _ _ _ _ _
    have h := World.ownsRow_made (base := w.heap.size + 3) (e := 3) (size := 1) W #[] 0 (by omega) (Nat.zero_le _) (by simp)
    rw [hWs] at h
    exact h
  have HU := hid (H2.out.keep ((HWB.out.on HR.out).alloc (fun b hb => by have := HR.out b hb; omega) (.cells #[] 3)))
  go_enter Tryz.func32, Tryz.ntmps32
  go_wp2_with (at_builtin; rw [← hW]; refine wpList_append_ints _ rfl _ _ rfl (w.heap.size + 3) i0 Hi.out Hz0.out Hz1.out Hz2.out (w.heap.size + 1 + 1 + 1) 0 0 [] rfl HO3.out B _ f.scopes rfl HU.out (by have := HCo.out; omega) (by simp; omega) ?_; intro g c w1 ho hg hbg; have P0 := hid ((O0.out.more (by omega) _).far hg (by simp; omega)); have P1 := hid ((O1.out.more (by omega) _).far hg (by simp)); have P2 := hid ((O2.out.more (by omega) _).far hg (by simp)); have p4 := P0.out.cell 4; have p2 := P2.out.cell 2; have z2 := P2.out.frozen 2; simp at p4 p2 z2)
  have hgs := grown_set w1 (w.heap.size + 1 + 1) 2 (.slice (some ⟨g, 0, none⟩) f.scopes.length c)
  have hs1 := hg.size
  simp only [World.size_alloc] at hs1
  have hB1 : Below w.heap.size w (w1.setCell ⟨w.heap.size + 1 + 1, 2, none⟩ (.slice (some ⟨g, 0, none⟩) f.scopes.length c)) := by
    refine (HWB.out.trans (((Below.refl w.heap.size W).alloc (by omega) (.cells #[] 3)).trans ⟨hg.os, hg.tape, hg.output, hg.size, fun i hi => hg.block i (by simp; omega) (by simp; omega)⟩)).setCell (by simp; omega) _
  have HB1 := hid hB1
  have R0 := hid (P0.out.far hgs (by simp; omega))
  have R1 := hid (P1.out.far hgs (by simp))
  have R2 := P2.out.set 2 (.slice (some ⟨g, 0, none⟩) f.scopes.length c)
  simp at R2
  have R2 := hid R2
  have hgw : g < w1.heap.size := (ho.lt g rfl).2
  have HO := hid (ho.kept hgs (Or.inr fun e => by simp [Value.ownBlock] at e; omega))
  rw [Nat.zero_add] at HO
  have HQ := hid (HI.out f.kids (by have := HSz.out; omega) B (w1.setCell ⟨w.heap.size + 1 + 1, 2, none⟩ (.slice (some ⟨g, 0, none⟩) f.scopes.length c)) (.slice a4 f.kids.length k4) (H4.out.keep (hB1.on HR.out)) (fun b hb => by have := HR.out b hb; simp; omega) (by have := HCo.out; omega))
  have hsW : (w1.setCell ⟨w.heap.size + 1 + 1, 2, none⟩ (.slice (some ⟨g, 0, none⟩) f.scopes.length c)).heap.size = w1.heap.size := by simp
  clear ho hg hgs hB1 P0 P1 P2 p4 p2 z2
  generalize w1.setCell ⟨w.heap.size + 1 + 1, 2, none⟩ (.slice (some ⟨g, 0, none⟩) f.scopes.length c) = w2 at *
  refine HQ.out.mono ?_
  rintro e w3 ⟨u, S, rfl, hu, hw3⟩
  have hs3 := hw3.size
  have HU3 := hid hu
  obtain ⟨ua, uc, rfl⟩ := hu.shape
  clear hu
  have T1 := hid (R1.out.keep hw3 (by omega))
  have T2 := hid (R2.out.keep hw3 (by omega))
  have HO3 := hid (HO.out.kept (row := none) ⟨hw3.os, hw3.tape, hw3.output, hw3.size, fun i hi _ => hw3.block i hi⟩ (by simp [Value.ownBlock]))
  have HB3 := hid (HB1.out.trans (hw3.mono (by omega)))
  have a0 := T2.out.cell 0
  have a1 := T2.out.cell 1
  have a2' := T2.out.cell 2
  have a3 := T2.out.cell 3
  have a4' := T2.out.cell 4
  have z4 := T2.out.frozen 4
  have b0 := T1.out.cell 0
  have b1 := T1.out.cell 1
  have b2 := T1.out.cell 2
  have b3 := T1.out.cell 3
  have b4 := T1.out.cell 4
  have y0 := T1.out.frozen 0
  have y1 := T1.out.frozen 1
  have y2 := T1.out.frozen 2
  have y3 := T1.out.frozen 3
  have y4 := T1.out.frozen 4
  simp at a0 a1 a2' a3 a4' b0 b1 b2 b3 b4
  clear hw3 HQ
  go_wp2_with fail
  refine bodyPost_ret (v := .agg #[.int .i64 f.sort, .string f.text, .slice (some ⟨g, 0, none⟩) f.scopes.length c, .int .i64 f.frm, .slice ua f.kids.length uc]) (by simp [results, Tryz.results32, go_sem, b0, b1, b2, b3, b4]) rfl ?_
  have hg5 := wr5_grown (w3.setCell ⟨w.heap.size + 1 + 1, 4, none⟩ (.slice ua f.kids.length uc)) (w.heap.size + 1) (.int .i64 f.sort) (.string f.text) (.slice (some ⟨g, 0, none⟩) f.scopes.length c) (.int .i64 f.frm) (.slice ua f.kids.length uc)
  have hg4 := grown_set w3 (w.heap.size + 1 + 1) 4 (.slice ua f.kids.length uc)
  have hz5 : (wr5 (w3.setCell ⟨w.heap.size + 1 + 1, 4, none⟩ (.slice ua f.kids.length uc)) (w.heap.size + 1) (.int .i64 f.sort) (.string f.text) (.slice (some ⟨g, 0, none⟩) f.scopes.length c) (.int .i64 f.frm) (.slice ua f.kids.length uc)).heap.size = w3.heap.size := by rw [wr5_size]; simp
  have hO5 := (HO3.out.kept hg4 (Or.inr fun e => by simp [Value.ownBlock] at e; omega)).kept hg5 (Or.inr fun e => by simp [Value.ownBlock] at e; omega)
  have hb4 : ∀ i, (Value.slice ua f.kids.length uc).ownBlock = some i → w2.heap.size ≤ i := fun i e => (HU3.out.lt e).1
  have hK5 := (HU3.out.keep hg4 (fun i e hS => by cases e; have := (HU3.out.low _ hS).1; omega) (by cases hu : (Value.slice ua f.kids.length uc).ownBlock with | none => exact Or.inl rfl | some i => exact Or.inr fun e => by have := hb4 i hu; simp at e; omega)).keep hg5 (fun i e hS => by cases e; have := (HU3.out.low _ hS).1; omega) (by cases hu : (Value.slice ua f.kids.length uc).ownBlock with | none => exact Or.inl rfl | some i => exact Or.inr fun e => by have := hb4 i hu; simp at e; omega)
  have hO6 : (wr5 (w3.setCell ⟨w.heap.size + 1 + 1, 4, none⟩ (.slice ua f.kids.length uc)) (w.heap.size + 1) (.int .i64 f.sort) (.string f.text) (.slice (some ⟨g, 0, none⟩) f.scopes.length c) (.int .i64 f.frm) (.slice ua f.kids.length uc)).ownsRow w.heap.size 3 1 (.slice (some ⟨g, 0, none⟩) f.scopes.length c) f.scopes.length (f.scopes.map (Value.int .i64)) := by
    refine ⟨hO5.1, ?_⟩
    rcases hO5.2 with h | ⟨g', cap', cur', h1, h2, h3⟩
    · exact Or.inl h
    · exact Or.inr ⟨g', cap', cur', h1, by omega, h3⟩
  refine ⟨_, _, _, _, _, rfl, (formAt_iff _ _ _ _ _ _ _ _).2 ⟨rfl, rfl, ht, ?_, rfl, ?_⟩, ⟨g, c, w2.heap.size, S, rfl, hO6, by omega, by omega, by show _ ≤ (wr5 _ _ _ _ _ _ _).heap.size; rw [hz5]; omega, hK5⟩, ?_⟩
  · exact row_ints hO5 (show f.scopes.length ≤ maxLen by unfold maxLen; have := HCo.out; omega) fun i h1 h2 => ⟨by omega, h2⟩
  · exact hK5.forms (by unfold maxLen; have := HCo.out; omega) fun i h1 h2 => ⟨by omega, h2⟩
  · exact HB3.out.trans (((⟨hg4.os, hg4.tape, hg4.output, hg4.size, fun i hi => hg4.block i (by omega) (by simp; omega)⟩ : Below w.heap.size w3 _)).trans ⟨hg5.os, hg5.tape, hg5.output, hg5.size, fun i hi => hg5.block i (by simp; omega) (by simp; omega)⟩)

theorem copy_all : ∀ n, CopyForm n ∧ CopyForms n
  | 0 => by
    have h : CopyForm 0 := fun f hf => by have := Fm.sz_kids f; omega
    exact ⟨h, copies_of 0 h⟩
  | n + 1 => by
    have h := copy_of n (copy_all n).2
    exact ⟨h, copies_of (n + 1) h⟩
theorem l1Copy_any (f : Fm) (B : Nat → Prop) (w : World) (c0 c1 c2 c3 c4 : Value) (h : FormAt B w f c0 c1 c2 c3 c4) (hB : ∀ b, B b → b < w.heap.size) (hc : f.cost ≤ 1048576) :
    Calls Tryz.prog 32 #[.agg #[c0, c1, c2, c3, c4]] w fun e w' => ∃ d0 d1 d2 d3 d4, e = .returned (.agg #[d0, d1, d2, d3, d4]) ∧ FormAt (Fresh w w') w' f d0 d1 d2 d3 d4 ∧ Copied w w' f d2 d4 ∧ Below w.heap.size w w' :=
  (copy_all f.sz).1 f (Nat.le_refl _) B w c0 c1 c2 c3 c4 h hB hc

end Go.Proofs.YtghgilkdmdppcaaGreat

namespace Go.Proofs.YtghgilkdmdppcaaGreat
open Go.RowKit Go.Siskin

def lessB (n : Int) (xs : List Int) : List Int := xs.filter fun x => x != n
theorem less_yes {xs : List Int} {n : Int} {k : Nat} (h : k < xs.length) (hx : (xs[k] != n) = true) : lessB n (xs.take (k + 1)) = lessB n (xs.take k) ++ [xs[k]] := by
  unfold lessB
  rw [List.take_succ_eq_append_getElem h, List.filter_append]; simp at hx; simp [hx]
theorem less_no {xs : List Int} {n : Int} {k : Nat} (h : k < xs.length) (hx : (xs[k] != n) = false) : lessB n (xs.take (k + 1)) = lessB n (xs.take k) := by
  unfold lessB
  rw [List.take_succ_eq_append_getElem h, List.filter_append]; simp at hx; simp [hx]
theorem less_le (n : Int) (xs : List Int) : (lessB n xs).length ≤ xs.length := List.length_filter_le _ _

set_option maxRecDepth 20000 in
set_option maxHeartbeats 1000000 in
theorem l2Take_any (B : Nat → Prop) (va : Value) (xs : List Int) (n : Int) (w : World) (ha : IntsAt B w va xs) (hB : ∀ b, B b → b < w.heap.size) (hn : xs.length ≤ 1048576) :
    Calls Tryz.prog 39 #[va, .int .i64 n] w fun e w' => ∃ u, e = .returned u ∧ IntsAt (Fresh w w') w' u (lessB n xs) ∧ Below w.heap.size w w' := by
  obtain ⟨a, ca, rfl, hla, ha⟩ := ha
  unfold maxLen at hla
  have HR := hid hB
  clear hB
  obtain ⟨i0, hi, hz0, hz1, hz2⟩ := info_parts Tryz.infoIntE
  have Hi := hid hi
  have Hz0 := hid hz0
  have Hz1 := hid hz1
  have Hz2 := hid hz2
  clear hi hz0 hz1 hz2
  go_enter Tryz.func39, Tryz.ntmps39
  go_wp2_with fail
  go_loopw [5, 6] (fun o i wr => ∃ k : Nat, k ≤ xs.length ∧ i = .int .i64 k ∧ ∃ (ys : List Int) (ua : Option Addr) (uc : Nat), o = .slice ua ys.length uc ∧ Hid (ys = lessB n (xs.take k)) ∧ ys.length ≤ k ∧ Hid (wr.ownsRow w.heap.size 3 1 (.slice ua ys.length uc) ys.length (ys.map (Value.int .i64))) ∧ Hid (Below w.heap.size w wr)) (fun _ i _ => xs.length - (intOf i).toNat)
  case atStart => exact ⟨0, Nat.zero_le _, rfl, [], _, 0, rfl, rfl, Nat.le_refl _, World.ownsRow_made w #[] 0 (Nat.le_refl _) (Nat.zero_le _) (by simp), (Below.refl _ _).alloc (Nat.le_refl _) _⟩
  case round =>
    obtain ⟨k, hk, rfl, ys, ua, uc, rfl, HY, hyl, HU, HB⟩ := hrel
    have hsz := HB.out.size
    by_cases hlt : k < xs.length
    · rcases ha with ha | ⟨ba, oa, rfl, hba, ha⟩
      · subst ha; simp at hlt
      have hbl := HR.out ba hba
      have ga : wr.cell? ⟨ba, oa + k, none⟩ = some (.int .i64 xs[k]) := (HB.out.cell (p := ⟨ba, oa + k, none⟩) hbl).trans (by rw [ha k hlt, List.getD_eq_getElem?_getD, List.getElem?_eq_getElem hlt]; rfl)
      clear ha
      cases hx : (xs[k] != n) with
      | true =>
        have HN := hid (less_yes hlt hx)
        have hx2 : (xs[k] == n) = false := by simpa using hx
        clear hx
        go_wp2_with (at_builtin; refine wpList_append_lies _ rfl _ _ _ rfl w.heap.size 3 i0 (.int .i64 0) 1 8 Tryz.underlying22 Hi.out Hz0.out Hz1.out Hz2.out rfl (by decide) _ ys.length (ys.map (Value.int .i64)) rfl (HU.out.alloc _) ⟨wr.heap.size, 0, none⟩ 1 1 [.int .i64 xs[k]] rfl rfl (cell_one_new _ _ _) (by simp [Value.oneCell']) (by omega) (by unfold maxLen; omega) (by omega) (by simp; omega) (wr.heap.size + 1) (by simp) ?_; intro gg cc w4 hown' hg hat hgl; have hall := (World.grownBy_alloc wr _ _).trans hg)
        have hlow : ∀ g, (Value.slice ua ys.length uc).ownBlock = some g → w.heap.size ≤ g := fun g e => (HU.out.lt g e).1
        refine ⟨⟨k + 1, by omega, by go_num, ys ++ [xs[k]], some ⟨gg, 0, none⟩, cc, by simp, ?_, by simp; omega, ?_, HB.out.grown hall hsz hlow⟩, by simp [intOf]; omega⟩
        · show _ = _
          rw [HN.out, ← HY.out]
        · show World.ownsRow _ _ _ _ _ _ _
          simpa using hown'
      | false =>
        have HN := hid (less_no hlt hx)
        have hx2 : (xs[k] == n) = true := by simpa using hx
        clear hx
        go_wp2_with fail
        exact ⟨⟨k + 1, by omega, by go_num, ys, ua, uc, rfl, by show _ = _; rw [HN.out]; exact HY.out, by omega, HU, HB⟩, by simp [intOf]; omega⟩
    · obtain rfl : k = xs.length := by omega
      rw [List.take_length] at HY
      have HE := hid (row_ints (B := Fresh w wr) HU.out (by unfold maxLen; omega) fun g h1 h2 => ⟨h1, h2⟩)
      go_wp2_with fail
      go_ret
      exact ⟨_, rfl, by rw [← HY.out]; exact HE.out, HB.out⟩

end Go.Proofs.YtghgilkdmdppcaaGreat

namespace Go.Proofs.YtghgilkdmdppcaaGreat
open Go.RowKit Go.Siskin

/-- Where a number goes among ascending ones. -/
def cutB (n : Int) (xs : List Int) : Nat := (xs.takeWhile fun x => decide (x < n)).length
theorem cut_eq {n : Int} : ∀ {xs : List Int} {k : Nat}, k ≤ xs.length → (∀ j (hj : j < xs.length), j < k → xs[j] < n) → (∀ hk : k < xs.length, ¬ xs[k] < n) → k = cutB n xs
  | [], k, h, _, _ => by simp at h; subst h; rfl
  | x :: r, 0, _, _, h => by
    have : ¬ x < n := h (by simp)
    unfold cutB
    rw [List.takeWhile_cons_of_neg (by simpa using this)]; rfl
  | x :: r, k + 1, hl, h1, h2 => by
    have hx : x < n := h1 0 (by simp) (by omega)
    unfold cutB
    rw [List.takeWhile_cons_of_pos (by simpa using hx), List.length_cons]
    have := cut_eq (n := n) (xs := r) (k := k) (by simpa using hl) (fun j hj hjk => by have := h1 (j + 1) (by simpa using hj) (by omega); simpa using this) (fun hk => by have := h2 (by simpa using hk); simpa using this)
    unfold cutB at this
    omega

theorem ints_take {B : Nat → Prop} {w : World} {a : Option Addr} {c : Nat} {xs : List Int} (h : IntsAt B w (.slice a xs.length c) xs) {k : Nat} (hk : k ≤ xs.length) (c' : Nat) (hc : k ≤ c') : IntsAt B w (.slice a k c') (xs.take k) := by
  obtain ⟨a', c0, e, hl, h⟩ := h
  cases e
  refine ⟨a, c', by rw [List.length_take, Nat.min_eq_left hk], by rw [List.length_take]; omega, ?_⟩
  rcases h with h | ⟨b, o, e, hb, h⟩
  · exact Or.inl (by rw [h]; simp)
  · refine Or.inr ⟨b, o, e, hb, fun i hi => ?_⟩
    rw [List.length_take] at hi
    rw [h i (by omega), List.getD_eq_getElem?_getD, List.getD_eq_getElem?_getD, List.getElem?_take_of_lt (by omega)]

theorem ints_drop {B : Nat → Prop} {w : World} {b o c : Nat} {xs : List Int} (hb : B b) (hl : xs.length ≤ maxLen) (h : ∀ i, i < xs.length → w.cell? ⟨b, o + i, none⟩ = some (.int .i64 (xs.getD i 0))) {k : Nat} (hk : k ≤ xs.length) (hc : xs.length - k ≤ c) : IntsAt B w (.slice (some ⟨b, o + k, none⟩) (xs.length - k) c) (xs.drop k) := by
  refine ⟨_, c, by rw [List.length_drop], by rw [List.length_drop]; omega, Or.inr ⟨b, o + k, rfl, hb, fun i hi => ?_⟩⟩
  rw [List.length_drop] at hi
  rw [Nat.add_assoc, h (k + i) (by omega), List.getD_eq_getElem?_getD, List.getD_eq_getElem?_getD, List.getElem?_drop]

end Go.Proofs.YtghgilkdmdppcaaGreat
