/-
  The program's ways to hold texts against each other, standForSame, newAlpha. Condition: the alpha lies in memory as AlphaAt says.
-/
import Derived.Test.YtghgilkdmdppcaaR4
import Derived.Laws.EntriesVeiled
import Derived.BigQuiet
namespace Go.Proofs.Ytghgilkdmdppcaa
open Go.RowKit Go.Siskin

set_option maxRecDepth 20000 in
theorem areSameText_any (r : Value) (x y : ByteArray) (w : World) :
    Calls Try.prog 24 #[r, .string x, .string y] w fun e w' => e = .returned (.bool (eqT x y)) ∧ w' = w := by
  unfold eqT
  go_enter Try.func24, Try.ntmps24
  go_wp2_with fail
  go_ret
  exact ⟨rfl, rfl⟩

theorem stand_cases (A : Bool → ByteArray → List Int) (x y : ByteArray) : standB A x y = if ((lastV (A true x)).2 || (lastV (A false y)).2) = true then ((lastV (A true x)).2 && (lastV (A false y)).2 && decide ((lastV (A true x)).1 = (lastV (A false y)).1)) else eqT x y := by
  unfold standB lastV
  cases (A true x).getLast? <;> cases (A false y).getLast? <;> simp

set_option maxRecDepth 20000 in
set_option maxHeartbeats 1000000 in
theorem standForSame_any (w : World) (F : Nat → Prop) (base b : Nat) (m : Bool → Nat) (n : Nat) (p : Int) (A : Bool → ByteArray → List Int) (G : Bool → ByteArray → Option Value) (h : AlphaAt w F base b m n p A G) (x y : ByteArray) (hx : x.size ≤ maxLen) (hy : y.size ≤ maxLen) :
    Calls Try.prog 25 #[pa b, .string x, .string y] w fun e w' => e = .returned (.bool (standB A x y)) ∧ w' = w := by
  have H1 := hid (last_any h.pn true x hx)
  have H2 := hid (last_any h.pn false y hy)
  obtain ⟨c1, c2, -⟩ := h.cells
  have HS := hid (stand_cases A x y)
  clear h
  generalize standB A x y = s at *
  generalize lastV (A true x) = l1 at *
  generalize lastV (A false y) = l2 at *
  obtain ⟨n1, b1⟩ := l1
  obtain ⟨n2, b2⟩ := l2
  unfold eqT at HS
  cases b1 <;> cases b2
  all_goals
    simp [-decide_eq_true_eq] at HS
    go_enter Try.func25, Try.ntmps25
    go_wp2_with fail
    refine H1.out.mono ?_
    rintro e w1 ⟨rfl, hw1⟩
    rw [hw1]
    clear hw1 w1
    go_wp2_with fail
    refine H2.out.mono ?_
    rintro e w1 ⟨rfl, hw1⟩
    rw [hw1]
    clear hw1 w1
    go_wp2_with fail
    go_ret
    rw [HS.out]
    exact ⟨rfl, rfl⟩

/-- Which way texts of a sort are held against each other. -/
def fnA (s : Int) : FuncId := if s = 2 ∨ s = 6 ∨ s = 9 then 25 else 24

set_option maxRecDepth 20000 in
set_option maxHeartbeats 1000000 in
theorem ofA_any (w : World) (F : Nat → Prop) (base b : Nat) (m : Bool → Nat) (n : Nat) (p : Int) (A : Bool → ByteArray → List Int) (G : Bool → ByteArray → Option Value) (h : AlphaAt w F base b m n p A G) (s : Int) :
    Calls Try.prog 26 #[.pointer (some ⟨b, 0, none⟩), .int .i64 s] w fun e w' => e = .returned (.func (.func (fnA s)) #[pa b] #[]) ∧ w' = w := by
  have hbk := h.own
  have d0 : w.cell? ⟨b, 0, none⟩ = some (fE b) := (hbk.cell 0).trans rfl
  have d1 : w.cell? ⟨b, 1, none⟩ = some (fE b) := (hbk.cell 1).trans rfl
  have d2 : w.cell? ⟨b, 2, none⟩ = some (fS b) := (hbk.cell 2).trans rfl
  have d3 : w.cell? ⟨b, 3, none⟩ = some (fE b) := (hbk.cell 3).trans rfl
  have d4 : w.cell? ⟨b, 4, none⟩ = some (fE b) := (hbk.cell 4).trans rfl
  have d5 : w.cell? ⟨b, 5, none⟩ = some (fE b) := (hbk.cell 5).trans rfl
  have d6 : w.cell? ⟨b, 6, none⟩ = some (fS b) := (hbk.cell 6).trans rfl
  have d7 : w.cell? ⟨b, 7, none⟩ = some (fE b) := (hbk.cell 7).trans rfl
  have d8 : w.cell? ⟨b, 8, none⟩ = some (fE b) := (hbk.cell 8).trans rfl
  have d9 : w.cell? ⟨b, 9, none⟩ = some (fS b) := (hbk.cell 9).trans rfl
  clear h hbk
  by_cases h1 : s < 1
  · have HX : Hid (fnA s = 24) := by
      show fnA s = _
      unfold fnA
      rw [if_neg (by omega)]
    rw [HX.out]
    go_enter Try.func26, Try.ntmps26
    go_wp2_with fail
    go_ret
    exact ⟨rfl, rfl⟩
  by_cases h9 : 9 < s
  · have HX : Hid (fnA s = 24) := by
      show fnA s = _
      unfold fnA
      rw [if_neg (by omega)]
    rw [HX.out]
    go_enter Try.func26, Try.ntmps26
    go_wp2_with fail
    go_ret
    exact ⟨rfl, rfl⟩
  have hs : s = 1 ∨ s = 2 ∨ s = 3 ∨ s = 4 ∨ s = 5 ∨ s = 6 ∨ s = 7 ∨ s = 8 ∨ s = 9 := by omega
  clear h1 h9
  rcases hs with rfl | rfl | rfl | rfl | rfl | rfl | rfl | rfl | rfl
  all_goals
    go_enter Try.func26, Try.ntmps26
    go_wp2_with fail
    go_ret
    exact ⟨rfl, rfl⟩
end Go.Proofs.Ytghgilkdmdppcaa
