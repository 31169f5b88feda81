/-
  The law's szExpForm and szExpFormS take from a number what a form costs. Condition: the form lies in memory as FormAt says.
-/
import Derived.Test.YtghgilkdmdppcaaM1
namespace Go.Proofs.Ytghgilkdmdppcaa
open Go.RowKit Go.Siskin

theorem szI_two (a b : Nat) (l : Int) : szI (a + b) l = if szI a l < 0 then -1 else szI b (szI a l) := by
  unfold szI
  by_cases h1 : l - a < 0
  · rw [if_pos h1, if_pos (by omega), if_pos (by omega)]
  · rw [if_neg h1, if_neg h1]
    by_cases h2 : l - a - b < 0
    · rw [if_pos h2, if_pos (by omega)]
    · rw [if_neg h2, if_neg (by omega)]; omega
theorem szI_ge (a : Nat) (l : Int) : -1 ≤ szI a l ∧ (0 ≤ l → szI a l ≤ l) := by
  unfold szI
  by_cases h1 : l - a < 0
  · rw [if_pos h1]; omega
  · rw [if_neg h1]; omega

theorem szI_neg (a : Nat) (l : Int) : szI a l < 0 ↔ l - a < 0 := by
  unfold szI
  by_cases h1 : l - a < 0
  · rw [if_pos h1]; omega
  · rw [if_neg h1]
theorem szI_minus (a : Nat) (l : Int) : szI a l = -1 ↔ l - a < 0 := by
  unfold szI
  by_cases h1 : l - a < 0
  · rw [if_pos h1]; omega
  · rw [if_neg h1]; omega
theorem szI_pos (a : Nat) (l : Int) (h : ¬ szI a l < 0) : szI a l = l - a := by
  unfold szI at h ⊢
  by_cases h1 : l - a < 0
  · rw [if_pos h1] at h; omega
  · rw [if_neg h1]

end Go.Proofs.Ytghgilkdmdppcaa
