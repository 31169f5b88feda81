/-
  The model's l1ScopesOk and the program's isAscending and areScopes return whether scopes are ascending, none below 0. Condition: the slice lies in memory as IntsAt says.
-/
import Derived.Test.YtghgilkdmdppcaaI1
namespace Go.Proofs.Ytghgilkdmdppcaa
open Go.RowKit Go.Siskin

theorem scopes_no {xs : List Int} (h : ¬ (AscTo xs xs.length ∧ NonTo xs xs.length)) : false = scopesB xs := by
  rw [eq_comm, Bool.eq_false_iff]; intro e; exact h ((scopes_iff xs).1 e)
theorem asc_no {xs : List Int} (h : ¬ AscTo xs xs.length) : false = ascB xs := by
  rw [eq_comm, Bool.eq_false_iff]; intro e; exact h ((asc_iff xs).1 e)
theorem getD_get {xs : List Int} {k : Nat} (h : k < xs.length) : xs.getD k 0 = xs[k] := by simp [List.getD_eq_getElem?_getD, h]

theorem asc_step {xs : List Int} {k : Nat} (h : AscTo xs k) (hk : k = 0 ∨ xs.getD (k - 1) 0 < xs.getD k 0) : AscTo xs (k + 1) := by
  intro i hi
  by_cases e : i + 1 < k
  · exact h i e
  · have : i + 1 = k := by omega
    subst this
    rcases hk with hk | hk
    · omega
    · simpa using hk
theorem non_step {xs : List Int} {k : Nat} (h : NonTo xs k) (hk : 0 ≤ xs.getD k 0) : NonTo xs (k + 1) := by
  intro i hi
  by_cases e : i < k
  · exact h i e
  · have : i = k := by omega
    subst this; exact hk

end Go.Proofs.Ytghgilkdmdppcaa
