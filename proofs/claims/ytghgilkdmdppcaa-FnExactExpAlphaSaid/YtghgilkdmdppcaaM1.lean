/-
  The law's toIntS returns a copy in new memory. Condition: the slice lies in memory, and is not too long.
-/
import Derived.Test.YtghgilkdmdppcaaI2
namespace Go.Proofs.Ytghgilkdmdppcaa
open Go.RowKit Go.Siskin

theorem Try.infoInt : (Try.prog.info? 3).map (fun i => (i.zero, i.size, i.bytes)) = some (some (.int .i64 0), 1, 8) := by kernel_rfl
theorem set_step {cs : Array Value} {xs : List Int} {k : Nat} (hcs : cs.size = xs.length) (hlt : k < xs.length) {x : Int} (hx : xs.getD k 0 = x) (hg : ∀ j, j < k → cs[j]? = some (.int .i64 (xs.getD j 0))) :
    ∀ j, j < k + 1 → (cs.setIfInBounds k (.int .i64 x))[j]? = some (.int .i64 (xs.getD j 0)) := by
  intro j hj
  by_cases e : j = k
  · subst e; rw [Array.getElem?_setIfInBounds, if_pos rfl, if_pos (by omega), hx]
  · rw [Array.getElem?_setIfInBounds, if_neg (by omega)]; exact hg j (by omega)

end Go.Proofs.Ytghgilkdmdppcaa
