/-
  The law's eqExpForm and eqExpFormS return true of two places that hold one form. Condition: both lie in memory as FormAt says.
-/
import Derived.Test.YtghgilkdmdppcaaF2b
import Derived.Deep.RegionWith
namespace Go.Proofs.Ytghgilkdmdppcaa
open Go.RowKit Go.Siskin

theorem _root_.Go.Siskin.SameOn.drewN {R : Nat → Prop} {a w : World} (h : SameOn R a w) (m : Nat) : SameOn R a (w.drewN m) := fun b hb => h b hb
theorem belowN {B : Nat} {a w : World} (h : Below B a w) (n : Nat) : Below B a (w.drewN n) := h.trans ⟨rfl, rfl, rfl, Nat.le_refl _, fun _ _ => rfl⟩

end Go.Proofs.Ytghgilkdmdppcaa
