/-
  The contracts of the functions over texts: the model's (l1Blank, l1Ends, l1Digits, l1AtomOk, l1IdOk) and the program's (isDigits, hasBytesFrom): each returns what the plain function says of the text's bytes; the world is as it was.
-/
import Derived.Test.YtghgilkdmdppcaaProg
import Derived.Test.YtghgilkdmdppcaaPlain
import Derived.WalkKit
import Derived.WalkSpells
import Derived.WalkLawsBesides
namespace Go.Proofs.Ytghgilkdmdppcaa
open Go.RowKit Go.Siskin

theorem ret_bool {a b : Bool} (h : a = b) : Ending.returned (.bool a) = .returned (.bool b) := by rw [h]
theorem ret_int {k : IntKind} {a b : Int} (h : a = b) : Ending.returned (.int k a) = .returned (.int k b) := by rw [h]

end Go.Proofs.Ytghgilkdmdppcaa
