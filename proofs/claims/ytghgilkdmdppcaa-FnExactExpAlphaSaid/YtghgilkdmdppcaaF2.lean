/-
  The law's toExpForm copies a form into new memory, if toExpFormS does so of its kids. Condition: the form lies in memory, and costs at most 1048576.
-/
import Derived.Test.YtghgilkdmdppcaaF1
namespace Go.Proofs.Ytghgilkdmdppcaa
open Go.RowKit Go.Siskin

end Go.Proofs.Ytghgilkdmdppcaa
