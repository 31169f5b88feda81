/- The law's toExpForm copies a form into new memory, if toExpFormS does so of its kids. Condition: the form lies in memory, and costs at most 1048576. -/
import Derived.Test.YtbloafjkejkjcaaF1
namespace Go.Proofs.Ytbloafjkejkjcaa
open Go.RowKit Go.Siskin

end Go.Proofs.Ytbloafjkejkjcaa
