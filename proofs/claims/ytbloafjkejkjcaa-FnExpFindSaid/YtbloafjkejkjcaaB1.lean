/- The law's szExpBind and szExpBindS take from a number what binds cost; toExpBind and toExpBindS copy them into new memory; eqExpBind and eqExpBindS are true of two places that hold the same. Condition: the binds lie in memory as BindsAt says. -/
import Derived.Test.YtbloafjkejkjcaaB0
import Derived.Test.YtbloafjkejkjcaaF3
namespace Go.Proofs.Ytbloafjkejkjcaa
open Go.RowKit Go.Siskin

end Go.Proofs.Ytbloafjkejkjcaa
