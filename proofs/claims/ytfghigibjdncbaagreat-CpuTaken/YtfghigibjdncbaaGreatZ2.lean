/-
 PROVED HERE: what each function of package level, and of the document's answer to it, returns when it is called (contracts . What is asked stands at each.
-/
import Derived.Test.YtfghigibjdncbaaGreatRows
import Derived.WalkKit
import Derived.ProofKit
import Derived.OpenShut
import Derived.Below
import Derived.Test.YtfghigibjdncbaaGreatZ0
namespace Go.Proofs.YtfghigibjdncbaaGreat
set_option maxRecDepth 100000
set_option maxHeartbeats 8000000
open Go.ChangeShapes Go.WideShapes Go.ChangeAt Go.RowKit
set_option linter.unusedVariables false

theorem next {w a b : World} (h : Below w.heap.size w a) (k : Below a.heap.size a b) : Below w.heap.size w b := h.trans (k.mono h.size)



end Go.Proofs.YtfghigibjdncbaaGreat
