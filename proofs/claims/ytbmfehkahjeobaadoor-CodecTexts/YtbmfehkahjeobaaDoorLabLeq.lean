/-
  PROVED HERE: what label.Leq returns when it is called (a contract over this translation). No condition.
-/
import Derived.Test.YtbmfehkahjeobaaDoorLabIter
namespace Go.Proofs.YtbmfehkahjeobaaDoor
open Go.RowKit Go.Shelf
set_option linter.unusedVariables false
attribute [local go_sem] Oper.semAt_some

def leqB (A C : List (Int × Int)) : Bool := (both A C).all fun x => Lv.leq x.2.1 x.2.2

end Go.Proofs.YtbmfehkahjeobaaDoor
