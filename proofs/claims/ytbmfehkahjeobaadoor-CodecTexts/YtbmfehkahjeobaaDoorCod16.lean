/-
  PROVED HERE: the document's own Words of layer 4 (a contract over this translation).
-/
import Derived.Test.YtbmfehkahjeobaaDoorCod13
import Derived.Test.YtbmfehkahjeobaaDoorLabCon2
import Derived.Deep.AppendLies
import Derived.Deep.RegionHeld3
namespace Go.Proofs.YtbmfehkahjeobaaDoor
open Go.RowKit Go.Shelf
set_option linter.unusedVariables false

end Go.Proofs.YtbmfehkahjeobaaDoor
