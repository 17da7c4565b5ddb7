/-
  PROVED HERE: what the parts of which package label makes labels return when they are called (contracts over this translation). A label has fewer than 2^40 pairs where one is put to it.
-/
import Derived.Test.YtbmfehkahjeobaaDoorLabCon1
import Derived.Test.YtbmfehkahjeobaaDoorLabOwn
import Derived.WalkKit
import Derived.ProofKit
import Derived.OpenShut
import Derived.Below
import Derived.WalkSmall
import Derived.Deep.QuietTactic
import Derived.BigQuiet
import Derived.OwnWalk
import Derived.Maps.AppendAt
namespace Go.Proofs.YtbmfehkahjeobaaDoor
open Go.ChangeShapes Go.WideShapes Go.ChangeAt Go.RowKit
set_option linter.unusedVariables false

theorem infoPair : (Tryd.prog.info? 35).map (fun i => (i.zero, i.size, i.bytes)) = some (some (.agg #[.int .u64 0, .int .i64 0]), 2, 16) := by kernel_rfl

end Go.Proofs.YtbmfehkahjeobaaDoor
