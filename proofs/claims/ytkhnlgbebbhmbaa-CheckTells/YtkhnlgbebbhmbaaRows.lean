/-
  No cell of these rows narrows 'for every input' (looked for: loops, veiled, ifaces, maps, wideKeys, modest, calm, conditions, laid).
  DERIVED. THE GIVEN ROWS OF THIS SEAT. 6 by the template 'for every input the law returns true; each argument reads behind the call as it read before'; 0 by the template 'total and deterministic' (their statements: YtkhnlgbebbhmbaaTotals.lean).
  GIVEN WITH THE SEED: the statements are not yours to turn. If you find one false, say at which input.
  Laid BY PROGRAM, IN A SANDBOX (cutbox-rows.mjs): the forced cells as the released guide's own fill.sh prints them over the translation 2bf13564886e84ac… (all of the seat's roots in one cut). By AI agents, Wed Nov 11 2026. No macro, syntax, notation, axiom, sorry.
-/
import Derived.Test.YtkhnlgbebbhmbaaChecked
import GoSem.Claim
import GoSem.ClaimJoined
import GoSem.ClaimMapViews
import Derived.JoinedTies
import Derived.KernelRfl
namespace Go.Proofs.Ytkhnlgbebbhmbaa
/- THE CELL 'sum', in the pinned program and in every row, IS THE sha256 OF THE DUMP (.gsa) THAT YtkhnlgbebbhmbaaProg.lean LOADS. Nothing in Lean hashes anything: it is a label: what it is worth is what the hold of that sum in a sandbox is worth. -/
noncomputable def Try.pinned : Pinned := { name := "ytkhnlgbebbhmbaa", sum := "2bf13564886e84ac82e73889ffb48cdbf1214e8a791e042f8139b71a8a53e76a", checked := Try.checked }
namespace Rows
def none {H : Type} : Left H := { results := [], args := [] }

/-- 'curtilagelaw03.CheckTells': WHATEVER THE INPUT: true; the input reads as it did. -/
def checkTellsSpec : ChangeSpec := { name := "checkTells", fn := fun _ => fun
  | [d1, d2, d3, d4, d5, d6] => { results := [.lit (.bool true)], args := [d1, d2, d3, d4, d5, d6] }
  | _ => none }
def checkTellsRow : OpenClaim := { program := "ytkhnlgbebbhmbaa", sum := "2bf13564886e84ac82e73889ffb48cdbf1214e8a791e042f8139b71a8a53e76a", func := "curtilage/curtilagelaw03.CheckTells", spec := "checkTells", unfollowed := true, recurses := true, apart := false }
def CheckTellsSaid : Prop := checkTellsRow.holds Try.pinned (OpenSpec.ofChange checkTellsSpec)

/-- ITS FALSE NEIGHBOUR: 'it returns false'. Refute it at one input. -/
def checkTellsWrong : ChangeSpec := { name := "checkTells", fn := fun _ => fun
  | [d1, d2, d3, d4, d5, d6] => { results := [.lit (.bool false)], args := [d1, d2, d3, d4, d5, d6] }
  | _ => none }
def CheckTellsWrongFalsely : Prop := checkTellsRow.holds Try.pinned (OpenSpec.ofChange checkTellsWrong)

/-- 'curtilagelaw03.CheckAbove': WHATEVER THE INPUT: true; the input reads as it did. -/
def checkAboveSpec : ChangeSpec := { name := "checkAbove", fn := fun _ => fun
  | [d1, d2, d3, d4] => { results := [.lit (.bool true)], args := [d1, d2, d3, d4] }
  | _ => none }
def checkAboveRow : OpenClaim := { program := "ytkhnlgbebbhmbaa", sum := "2bf13564886e84ac82e73889ffb48cdbf1214e8a791e042f8139b71a8a53e76a", func := "curtilage/curtilagelaw03.CheckAbove", spec := "checkAbove", unfollowed := true, recurses := true, apart := false }
def CheckAboveSaid : Prop := checkAboveRow.holds Try.pinned (OpenSpec.ofChange checkAboveSpec)

/-- ITS FALSE NEIGHBOUR: 'it returns false'. Refute it at one input. -/
def checkAboveWrong : ChangeSpec := { name := "checkAbove", fn := fun _ => fun
  | [d1, d2, d3, d4] => { results := [.lit (.bool false)], args := [d1, d2, d3, d4] }
  | _ => none }
def CheckAboveWrongFalsely : Prop := checkAboveRow.holds Try.pinned (OpenSpec.ofChange checkAboveWrong)

/-- 'curtilagelaw03.CheckTold': WHATEVER THE INPUT: true; the input reads as it did. -/
def checkToldSpec : ChangeSpec := { name := "checkTold", fn := fun _ => fun
  | [d1, d2, d3, d4] => { results := [.lit (.bool true)], args := [d1, d2, d3, d4] }
  | _ => none }
def checkToldRow : OpenClaim := { program := "ytkhnlgbebbhmbaa", sum := "2bf13564886e84ac82e73889ffb48cdbf1214e8a791e042f8139b71a8a53e76a", func := "curtilage/curtilagelaw03.CheckTold", spec := "checkTold", unfollowed := true, recurses := true, apart := false }
def CheckToldSaid : Prop := checkToldRow.holds Try.pinned (OpenSpec.ofChange checkToldSpec)

/-- ITS FALSE NEIGHBOUR: 'it returns false'. Refute it at one input. -/
def checkToldWrong : ChangeSpec := { name := "checkTold", fn := fun _ => fun
  | [d1, d2, d3, d4] => { results := [.lit (.bool false)], args := [d1, d2, d3, d4] }
  | _ => none }
def CheckToldWrongFalsely : Prop := checkToldRow.holds Try.pinned (OpenSpec.ofChange checkToldWrong)

/-- 'curtilagelaw03.CheckBack': WHATEVER THE INPUT: true; the input reads as it did. -/
def checkBackSpec : ChangeSpec := { name := "checkBack", fn := fun _ => fun
  | [d1, d2, d3, d4, d5, d6, d7] => { results := [.lit (.bool true)], args := [d1, d2, d3, d4, d5, d6, d7] }
  | _ => none }
def checkBackRow : OpenClaim := { program := "ytkhnlgbebbhmbaa", sum := "2bf13564886e84ac82e73889ffb48cdbf1214e8a791e042f8139b71a8a53e76a", func := "curtilage/curtilagelaw03.CheckBack", spec := "checkBack", unfollowed := true, recurses := true, apart := false }
def CheckBackSaid : Prop := checkBackRow.holds Try.pinned (OpenSpec.ofChange checkBackSpec)

/-- ITS FALSE NEIGHBOUR: 'it returns false'. Refute it at one input. -/
def checkBackWrong : ChangeSpec := { name := "checkBack", fn := fun _ => fun
  | [d1, d2, d3, d4, d5, d6, d7] => { results := [.lit (.bool false)], args := [d1, d2, d3, d4, d5, d6, d7] }
  | _ => none }
def CheckBackWrongFalsely : Prop := checkBackRow.holds Try.pinned (OpenSpec.ofChange checkBackWrong)

/-- 'curtilagelaw03.CheckSame': WHATEVER THE INPUT: true; the input reads as it did. -/
def checkSameSpec : ChangeSpec := { name := "checkSame", fn := fun _ => fun
  | [d1, d2] => { results := [.lit (.bool true)], args := [d1, d2] }
  | _ => none }
def checkSameRow : OpenClaim := { program := "ytkhnlgbebbhmbaa", sum := "2bf13564886e84ac82e73889ffb48cdbf1214e8a791e042f8139b71a8a53e76a", func := "curtilage/curtilagelaw03.CheckSame", spec := "checkSame", unfollowed := true, recurses := true, apart := false }
def CheckSameSaid : Prop := checkSameRow.holds Try.pinned (OpenSpec.ofChange checkSameSpec)

/-- ITS FALSE NEIGHBOUR: 'it returns false'. Refute it at one input. -/
def checkSameWrong : ChangeSpec := { name := "checkSame", fn := fun _ => fun
  | [d1, d2] => { results := [.lit (.bool false)], args := [d1, d2] }
  | _ => none }
def CheckSameWrongFalsely : Prop := checkSameRow.holds Try.pinned (OpenSpec.ofChange checkSameWrong)

/-- 'curtilagelaw03.CheckBoth': WHATEVER THE INPUT: true; the input reads as it did. -/
def checkBothSpec : ChangeSpec := { name := "checkBoth", fn := fun _ => fun
  | [d1, d2, d3] => { results := [.lit (.bool true)], args := [d1, d2, d3] }
  | _ => none }
def checkBothRow : OpenClaim := { program := "ytkhnlgbebbhmbaa", sum := "2bf13564886e84ac82e73889ffb48cdbf1214e8a791e042f8139b71a8a53e76a", func := "curtilage/curtilagelaw03.CheckBoth", spec := "checkBoth", unfollowed := true, recurses := true, apart := false }
def CheckBothSaid : Prop := checkBothRow.holds Try.pinned (OpenSpec.ofChange checkBothSpec)

/-- ITS FALSE NEIGHBOUR: 'it returns false'. Refute it at one input. -/
def checkBothWrong : ChangeSpec := { name := "checkBoth", fn := fun _ => fun
  | [d1, d2, d3] => { results := [.lit (.bool false)], args := [d1, d2, d3] }
  | _ => none }
def CheckBothWrongFalsely : Prop := checkBothRow.holds Try.pinned (OpenSpec.ofChange checkBothWrong)

/- THE SECOND FORM. 'bulk': how many values and letters a reading holds, each counted each time it is reached (what is shared counts as often as it is met; a slice's spare places count too). A statement '..UptoSaid' is the law's where the arguments, and the package variables that the reading takes, are together of bulk at most 1048576: NARROWER than '..Said'. Prove '..Said' where nothing that the law and all that it calls make is longer than what came in: it says more and counts as full. Else prove '..UptoSaid'. A law counts once. -/
mutual
def uptoBulk {H : Type} : DataW H → Nat
  | .lit (.string bytes) => bytes.length + 1
  | .lit _ => 1
  | .nil => 1
  | .ptr d => uptoBulk d + 1
  | .slice elems spare => uptoBulkAll elems + uptoBulkAll spare + 1
  | .agg parts => uptoBulkAll parts + 1
  | .iface _ d => uptoBulk d + 1
  | .map entries => uptoBulkEntries entries + 1
  | .held _ => 1
def uptoBulkAll {H : Type} : List (DataW H) → Nat
  | [] => 0
  | d :: r => uptoBulk d + uptoBulkAll r
def uptoBulkEntries {H : Type} : List (Lit × DataW H) → Nat
  | [] => 0
  | x :: r => uptoBulkEntry x + uptoBulkEntries r
def uptoBulkEntry {H : Type} : Lit × DataW H → Nat
  | (.string bytes, d) => bytes.length + uptoBulk d + 1
  | (_, d) => uptoBulk d + 1
 end
def uptoSmall : (H : Type) → List (DataW H) → Bool := fun _ ds => decide (uptoBulkAll ds ≤ 1048576)
def OpenSpec.upto (s : _root_.Go.ChangeSpec) : _root_.Go.OpenSpec := { _root_.Go.OpenSpec.ofChange s with cond := some uptoSmall }

/-- 'curtilagelaw03.CheckTells', WHERE WHAT IT READS IS OF BULK AT MOST 1048576: true; the input reads as it did. -/
def checkTellsUptoRow : OpenClaim := { program := "ytkhnlgbebbhmbaa", sum := "2bf13564886e84ac82e73889ffb48cdbf1214e8a791e042f8139b71a8a53e76a", func := "curtilage/curtilagelaw03.CheckTells", spec := "checkTells", unfollowed := true, recurses := true, apart := false, narrowed := true }
def CheckTellsUptoSaid : Prop := checkTellsUptoRow.holds Try.pinned (OpenSpec.upto checkTellsSpec)

/-- 'curtilagelaw03.CheckAbove', WHERE WHAT IT READS IS OF BULK AT MOST 1048576: true; the input reads as it did. -/
def checkAboveUptoRow : OpenClaim := { program := "ytkhnlgbebbhmbaa", sum := "2bf13564886e84ac82e73889ffb48cdbf1214e8a791e042f8139b71a8a53e76a", func := "curtilage/curtilagelaw03.CheckAbove", spec := "checkAbove", unfollowed := true, recurses := true, apart := false, narrowed := true }
def CheckAboveUptoSaid : Prop := checkAboveUptoRow.holds Try.pinned (OpenSpec.upto checkAboveSpec)

/-- 'curtilagelaw03.CheckTold', WHERE WHAT IT READS IS OF BULK AT MOST 1048576: true; the input reads as it did. -/
def checkToldUptoRow : OpenClaim := { program := "ytkhnlgbebbhmbaa", sum := "2bf13564886e84ac82e73889ffb48cdbf1214e8a791e042f8139b71a8a53e76a", func := "curtilage/curtilagelaw03.CheckTold", spec := "checkTold", unfollowed := true, recurses := true, apart := false, narrowed := true }
def CheckToldUptoSaid : Prop := checkToldUptoRow.holds Try.pinned (OpenSpec.upto checkToldSpec)

/-- 'curtilagelaw03.CheckBack', WHERE WHAT IT READS IS OF BULK AT MOST 1048576: true; the input reads as it did. -/
def checkBackUptoRow : OpenClaim := { program := "ytkhnlgbebbhmbaa", sum := "2bf13564886e84ac82e73889ffb48cdbf1214e8a791e042f8139b71a8a53e76a", func := "curtilage/curtilagelaw03.CheckBack", spec := "checkBack", unfollowed := true, recurses := true, apart := false, narrowed := true }
def CheckBackUptoSaid : Prop := checkBackUptoRow.holds Try.pinned (OpenSpec.upto checkBackSpec)

/-- 'curtilagelaw03.CheckSame', WHERE WHAT IT READS IS OF BULK AT MOST 1048576: true; the input reads as it did. -/
def checkSameUptoRow : OpenClaim := { program := "ytkhnlgbebbhmbaa", sum := "2bf13564886e84ac82e73889ffb48cdbf1214e8a791e042f8139b71a8a53e76a", func := "curtilage/curtilagelaw03.CheckSame", spec := "checkSame", unfollowed := true, recurses := true, apart := false, narrowed := true }
def CheckSameUptoSaid : Prop := checkSameUptoRow.holds Try.pinned (OpenSpec.upto checkSameSpec)

/-- 'curtilagelaw03.CheckBoth', WHERE WHAT IT READS IS OF BULK AT MOST 1048576: true; the input reads as it did. -/
def checkBothUptoRow : OpenClaim := { program := "ytkhnlgbebbhmbaa", sum := "2bf13564886e84ac82e73889ffb48cdbf1214e8a791e042f8139b71a8a53e76a", func := "curtilage/curtilagelaw03.CheckBoth", spec := "checkBoth", unfollowed := true, recurses := true, apart := false, narrowed := true }
def CheckBothUptoSaid : Prop := checkBothUptoRow.holds Try.pinned (OpenSpec.upto checkBothSpec)

end Rows
end Go.Proofs.Ytkhnlgbebbhmbaa
