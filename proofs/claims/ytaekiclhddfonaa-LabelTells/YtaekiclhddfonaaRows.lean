/-
  No cell of these rows narrows 'for every input' (looked for: loops, veiled, ifaces, maps, wideKeys, modest, calm, conditions, laid).
  DERIVED. THE GIVEN ROWS OF THIS SEAT. 6 by the template 'for every input the law returns true; each argument reads behind the call as it read before'; 0 by the template 'total and deterministic' (their statements: YtaekiclhddfonaaTotals.lean).
  GIVEN WITH THE SEED: the statements are not yours to turn. If you find one false, say at which input.
  Laid BY PROGRAM, IN A SANDBOX (cutbox-rows.mjs): the forced cells as the released guide's own fill.sh prints them over the translation 71d472eadde60ecb… (all of the seat's roots in one cut). By AI agents, Wed Nov 11 2026. No macro, syntax, notation, axiom, sorry.
-/
import Derived.Test.YtaekiclhddfonaaChecked
import GoSem.Claim
import GoSem.ClaimJoined
import GoSem.ClaimMapViews
import Derived.JoinedTies
import Derived.KernelRfl
namespace Go.Proofs.Ytaekiclhddfonaa
/- THE CELL 'sum', in the pinned program and in every row, IS THE sha256 OF THE DUMP (.gsa) THAT YtaekiclhddfonaaProg.lean LOADS. Nothing in Lean hashes anything: it is a label: what it is worth is what the hold of that sum in a sandbox is worth. -/
noncomputable def Try.pinned : Pinned := { name := "ytaekiclhddfonaa", sum := "71d472eadde60ecbf8446862c4083d3a38b2f3a07ccd537aff0a6593a0d43999", checked := Try.checked }
namespace Rows
def none {H : Type} : Left H := { results := [], args := [] }

/-- 'curtilagelaw02.LabelTells': WHATEVER THE INPUT: true; the input reads as it did. -/
def labelTellsSpec : ChangeSpec := { name := "labelTells", fn := fun _ => fun
  | [d1, d2, d3, d4] => { results := [.lit (.bool true)], args := [d1, d2, d3, d4] }
  | _ => none }
def labelTellsRow : OpenClaim := { program := "ytaekiclhddfonaa", sum := "71d472eadde60ecbf8446862c4083d3a38b2f3a07ccd537aff0a6593a0d43999", func := "curtilage/curtilagelaw02.LabelTells", spec := "labelTells", unfollowed := true, recurses := true, apart := false }
def LabelTellsSaid : Prop := labelTellsRow.holds Try.pinned (OpenSpec.ofChange labelTellsSpec)

/-- ITS FALSE NEIGHBOUR: 'it returns false'. Refute it at one input. -/
def labelTellsWrong : ChangeSpec := { name := "labelTells", fn := fun _ => fun
  | [d1, d2, d3, d4] => { results := [.lit (.bool false)], args := [d1, d2, d3, d4] }
  | _ => none }
def LabelTellsWrongFalsely : Prop := labelTellsRow.holds Try.pinned (OpenSpec.ofChange labelTellsWrong)

/-- 'curtilagelaw02.LabelOrder': WHATEVER THE INPUT: true; the input reads as it did. -/
def labelOrderSpec : ChangeSpec := { name := "labelOrder", fn := fun _ => fun
  | [d1, d2, d3] => { results := [.lit (.bool true)], args := [d1, d2, d3] }
  | _ => none }
def labelOrderRow : OpenClaim := { program := "ytaekiclhddfonaa", sum := "71d472eadde60ecbf8446862c4083d3a38b2f3a07ccd537aff0a6593a0d43999", func := "curtilage/curtilagelaw02.LabelOrder", spec := "labelOrder", unfollowed := true, recurses := true, apart := false }
def LabelOrderSaid : Prop := labelOrderRow.holds Try.pinned (OpenSpec.ofChange labelOrderSpec)

/-- ITS FALSE NEIGHBOUR: 'it returns false'. Refute it at one input. -/
def labelOrderWrong : ChangeSpec := { name := "labelOrder", fn := fun _ => fun
  | [d1, d2, d3] => { results := [.lit (.bool false)], args := [d1, d2, d3] }
  | _ => none }
def LabelOrderWrongFalsely : Prop := labelOrderRow.holds Try.pinned (OpenSpec.ofChange labelOrderWrong)

/-- 'curtilagelaw02.LabelSpreads': WHATEVER THE INPUT: true; the input reads as it did. -/
def labelSpreadsSpec : ChangeSpec := { name := "labelSpreads", fn := fun _ => fun
  | [d1, d2, d3] => { results := [.lit (.bool true)], args := [d1, d2, d3] }
  | _ => none }
def labelSpreadsRow : OpenClaim := { program := "ytaekiclhddfonaa", sum := "71d472eadde60ecbf8446862c4083d3a38b2f3a07ccd537aff0a6593a0d43999", func := "curtilage/curtilagelaw02.LabelSpreads", spec := "labelSpreads", unfollowed := true, recurses := true, apart := false }
def LabelSpreadsSaid : Prop := labelSpreadsRow.holds Try.pinned (OpenSpec.ofChange labelSpreadsSpec)

/-- ITS FALSE NEIGHBOUR: 'it returns false'. Refute it at one input. -/
def labelSpreadsWrong : ChangeSpec := { name := "labelSpreads", fn := fun _ => fun
  | [d1, d2, d3] => { results := [.lit (.bool false)], args := [d1, d2, d3] }
  | _ => none }
def LabelSpreadsWrongFalsely : Prop := labelSpreadsRow.holds Try.pinned (OpenSpec.ofChange labelSpreadsWrong)

/-- 'curtilagelaw02.LabelSets': WHATEVER THE INPUT: true; the input reads as it did. -/
def labelSetsSpec : ChangeSpec := { name := "labelSets", fn := fun _ => fun
  | [d1, d2, d3, d4] => { results := [.lit (.bool true)], args := [d1, d2, d3, d4] }
  | _ => none }
def labelSetsRow : OpenClaim := { program := "ytaekiclhddfonaa", sum := "71d472eadde60ecbf8446862c4083d3a38b2f3a07ccd537aff0a6593a0d43999", func := "curtilage/curtilagelaw02.LabelSets", spec := "labelSets", unfollowed := true, recurses := true, apart := false }
def LabelSetsSaid : Prop := labelSetsRow.holds Try.pinned (OpenSpec.ofChange labelSetsSpec)

/-- ITS FALSE NEIGHBOUR: 'it returns false'. Refute it at one input. -/
def labelSetsWrong : ChangeSpec := { name := "labelSets", fn := fun _ => fun
  | [d1, d2, d3, d4] => { results := [.lit (.bool false)], args := [d1, d2, d3, d4] }
  | _ => none }
def LabelSetsWrongFalsely : Prop := labelSetsRow.holds Try.pinned (OpenSpec.ofChange labelSetsWrong)

/-- 'curtilagelaw02.LabelPoints': WHATEVER THE INPUT: true; the input reads as it did. -/
def labelPointsSpec : ChangeSpec := { name := "labelPoints", fn := fun _ => fun
  | [d1, d2, d3] => { results := [.lit (.bool true)], args := [d1, d2, d3] }
  | _ => none }
def labelPointsRow : OpenClaim := { program := "ytaekiclhddfonaa", sum := "71d472eadde60ecbf8446862c4083d3a38b2f3a07ccd537aff0a6593a0d43999", func := "curtilage/curtilagelaw02.LabelPoints", spec := "labelPoints", unfollowed := true, recurses := true, apart := false }
def LabelPointsSaid : Prop := labelPointsRow.holds Try.pinned (OpenSpec.ofChange labelPointsSpec)

/-- ITS FALSE NEIGHBOUR: 'it returns false'. Refute it at one input. -/
def labelPointsWrong : ChangeSpec := { name := "labelPoints", fn := fun _ => fun
  | [d1, d2, d3] => { results := [.lit (.bool false)], args := [d1, d2, d3] }
  | _ => none }
def LabelPointsWrongFalsely : Prop := labelPointsRow.holds Try.pinned (OpenSpec.ofChange labelPointsWrong)

/-- 'curtilagelaw02.LabelOwns': WHATEVER THE INPUT: true; the input reads as it did. -/
def labelOwnsSpec : ChangeSpec := { name := "labelOwns", fn := fun _ => fun
  | [d1, d2, d3] => { results := [.lit (.bool true)], args := [d1, d2, d3] }
  | _ => none }
def labelOwnsRow : OpenClaim := { program := "ytaekiclhddfonaa", sum := "71d472eadde60ecbf8446862c4083d3a38b2f3a07ccd537aff0a6593a0d43999", func := "curtilage/curtilagelaw02.LabelOwns", spec := "labelOwns", unfollowed := true, recurses := true, apart := false }
def LabelOwnsSaid : Prop := labelOwnsRow.holds Try.pinned (OpenSpec.ofChange labelOwnsSpec)

/-- ITS FALSE NEIGHBOUR: 'it returns false'. Refute it at one input. -/
def labelOwnsWrong : ChangeSpec := { name := "labelOwns", fn := fun _ => fun
  | [d1, d2, d3] => { results := [.lit (.bool false)], args := [d1, d2, d3] }
  | _ => none }
def LabelOwnsWrongFalsely : Prop := labelOwnsRow.holds Try.pinned (OpenSpec.ofChange labelOwnsWrong)

/- THE SECOND FORM. 'bulk': how many values and letters a reading holds, each counted each time it is reached (what is shared counts as often as it is met; a slice's spare places count too). A statement '..UptoSaid' is the law's where the arguments, and the package variables that the reading takes, are together of bulk at most 1048576: NARROWER than '..Said'. Prove '..Said' where nothing that the law and all that it calls make is longer than what came in: it says more and counts as full. Else prove '..UptoSaid'. A law counts once. -/
mutual
def uptoBulk {H : Type} : DataW H → Nat
  | .lit (.string bytes) => bytes.length + 1
  | .lit _ => 1
  | .nil => 1
  | .ptr d => uptoBulk d + 1
  | .slice elems spare => uptoBulkAll elems + uptoBulkAll spare + 1
  | .agg parts => uptoBulkAll parts + 1
  | .iface _ d => uptoBulk d + 1
  | .map entries => uptoBulkEntries entries + 1
  | .held _ => 1
def uptoBulkAll {H : Type} : List (DataW H) → Nat
  | [] => 0
  | d :: r => uptoBulk d + uptoBulkAll r
def uptoBulkEntries {H : Type} : List (Lit × DataW H) → Nat
  | [] => 0
  | x :: r => uptoBulkEntry x + uptoBulkEntries r
def uptoBulkEntry {H : Type} : Lit × DataW H → Nat
  | (.string bytes, d) => bytes.length + uptoBulk d + 1
  | (_, d) => uptoBulk d + 1
 end
def uptoSmall : (H : Type) → List (DataW H) → Bool := fun _ ds => decide (uptoBulkAll ds ≤ 1048576)
def OpenSpec.upto (s : _root_.Go.ChangeSpec) : _root_.Go.OpenSpec := { _root_.Go.OpenSpec.ofChange s with cond := some uptoSmall }

/-- 'curtilagelaw02.LabelTells', WHERE WHAT IT READS IS OF BULK AT MOST 1048576: true; the input reads as it did. -/
def labelTellsUptoRow : OpenClaim := { program := "ytaekiclhddfonaa", sum := "71d472eadde60ecbf8446862c4083d3a38b2f3a07ccd537aff0a6593a0d43999", func := "curtilage/curtilagelaw02.LabelTells", spec := "labelTells", unfollowed := true, recurses := true, apart := false, narrowed := true }
def LabelTellsUptoSaid : Prop := labelTellsUptoRow.holds Try.pinned (OpenSpec.upto labelTellsSpec)

/-- 'curtilagelaw02.LabelOrder', WHERE WHAT IT READS IS OF BULK AT MOST 1048576: true; the input reads as it did. -/
def labelOrderUptoRow : OpenClaim := { program := "ytaekiclhddfonaa", sum := "71d472eadde60ecbf8446862c4083d3a38b2f3a07ccd537aff0a6593a0d43999", func := "curtilage/curtilagelaw02.LabelOrder", spec := "labelOrder", unfollowed := true, recurses := true, apart := false, narrowed := true }
def LabelOrderUptoSaid : Prop := labelOrderUptoRow.holds Try.pinned (OpenSpec.upto labelOrderSpec)

/-- 'curtilagelaw02.LabelSpreads', WHERE WHAT IT READS IS OF BULK AT MOST 1048576: true; the input reads as it did. -/
def labelSpreadsUptoRow : OpenClaim := { program := "ytaekiclhddfonaa", sum := "71d472eadde60ecbf8446862c4083d3a38b2f3a07ccd537aff0a6593a0d43999", func := "curtilage/curtilagelaw02.LabelSpreads", spec := "labelSpreads", unfollowed := true, recurses := true, apart := false, narrowed := true }
def LabelSpreadsUptoSaid : Prop := labelSpreadsUptoRow.holds Try.pinned (OpenSpec.upto labelSpreadsSpec)

/-- 'curtilagelaw02.LabelSets', WHERE WHAT IT READS IS OF BULK AT MOST 1048576: true; the input reads as it did. -/
def labelSetsUptoRow : OpenClaim := { program := "ytaekiclhddfonaa", sum := "71d472eadde60ecbf8446862c4083d3a38b2f3a07ccd537aff0a6593a0d43999", func := "curtilage/curtilagelaw02.LabelSets", spec := "labelSets", unfollowed := true, recurses := true, apart := false, narrowed := true }
def LabelSetsUptoSaid : Prop := labelSetsUptoRow.holds Try.pinned (OpenSpec.upto labelSetsSpec)

/-- 'curtilagelaw02.LabelPoints', WHERE WHAT IT READS IS OF BULK AT MOST 1048576: true; the input reads as it did. -/
def labelPointsUptoRow : OpenClaim := { program := "ytaekiclhddfonaa", sum := "71d472eadde60ecbf8446862c4083d3a38b2f3a07ccd537aff0a6593a0d43999", func := "curtilage/curtilagelaw02.LabelPoints", spec := "labelPoints", unfollowed := true, recurses := true, apart := false, narrowed := true }
def LabelPointsUptoSaid : Prop := labelPointsUptoRow.holds Try.pinned (OpenSpec.upto labelPointsSpec)

/-- 'curtilagelaw02.LabelOwns', WHERE WHAT IT READS IS OF BULK AT MOST 1048576: true; the input reads as it did. -/
def labelOwnsUptoRow : OpenClaim := { program := "ytaekiclhddfonaa", sum := "71d472eadde60ecbf8446862c4083d3a38b2f3a07ccd537aff0a6593a0d43999", func := "curtilage/curtilagelaw02.LabelOwns", spec := "labelOwns", unfollowed := true, recurses := true, apart := false, narrowed := true }
def LabelOwnsUptoSaid : Prop := labelOwnsUptoRow.holds Try.pinned (OpenSpec.upto labelOwnsSpec)

end Rows
end Go.Proofs.Ytaekiclhddfonaa
