/-
  No cell of these rows narrows 'for every input' (looked for: loops, veiled, ifaces, maps, wideKeys, modest, calm, conditions, laid).
  DERIVED. THE GIVEN ROWS OF THIS SEAT. 4 by the template 'for every input the law returns true; each argument reads behind the call as it read before'; 0 by the template 'total and deterministic' (their statements: YtfpmkihlfhpgdaaTotals.lean).
  GIVEN WITH THE SEED: the statements are not yours to turn. If you find one false, say at which input.
  Laid BY PROGRAM, IN A SANDBOX (cutbox-rows.mjs): the forced cells as the released guide's own fill.sh prints them over the translation d1a09dc668826f09… (all of the seat's roots in one cut). By AI agents, Wed Nov 11 2026. No macro, syntax, notation, axiom, sorry.
-/
import Derived.Test.YtfpmkihlfhpgdaaChecked
import GoSem.Claim
import GoSem.ClaimJoined
import GoSem.ClaimMapViews
import Derived.JoinedTies
import Derived.KernelRfl
namespace Go.Proofs.Ytfpmkihlfhpgdaa
/- THE CELL 'sum', in the pinned program and in every row, IS THE sha256 OF THE DUMP (.gsa) THAT YtfpmkihlfhpgdaaProg.lean LOADS. Nothing in Lean hashes anything: it is a label: what it is worth is what the hold of that sum in a sandbox is worth. -/
noncomputable def Try.pinned : Pinned := { name := "ytfpmkihlfhpgdaa", sum := "d1a09dc668826f091feca3ecfecd4a35bca4fc333490d4628a9b0d786403b739", checked := Try.checked }
namespace Rows
def none {H : Type} : Left H := { results := [], args := [] }

/-- 'curtilagelaw13.ObjTells': WHATEVER THE INPUT: true; the input reads as it did. -/
def objTellsSpec : ChangeSpec := { name := "objTells", fn := fun _ => fun
  | [d1, d2, d3, d4] => { results := [.lit (.bool true)], args := [d1, d2, d3, d4] }
  | _ => none }
def objTellsRow : OpenClaim := { program := "ytfpmkihlfhpgdaa", sum := "d1a09dc668826f091feca3ecfecd4a35bca4fc333490d4628a9b0d786403b739", func := "curtilage/curtilagelaw13.ObjTells", spec := "objTells", unfollowed := true, recurses := true, apart := false }
def ObjTellsSaid : Prop := objTellsRow.holds Try.pinned (OpenSpec.ofChange objTellsSpec)

/-- ITS FALSE NEIGHBOUR: 'it returns false'. Refute it at one input. -/
def objTellsWrong : ChangeSpec := { name := "objTells", fn := fun _ => fun
  | [d1, d2, d3, d4] => { results := [.lit (.bool false)], args := [d1, d2, d3, d4] }
  | _ => none }
def ObjTellsWrongFalsely : Prop := objTellsRow.holds Try.pinned (OpenSpec.ofChange objTellsWrong)

/-- 'curtilagelaw13.ObjPuts': WHATEVER THE INPUT: true; the input reads as it did. -/
def objPutsSpec : ChangeSpec := { name := "objPuts", fn := fun _ => fun
  | [d1, d2, d3] => { results := [.lit (.bool true)], args := [d1, d2, d3] }
  | _ => none }
def objPutsRow : OpenClaim := { program := "ytfpmkihlfhpgdaa", sum := "d1a09dc668826f091feca3ecfecd4a35bca4fc333490d4628a9b0d786403b739", func := "curtilage/curtilagelaw13.ObjPuts", spec := "objPuts", unfollowed := true, recurses := true, apart := false }
def ObjPutsSaid : Prop := objPutsRow.holds Try.pinned (OpenSpec.ofChange objPutsSpec)

/-- ITS FALSE NEIGHBOUR: 'it returns false'. Refute it at one input. -/
def objPutsWrong : ChangeSpec := { name := "objPuts", fn := fun _ => fun
  | [d1, d2, d3] => { results := [.lit (.bool false)], args := [d1, d2, d3] }
  | _ => none }
def ObjPutsWrongFalsely : Prop := objPutsRow.holds Try.pinned (OpenSpec.ofChange objPutsWrong)

/-- 'curtilagelaw13.ObjFinds': WHATEVER THE INPUT: true; the input reads as it did. -/
def objFindsSpec : ChangeSpec := { name := "objFinds", fn := fun _ => fun
  | [d1, d2, d3] => { results := [.lit (.bool true)], args := [d1, d2, d3] }
  | _ => none }
def objFindsRow : OpenClaim := { program := "ytfpmkihlfhpgdaa", sum := "d1a09dc668826f091feca3ecfecd4a35bca4fc333490d4628a9b0d786403b739", func := "curtilage/curtilagelaw13.ObjFinds", spec := "objFinds", unfollowed := true, recurses := true, apart := false }
def ObjFindsSaid : Prop := objFindsRow.holds Try.pinned (OpenSpec.ofChange objFindsSpec)

/-- ITS FALSE NEIGHBOUR: 'it returns false'. Refute it at one input. -/
def objFindsWrong : ChangeSpec := { name := "objFinds", fn := fun _ => fun
  | [d1, d2, d3] => { results := [.lit (.bool false)], args := [d1, d2, d3] }
  | _ => none }
def ObjFindsWrongFalsely : Prop := objFindsRow.holds Try.pinned (OpenSpec.ofChange objFindsWrong)

/-- 'curtilagelaw13.ObjSwaps': WHATEVER THE INPUT: true; the input reads as it did. -/
def objSwapsSpec : ChangeSpec := { name := "objSwaps", fn := fun _ => fun
  | [d1, d2, d3] => { results := [.lit (.bool true)], args := [d1, d2, d3] }
  | _ => none }
def objSwapsRow : OpenClaim := { program := "ytfpmkihlfhpgdaa", sum := "d1a09dc668826f091feca3ecfecd4a35bca4fc333490d4628a9b0d786403b739", func := "curtilage/curtilagelaw13.ObjSwaps", spec := "objSwaps", unfollowed := true, recurses := true, apart := false }
def ObjSwapsSaid : Prop := objSwapsRow.holds Try.pinned (OpenSpec.ofChange objSwapsSpec)

/-- ITS FALSE NEIGHBOUR: 'it returns false'. Refute it at one input. -/
def objSwapsWrong : ChangeSpec := { name := "objSwaps", fn := fun _ => fun
  | [d1, d2, d3] => { results := [.lit (.bool false)], args := [d1, d2, d3] }
  | _ => none }
def ObjSwapsWrongFalsely : Prop := objSwapsRow.holds Try.pinned (OpenSpec.ofChange objSwapsWrong)

/- THE SECOND FORM. 'bulk': how many values and letters a reading holds, each counted each time it is reached (what is shared counts as often as it is met; a slice's spare places count too). A statement '..UptoSaid' is the law's where the arguments, and the package variables that the reading takes, are together of bulk at most 1048576: NARROWER than '..Said'. Prove '..Said' where nothing that the law and all that it calls make is longer than what came in: it says more and counts as full. Else prove '..UptoSaid'. A law counts once. -/
mutual
def uptoBulk {H : Type} : DataW H → Nat
  | .lit (.string bytes) => bytes.length + 1
  | .lit _ => 1
  | .nil => 1
  | .ptr d => uptoBulk d + 1
  | .slice elems spare => uptoBulkAll elems + uptoBulkAll spare + 1
  | .agg parts => uptoBulkAll parts + 1
  | .iface _ d => uptoBulk d + 1
  | .map entries => uptoBulkEntries entries + 1
  | .held _ => 1
def uptoBulkAll {H : Type} : List (DataW H) → Nat
  | [] => 0
  | d :: r => uptoBulk d + uptoBulkAll r
def uptoBulkEntries {H : Type} : List (Lit × DataW H) → Nat
  | [] => 0
  | x :: r => uptoBulkEntry x + uptoBulkEntries r
def uptoBulkEntry {H : Type} : Lit × DataW H → Nat
  | (.string bytes, d) => bytes.length + uptoBulk d + 1
  | (_, d) => uptoBulk d + 1
 end
def uptoSmall : (H : Type) → List (DataW H) → Bool := fun _ ds => decide (uptoBulkAll ds ≤ 1048576)
def OpenSpec.upto (s : _root_.Go.ChangeSpec) : _root_.Go.OpenSpec := { _root_.Go.OpenSpec.ofChange s with cond := some uptoSmall }

/-- 'curtilagelaw13.ObjTells', WHERE WHAT IT READS IS OF BULK AT MOST 1048576: true; the input reads as it did. -/
def objTellsUptoRow : OpenClaim := { program := "ytfpmkihlfhpgdaa", sum := "d1a09dc668826f091feca3ecfecd4a35bca4fc333490d4628a9b0d786403b739", func := "curtilage/curtilagelaw13.ObjTells", spec := "objTells", unfollowed := true, recurses := true, apart := false, narrowed := true }
def ObjTellsUptoSaid : Prop := objTellsUptoRow.holds Try.pinned (OpenSpec.upto objTellsSpec)

/-- 'curtilagelaw13.ObjPuts', WHERE WHAT IT READS IS OF BULK AT MOST 1048576: true; the input reads as it did. -/
def objPutsUptoRow : OpenClaim := { program := "ytfpmkihlfhpgdaa", sum := "d1a09dc668826f091feca3ecfecd4a35bca4fc333490d4628a9b0d786403b739", func := "curtilage/curtilagelaw13.ObjPuts", spec := "objPuts", unfollowed := true, recurses := true, apart := false, narrowed := true }
def ObjPutsUptoSaid : Prop := objPutsUptoRow.holds Try.pinned (OpenSpec.upto objPutsSpec)

/-- 'curtilagelaw13.ObjFinds', WHERE WHAT IT READS IS OF BULK AT MOST 1048576: true; the input reads as it did. -/
def objFindsUptoRow : OpenClaim := { program := "ytfpmkihlfhpgdaa", sum := "d1a09dc668826f091feca3ecfecd4a35bca4fc333490d4628a9b0d786403b739", func := "curtilage/curtilagelaw13.ObjFinds", spec := "objFinds", unfollowed := true, recurses := true, apart := false, narrowed := true }
def ObjFindsUptoSaid : Prop := objFindsUptoRow.holds Try.pinned (OpenSpec.upto objFindsSpec)

/-- 'curtilagelaw13.ObjSwaps', WHERE WHAT IT READS IS OF BULK AT MOST 1048576: true; the input reads as it did. -/
def objSwapsUptoRow : OpenClaim := { program := "ytfpmkihlfhpgdaa", sum := "d1a09dc668826f091feca3ecfecd4a35bca4fc333490d4628a9b0d786403b739", func := "curtilage/curtilagelaw13.ObjSwaps", spec := "objSwaps", unfollowed := true, recurses := true, apart := false, narrowed := true }
def ObjSwapsUptoSaid : Prop := objSwapsUptoRow.holds Try.pinned (OpenSpec.upto objSwapsSpec)

end Rows
end Go.Proofs.Ytfpmkihlfhpgdaa
