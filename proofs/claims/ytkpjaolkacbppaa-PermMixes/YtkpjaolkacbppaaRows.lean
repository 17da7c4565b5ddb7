/-
  No cell of these rows narrows 'for every input' (looked for: loops, veiled, ifaces, maps, wideKeys, modest, calm, conditions, laid).
  DERIVED. THE GIVEN ROWS OF THIS SEAT. 4 by the template 'for every input the law returns true; each argument reads behind the call as it read before'; 0 by the template 'total and deterministic' (their statements: YtkpjaolkacbppaaTotals.lean).
  GIVEN WITH THE SEED: the statements are not yours to turn. If you find one false, say at which input.
  Laid BY PROGRAM, IN A SANDBOX (cutbox-rows.mjs): the forced cells as the released guide's own fill.sh prints them over the translation feb481fde70505bf… (all of the seat's roots in one cut). By AI agents, Wed Nov 11 2026. No macro, syntax, notation, axiom, sorry.
-/
import Derived.Test.YtkpjaolkacbppaaChecked
import GoSem.Claim
import GoSem.ClaimJoined
import GoSem.ClaimMapViews
import Derived.JoinedTies
import Derived.KernelRfl
namespace Go.Proofs.Ytkpjaolkacbppaa
/- THE CELL 'sum', in the pinned program and in every row, IS THE sha256 OF THE DUMP (.gsa) THAT YtkpjaolkacbppaaProg.lean LOADS. Nothing in Lean hashes anything: it is a label: what it is worth is what the hold of that sum in a sandbox is worth. -/
noncomputable def Try.pinned : Pinned := { name := "ytkpjaolkacbppaa", sum := "feb481fde70505bf6bf077a4d88cfea6e3d14c9f478039dbeca2486a38c7e785", checked := Try.checked }
namespace Rows
def none {H : Type} : Left H := { results := [], args := [] }

/-- 'curtilagelaw06.PermNames': WHATEVER THE INPUT: true; the input reads as it did. -/
def permNamesSpec : ChangeSpec := { name := "permNames", fn := fun _ => fun
  | [d1, d2] => { results := [.lit (.bool true)], args := [d1, d2] }
  | _ => none }
def permNamesRow : OpenClaim := { program := "ytkpjaolkacbppaa", sum := "feb481fde70505bf6bf077a4d88cfea6e3d14c9f478039dbeca2486a38c7e785", func := "curtilage/curtilagelaw06.PermNames", spec := "permNames", unfollowed := true, recurses := true, apart := false }
def PermNamesSaid : Prop := permNamesRow.holds Try.pinned (OpenSpec.ofChange permNamesSpec)

/-- ITS FALSE NEIGHBOUR: 'it returns false'. Refute it at one input. -/
def permNamesWrong : ChangeSpec := { name := "permNames", fn := fun _ => fun
  | [d1, d2] => { results := [.lit (.bool false)], args := [d1, d2] }
  | _ => none }
def PermNamesWrongFalsely : Prop := permNamesRow.holds Try.pinned (OpenSpec.ofChange permNamesWrong)

/-- 'curtilagelaw06.PermBack': WHATEVER THE INPUT: true; the input reads as it did. -/
def permBackSpec : ChangeSpec := { name := "permBack", fn := fun _ => fun
  | [d1, d2, d3] => { results := [.lit (.bool true)], args := [d1, d2, d3] }
  | _ => none }
def permBackRow : OpenClaim := { program := "ytkpjaolkacbppaa", sum := "feb481fde70505bf6bf077a4d88cfea6e3d14c9f478039dbeca2486a38c7e785", func := "curtilage/curtilagelaw06.PermBack", spec := "permBack", unfollowed := true, recurses := true, apart := false }
def PermBackSaid : Prop := permBackRow.holds Try.pinned (OpenSpec.ofChange permBackSpec)

/-- ITS FALSE NEIGHBOUR: 'it returns false'. Refute it at one input. -/
def permBackWrong : ChangeSpec := { name := "permBack", fn := fun _ => fun
  | [d1, d2, d3] => { results := [.lit (.bool false)], args := [d1, d2, d3] }
  | _ => none }
def PermBackWrongFalsely : Prop := permBackRow.holds Try.pinned (OpenSpec.ofChange permBackWrong)

/-- 'curtilagelaw06.PermMixes': WHATEVER THE INPUT: true; the input reads as it did. -/
def permMixesSpec : ChangeSpec := { name := "permMixes", fn := fun _ => fun
  | [d1, d2] => { results := [.lit (.bool true)], args := [d1, d2] }
  | _ => none }
def permMixesRow : OpenClaim := { program := "ytkpjaolkacbppaa", sum := "feb481fde70505bf6bf077a4d88cfea6e3d14c9f478039dbeca2486a38c7e785", func := "curtilage/curtilagelaw06.PermMixes", spec := "permMixes", unfollowed := true, recurses := true, apart := false }
def PermMixesSaid : Prop := permMixesRow.holds Try.pinned (OpenSpec.ofChange permMixesSpec)

/-- ITS FALSE NEIGHBOUR: 'it returns false'. Refute it at one input. -/
def permMixesWrong : ChangeSpec := { name := "permMixes", fn := fun _ => fun
  | [d1, d2] => { results := [.lit (.bool false)], args := [d1, d2] }
  | _ => none }
def PermMixesWrongFalsely : Prop := permMixesRow.holds Try.pinned (OpenSpec.ofChange permMixesWrong)

/-- 'curtilagelaw06.PermBits': WHATEVER THE INPUT: true; the input reads as it did. -/
def permBitsSpec : ChangeSpec := { name := "permBits", fn := fun _ => fun
  | [d1, d2, d3, d4] => { results := [.lit (.bool true)], args := [d1, d2, d3, d4] }
  | _ => none }
def permBitsRow : OpenClaim := { program := "ytkpjaolkacbppaa", sum := "feb481fde70505bf6bf077a4d88cfea6e3d14c9f478039dbeca2486a38c7e785", func := "curtilage/curtilagelaw06.PermBits", spec := "permBits", unfollowed := true, recurses := true, apart := false }
def PermBitsSaid : Prop := permBitsRow.holds Try.pinned (OpenSpec.ofChange permBitsSpec)

/-- ITS FALSE NEIGHBOUR: 'it returns false'. Refute it at one input. -/
def permBitsWrong : ChangeSpec := { name := "permBits", fn := fun _ => fun
  | [d1, d2, d3, d4] => { results := [.lit (.bool false)], args := [d1, d2, d3, d4] }
  | _ => none }
def PermBitsWrongFalsely : Prop := permBitsRow.holds Try.pinned (OpenSpec.ofChange permBitsWrong)

/- THE SECOND FORM. 'bulk': how many values and letters a reading holds, each counted each time it is reached (what is shared counts as often as it is met; a slice's spare places count too). A statement '..UptoSaid' is the law's where the arguments, and the package variables that the reading takes, are together of bulk at most 1048576: NARROWER than '..Said'. Prove '..Said' where nothing that the law and all that it calls make is longer than what came in: it says more and counts as full. Else prove '..UptoSaid'. A law counts once. -/
mutual
def uptoBulk {H : Type} : DataW H → Nat
  | .lit (.string bytes) => bytes.length + 1
  | .lit _ => 1
  | .nil => 1
  | .ptr d => uptoBulk d + 1
  | .slice elems spare => uptoBulkAll elems + uptoBulkAll spare + 1
  | .agg parts => uptoBulkAll parts + 1
  | .iface _ d => uptoBulk d + 1
  | .map entries => uptoBulkEntries entries + 1
  | .held _ => 1
def uptoBulkAll {H : Type} : List (DataW H) → Nat
  | [] => 0
  | d :: r => uptoBulk d + uptoBulkAll r
def uptoBulkEntries {H : Type} : List (Lit × DataW H) → Nat
  | [] => 0
  | x :: r => uptoBulkEntry x + uptoBulkEntries r
def uptoBulkEntry {H : Type} : Lit × DataW H → Nat
  | (.string bytes, d) => bytes.length + uptoBulk d + 1
  | (_, d) => uptoBulk d + 1
 end
def uptoSmall : (H : Type) → List (DataW H) → Bool := fun _ ds => decide (uptoBulkAll ds ≤ 1048576)
def OpenSpec.upto (s : _root_.Go.ChangeSpec) : _root_.Go.OpenSpec := { _root_.Go.OpenSpec.ofChange s with cond := some uptoSmall }

/-- 'curtilagelaw06.PermNames', WHERE WHAT IT READS IS OF BULK AT MOST 1048576: true; the input reads as it did. -/
def permNamesUptoRow : OpenClaim := { program := "ytkpjaolkacbppaa", sum := "feb481fde70505bf6bf077a4d88cfea6e3d14c9f478039dbeca2486a38c7e785", func := "curtilage/curtilagelaw06.PermNames", spec := "permNames", unfollowed := true, recurses := true, apart := false, narrowed := true }
def PermNamesUptoSaid : Prop := permNamesUptoRow.holds Try.pinned (OpenSpec.upto permNamesSpec)

/-- 'curtilagelaw06.PermBack', WHERE WHAT IT READS IS OF BULK AT MOST 1048576: true; the input reads as it did. -/
def permBackUptoRow : OpenClaim := { program := "ytkpjaolkacbppaa", sum := "feb481fde70505bf6bf077a4d88cfea6e3d14c9f478039dbeca2486a38c7e785", func := "curtilage/curtilagelaw06.PermBack", spec := "permBack", unfollowed := true, recurses := true, apart := false, narrowed := true }
def PermBackUptoSaid : Prop := permBackUptoRow.holds Try.pinned (OpenSpec.upto permBackSpec)

/-- 'curtilagelaw06.PermMixes', WHERE WHAT IT READS IS OF BULK AT MOST 1048576: true; the input reads as it did. -/
def permMixesUptoRow : OpenClaim := { program := "ytkpjaolkacbppaa", sum := "feb481fde70505bf6bf077a4d88cfea6e3d14c9f478039dbeca2486a38c7e785", func := "curtilage/curtilagelaw06.PermMixes", spec := "permMixes", unfollowed := true, recurses := true, apart := false, narrowed := true }
def PermMixesUptoSaid : Prop := permMixesUptoRow.holds Try.pinned (OpenSpec.upto permMixesSpec)

/-- 'curtilagelaw06.PermBits', WHERE WHAT IT READS IS OF BULK AT MOST 1048576: true; the input reads as it did. -/
def permBitsUptoRow : OpenClaim := { program := "ytkpjaolkacbppaa", sum := "feb481fde70505bf6bf077a4d88cfea6e3d14c9f478039dbeca2486a38c7e785", func := "curtilage/curtilagelaw06.PermBits", spec := "permBits", unfollowed := true, recurses := true, apart := false, narrowed := true }
def PermBitsUptoSaid : Prop := permBitsUptoRow.holds Try.pinned (OpenSpec.upto permBitsSpec)

end Rows
end Go.Proofs.Ytkpjaolkacbppaa
