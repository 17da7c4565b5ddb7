/-
  No cell of these rows narrows 'for every input' (looked for: loops, veiled, ifaces, maps, wideKeys, modest, calm, conditions, laid).
  DERIVED. THE GIVEN ROWS OF THIS SEAT. 4 by the template 'for every input the law returns true; each argument reads behind the call as it read before'; 0 by the template 'total and deterministic' (their statements: YtloghnpfplljgaaGreatTotals.lean).
  GIVEN WITH THE SEED: the statements are not yours to turn. If you find one false, say at which input.
  Laid BY PROGRAM, IN A SANDBOX (cutbox-rows.mjs): the forced cells as the released guide's own fill.sh prints them over the translation 1c1fdd3917d83b7d… (all of the seat's roots in one cut). By AI agents, Wed Nov 11 2026. No macro, syntax, notation, axiom, sorry.
-/
import Derived.Test.YtloghnpfplljgaaGreatChecked
import GoSem.Claim
import GoSem.ClaimJoined
import GoSem.ClaimMapViews
import Derived.JoinedTies
import Derived.KernelRfl
namespace Go.Proofs.YtloghnpfplljgaaGreat
/- THE CELL 'sum', in the pinned program and in every row, IS THE sha256 OF THE DUMP (.gsa) THAT YtloghnpfplljgaaGreatProg.lean LOADS. Nothing in Lean hashes anything: it is a label: what it is worth is what the hold of that sum in a sandbox is worth. -/
noncomputable def Tryz.pinned : Pinned := { name := "ytloghnpfplljgaagreat", sum := "1c1fdd3917d83b7d6f65adcc4e85c8a1c8706efcea170306e427daafea0ea75e", checked := Tryz.checked }
namespace Rows
def none {H : Type} : Left H := { results := [], args := [] }

/-- 'curtilagelaw20.KobjDoes': WHATEVER THE INPUT: true; the input reads as it did. -/
def kobjDoesSpec : ChangeSpec := { name := "kobjDoes", fn := fun _ => fun
  | [d1, d2, d3, d4] => { results := [.lit (.bool true)], args := [d1, d2, d3, d4] }
  | _ => none }
def kobjDoesRow : OpenClaim := { program := "ytloghnpfplljgaagreat", sum := "1c1fdd3917d83b7d6f65adcc4e85c8a1c8706efcea170306e427daafea0ea75e", func := "curtilage/curtilagelaw20.KobjDoes", spec := "kobjDoes", unfollowed := true, recurses := true, apart := false }
def KobjDoesSaid : Prop := kobjDoesRow.holds Tryz.pinned (OpenSpec.ofChange kobjDoesSpec)

/-- ITS FALSE NEIGHBOUR: 'it returns false'. Refute it at one input. -/
def kobjDoesWrong : ChangeSpec := { name := "kobjDoes", fn := fun _ => fun
  | [d1, d2, d3, d4] => { results := [.lit (.bool false)], args := [d1, d2, d3, d4] }
  | _ => none }
def KobjDoesWrongFalsely : Prop := kobjDoesRow.holds Tryz.pinned (OpenSpec.ofChange kobjDoesWrong)

/-- 'curtilagelaw20.KobjMakes': WHATEVER THE INPUT: true; the input reads as it did. -/
def kobjMakesSpec : ChangeSpec := { name := "kobjMakes", fn := fun _ => fun
  | [d1, d2, d3, d4] => { results := [.lit (.bool true)], args := [d1, d2, d3, d4] }
  | _ => none }
def kobjMakesRow : OpenClaim := { program := "ytloghnpfplljgaagreat", sum := "1c1fdd3917d83b7d6f65adcc4e85c8a1c8706efcea170306e427daafea0ea75e", func := "curtilage/curtilagelaw20.KobjMakes", spec := "kobjMakes", unfollowed := true, recurses := true, apart := false }
def KobjMakesSaid : Prop := kobjMakesRow.holds Tryz.pinned (OpenSpec.ofChange kobjMakesSpec)

/-- ITS FALSE NEIGHBOUR: 'it returns false'. Refute it at one input. -/
def kobjMakesWrong : ChangeSpec := { name := "kobjMakes", fn := fun _ => fun
  | [d1, d2, d3, d4] => { results := [.lit (.bool false)], args := [d1, d2, d3, d4] }
  | _ => none }
def KobjMakesWrongFalsely : Prop := kobjMakesRow.holds Tryz.pinned (OpenSpec.ofChange kobjMakesWrong)

/-- 'curtilagelaw20.KobjLets': WHATEVER THE INPUT: true; the input reads as it did. -/
def kobjLetsSpec : ChangeSpec := { name := "kobjLets", fn := fun _ => fun
  | [d1, d2, d3, d4] => { results := [.lit (.bool true)], args := [d1, d2, d3, d4] }
  | _ => none }
def kobjLetsRow : OpenClaim := { program := "ytloghnpfplljgaagreat", sum := "1c1fdd3917d83b7d6f65adcc4e85c8a1c8706efcea170306e427daafea0ea75e", func := "curtilage/curtilagelaw20.KobjLets", spec := "kobjLets", unfollowed := true, recurses := true, apart := false }
def KobjLetsSaid : Prop := kobjLetsRow.holds Tryz.pinned (OpenSpec.ofChange kobjLetsSpec)

/-- ITS FALSE NEIGHBOUR: 'it returns false'. Refute it at one input. -/
def kobjLetsWrong : ChangeSpec := { name := "kobjLets", fn := fun _ => fun
  | [d1, d2, d3, d4] => { results := [.lit (.bool false)], args := [d1, d2, d3, d4] }
  | _ => none }
def KobjLetsWrongFalsely : Prop := kobjLetsRow.holds Tryz.pinned (OpenSpec.ofChange kobjLetsWrong)

/-- 'curtilagelaw20.KobjParts': WHATEVER THE INPUT: true; the input reads as it did. -/
def kobjPartsSpec : ChangeSpec := { name := "kobjParts", fn := fun _ => fun
  | [d1, d2, d3] => { results := [.lit (.bool true)], args := [d1, d2, d3] }
  | _ => none }
def kobjPartsRow : OpenClaim := { program := "ytloghnpfplljgaagreat", sum := "1c1fdd3917d83b7d6f65adcc4e85c8a1c8706efcea170306e427daafea0ea75e", func := "curtilage/curtilagelaw20.KobjParts", spec := "kobjParts", unfollowed := true, recurses := true, apart := false }
def KobjPartsSaid : Prop := kobjPartsRow.holds Tryz.pinned (OpenSpec.ofChange kobjPartsSpec)

/-- ITS FALSE NEIGHBOUR: 'it returns false'. Refute it at one input. -/
def kobjPartsWrong : ChangeSpec := { name := "kobjParts", fn := fun _ => fun
  | [d1, d2, d3] => { results := [.lit (.bool false)], args := [d1, d2, d3] }
  | _ => none }
def KobjPartsWrongFalsely : Prop := kobjPartsRow.holds Tryz.pinned (OpenSpec.ofChange kobjPartsWrong)

/- THE SECOND FORM. 'bulk': how many values and letters a reading holds, each counted each time it is reached (what is shared counts as often as it is met; a slice's spare places count too). A statement '..UptoSaid' is the law's where the arguments, and the package variables that the reading takes, are together of bulk at most 1048576: NARROWER than '..Said'. Prove '..Said' where nothing that the law and all that it calls make is longer than what came in: it says more and counts as full. Else prove '..UptoSaid'. A law counts once. -/
mutual
def uptoBulk {H : Type} : DataW H → Nat
  | .lit (.string bytes) => bytes.length + 1
  | .lit _ => 1
  | .nil => 1
  | .ptr d => uptoBulk d + 1
  | .slice elems spare => uptoBulkAll elems + uptoBulkAll spare + 1
  | .agg parts => uptoBulkAll parts + 1
  | .iface _ d => uptoBulk d + 1
  | .map entries => uptoBulkEntries entries + 1
  | .held _ => 1
def uptoBulkAll {H : Type} : List (DataW H) → Nat
  | [] => 0
  | d :: r => uptoBulk d + uptoBulkAll r
def uptoBulkEntries {H : Type} : List (Lit × DataW H) → Nat
  | [] => 0
  | x :: r => uptoBulkEntry x + uptoBulkEntries r
def uptoBulkEntry {H : Type} : Lit × DataW H → Nat
  | (.string bytes, d) => bytes.length + uptoBulk d + 1
  | (_, d) => uptoBulk d + 1
 end
def uptoSmall : (H : Type) → List (DataW H) → Bool := fun _ ds => decide (uptoBulkAll ds ≤ 1048576)
def OpenSpec.upto (s : _root_.Go.ChangeSpec) : _root_.Go.OpenSpec := { _root_.Go.OpenSpec.ofChange s with cond := some uptoSmall }

/-- 'curtilagelaw20.KobjDoes', WHERE WHAT IT READS IS OF BULK AT MOST 1048576: true; the input reads as it did. -/
def kobjDoesUptoRow : OpenClaim := { program := "ytloghnpfplljgaagreat", sum := "1c1fdd3917d83b7d6f65adcc4e85c8a1c8706efcea170306e427daafea0ea75e", func := "curtilage/curtilagelaw20.KobjDoes", spec := "kobjDoes", unfollowed := true, recurses := true, apart := false, narrowed := true }
def KobjDoesUptoSaid : Prop := kobjDoesUptoRow.holds Tryz.pinned (OpenSpec.upto kobjDoesSpec)

/-- 'curtilagelaw20.KobjMakes', WHERE WHAT IT READS IS OF BULK AT MOST 1048576: true; the input reads as it did. -/
def kobjMakesUptoRow : OpenClaim := { program := "ytloghnpfplljgaagreat", sum := "1c1fdd3917d83b7d6f65adcc4e85c8a1c8706efcea170306e427daafea0ea75e", func := "curtilage/curtilagelaw20.KobjMakes", spec := "kobjMakes", unfollowed := true, recurses := true, apart := false, narrowed := true }
def KobjMakesUptoSaid : Prop := kobjMakesUptoRow.holds Tryz.pinned (OpenSpec.upto kobjMakesSpec)

/-- 'curtilagelaw20.KobjLets', WHERE WHAT IT READS IS OF BULK AT MOST 1048576: true; the input reads as it did. -/
def kobjLetsUptoRow : OpenClaim := { program := "ytloghnpfplljgaagreat", sum := "1c1fdd3917d83b7d6f65adcc4e85c8a1c8706efcea170306e427daafea0ea75e", func := "curtilage/curtilagelaw20.KobjLets", spec := "kobjLets", unfollowed := true, recurses := true, apart := false, narrowed := true }
def KobjLetsUptoSaid : Prop := kobjLetsUptoRow.holds Tryz.pinned (OpenSpec.upto kobjLetsSpec)

/-- 'curtilagelaw20.KobjParts', WHERE WHAT IT READS IS OF BULK AT MOST 1048576: true; the input reads as it did. -/
def kobjPartsUptoRow : OpenClaim := { program := "ytloghnpfplljgaagreat", sum := "1c1fdd3917d83b7d6f65adcc4e85c8a1c8706efcea170306e427daafea0ea75e", func := "curtilage/curtilagelaw20.KobjParts", spec := "kobjParts", unfollowed := true, recurses := true, apart := false, narrowed := true }
def KobjPartsUptoSaid : Prop := kobjPartsUptoRow.holds Tryz.pinned (OpenSpec.upto kobjPartsSpec)

end Rows
end Go.Proofs.YtloghnpfplljgaaGreat
