/-
  No cell of these rows narrows 'for every input' (looked for: loops, veiled, ifaces, maps, wideKeys, modest, calm, conditions, laid).
  DERIVED. THE GIVEN ROWS OF THIS SEAT. 3 by the template 'for every input the law returns true; each argument reads behind the call as it read before'; 0 by the template 'total and deterministic' (their statements: YtlaagheeemkklaaTotals.lean).
  GIVEN WITH THE SEED: the statements are not yours to turn. If you find one false, say at which input.
  Laid BY PROGRAM, IN A SANDBOX (cutbox-rows.mjs): the forced cells as the released guide's own fill.sh prints them over the translation 6d5a0cf27ea3426a… (all of the seat's roots in one cut). By AI agents, Wed Nov 11 2026. No macro, syntax, notation, axiom, sorry.
-/
import Derived.Test.YtlaagheeemkklaaChecked
import GoSem.Claim
import GoSem.ClaimJoined
import GoSem.ClaimMapViews
import Derived.JoinedTies
import Derived.KernelRfl
namespace Go.Proofs.Ytlaagheeemkklaa
/- THE CELL 'sum', in the pinned program and in every row, IS THE sha256 OF THE DUMP (.gsa) THAT YtlaagheeemkklaaProg.lean LOADS. Nothing in Lean hashes anything: it is a label: what it is worth is what the hold of that sum in a sandbox is worth. -/
noncomputable def Try.pinned : Pinned := { name := "ytlaagheeemkklaa", sum := "6d5a0cf27ea3426a19c9b7d86d409976f61739ce27e826659d914f45731cf1d6", checked := Try.checked }
namespace Rows
def none {H : Type} : Left H := { results := [], args := [] }

/-- 'curtilagelaw16.SegDoes': WHATEVER THE INPUT: true; the input reads as it did. -/
def segDoesSpec : ChangeSpec := { name := "segDoes", fn := fun _ => fun
  | [d1, d2, d3, d4, d5, d6] => { results := [.lit (.bool true)], args := [d1, d2, d3, d4, d5, d6] }
  | _ => none }
def segDoesRow : OpenClaim := { program := "ytlaagheeemkklaa", sum := "6d5a0cf27ea3426a19c9b7d86d409976f61739ce27e826659d914f45731cf1d6", func := "curtilage/curtilagelaw16.SegDoes", spec := "segDoes", unfollowed := true, recurses := true, apart := false }
def SegDoesSaid : Prop := segDoesRow.holds Try.pinned (OpenSpec.ofChange segDoesSpec)

/-- ITS FALSE NEIGHBOUR: 'it returns false'. Refute it at one input. -/
def segDoesWrong : ChangeSpec := { name := "segDoes", fn := fun _ => fun
  | [d1, d2, d3, d4, d5, d6] => { results := [.lit (.bool false)], args := [d1, d2, d3, d4, d5, d6] }
  | _ => none }
def SegDoesWrongFalsely : Prop := segDoesRow.holds Try.pinned (OpenSpec.ofChange segDoesWrong)

/-- 'curtilagelaw16.SegFound': WHATEVER THE INPUT: true; the input reads as it did. -/
def segFoundSpec : ChangeSpec := { name := "segFound", fn := fun _ => fun
  | [d1, d2, d3, d4, d5] => { results := [.lit (.bool true)], args := [d1, d2, d3, d4, d5] }
  | _ => none }
def segFoundRow : OpenClaim := { program := "ytlaagheeemkklaa", sum := "6d5a0cf27ea3426a19c9b7d86d409976f61739ce27e826659d914f45731cf1d6", func := "curtilage/curtilagelaw16.SegFound", spec := "segFound", unfollowed := true, recurses := true, apart := false }
def SegFoundSaid : Prop := segFoundRow.holds Try.pinned (OpenSpec.ofChange segFoundSpec)

/-- ITS FALSE NEIGHBOUR: 'it returns false'. Refute it at one input. -/
def segFoundWrong : ChangeSpec := { name := "segFound", fn := fun _ => fun
  | [d1, d2, d3, d4, d5] => { results := [.lit (.bool false)], args := [d1, d2, d3, d4, d5] }
  | _ => none }
def SegFoundWrongFalsely : Prop := segFoundRow.holds Try.pinned (OpenSpec.ofChange segFoundWrong)

/-- 'curtilagelaw16.SegSwaps': WHATEVER THE INPUT: true; the input reads as it did. -/
def segSwapsSpec : ChangeSpec := { name := "segSwaps", fn := fun _ => fun
  | [d1, d2, d3, d4, d5, d6] => { results := [.lit (.bool true)], args := [d1, d2, d3, d4, d5, d6] }
  | _ => none }
def segSwapsRow : OpenClaim := { program := "ytlaagheeemkklaa", sum := "6d5a0cf27ea3426a19c9b7d86d409976f61739ce27e826659d914f45731cf1d6", func := "curtilage/curtilagelaw16.SegSwaps", spec := "segSwaps", unfollowed := true, recurses := true, apart := false }
def SegSwapsSaid : Prop := segSwapsRow.holds Try.pinned (OpenSpec.ofChange segSwapsSpec)

/-- ITS FALSE NEIGHBOUR: 'it returns false'. Refute it at one input. -/
def segSwapsWrong : ChangeSpec := { name := "segSwaps", fn := fun _ => fun
  | [d1, d2, d3, d4, d5, d6] => { results := [.lit (.bool false)], args := [d1, d2, d3, d4, d5, d6] }
  | _ => none }
def SegSwapsWrongFalsely : Prop := segSwapsRow.holds Try.pinned (OpenSpec.ofChange segSwapsWrong)

/- THE SECOND FORM. 'bulk': how many values and letters a reading holds, each counted each time it is reached (what is shared counts as often as it is met; a slice's spare places count too). A statement '..UptoSaid' is the law's where the arguments, and the package variables that the reading takes, are together of bulk at most 1048576: NARROWER than '..Said'. Prove '..Said' where nothing that the law and all that it calls make is longer than what came in: it says more and counts as full. Else prove '..UptoSaid'. A law counts once. -/
mutual
def uptoBulk {H : Type} : DataW H → Nat
  | .lit (.string bytes) => bytes.length + 1
  | .lit _ => 1
  | .nil => 1
  | .ptr d => uptoBulk d + 1
  | .slice elems spare => uptoBulkAll elems + uptoBulkAll spare + 1
  | .agg parts => uptoBulkAll parts + 1
  | .iface _ d => uptoBulk d + 1
  | .map entries => uptoBulkEntries entries + 1
  | .held _ => 1
def uptoBulkAll {H : Type} : List (DataW H) → Nat
  | [] => 0
  | d :: r => uptoBulk d + uptoBulkAll r
def uptoBulkEntries {H : Type} : List (Lit × DataW H) → Nat
  | [] => 0
  | x :: r => uptoBulkEntry x + uptoBulkEntries r
def uptoBulkEntry {H : Type} : Lit × DataW H → Nat
  | (.string bytes, d) => bytes.length + uptoBulk d + 1
  | (_, d) => uptoBulk d + 1
 end
def uptoSmall : (H : Type) → List (DataW H) → Bool := fun _ ds => decide (uptoBulkAll ds ≤ 1048576)
def OpenSpec.upto (s : _root_.Go.ChangeSpec) : _root_.Go.OpenSpec := { _root_.Go.OpenSpec.ofChange s with cond := some uptoSmall }

/-- 'curtilagelaw16.SegDoes', WHERE WHAT IT READS IS OF BULK AT MOST 1048576: true; the input reads as it did. -/
def segDoesUptoRow : OpenClaim := { program := "ytlaagheeemkklaa", sum := "6d5a0cf27ea3426a19c9b7d86d409976f61739ce27e826659d914f45731cf1d6", func := "curtilage/curtilagelaw16.SegDoes", spec := "segDoes", unfollowed := true, recurses := true, apart := false, narrowed := true }
def SegDoesUptoSaid : Prop := segDoesUptoRow.holds Try.pinned (OpenSpec.upto segDoesSpec)

/-- 'curtilagelaw16.SegFound', WHERE WHAT IT READS IS OF BULK AT MOST 1048576: true; the input reads as it did. -/
def segFoundUptoRow : OpenClaim := { program := "ytlaagheeemkklaa", sum := "6d5a0cf27ea3426a19c9b7d86d409976f61739ce27e826659d914f45731cf1d6", func := "curtilage/curtilagelaw16.SegFound", spec := "segFound", unfollowed := true, recurses := true, apart := false, narrowed := true }
def SegFoundUptoSaid : Prop := segFoundUptoRow.holds Try.pinned (OpenSpec.upto segFoundSpec)

/-- 'curtilagelaw16.SegSwaps', WHERE WHAT IT READS IS OF BULK AT MOST 1048576: true; the input reads as it did. -/
def segSwapsUptoRow : OpenClaim := { program := "ytlaagheeemkklaa", sum := "6d5a0cf27ea3426a19c9b7d86d409976f61739ce27e826659d914f45731cf1d6", func := "curtilage/curtilagelaw16.SegSwaps", spec := "segSwaps", unfollowed := true, recurses := true, apart := false, narrowed := true }
def SegSwapsUptoSaid : Prop := segSwapsUptoRow.holds Try.pinned (OpenSpec.upto segSwapsSpec)

end Rows
end Go.Proofs.Ytlaagheeemkklaa
