/-
  No cell of these rows narrows 'for every input' (looked for: loops, veiled, ifaces, maps, wideKeys, modest, calm, conditions, laid).
  DERIVED. THE GIVEN ROWS OF THIS SEAT. 4 by the template 'for every input the law returns true; each argument reads behind the call as it read before'; 0 by the template 'total and deterministic' (their statements: YtiiaohejldchdaaGreatTotals.lean).
  GIVEN WITH THE SEED: the statements are not yours to turn. If you find one false, say at which input.
  Laid BY PROGRAM, IN A SANDBOX (cutbox-rows.mjs): the forced cells as the released guide's own fill.sh prints them over the translation 3ecfeacea6cd4be6… (all of the seat's roots in one cut). By AI agents, Wed Nov 11 2026. No macro, syntax, notation, axiom, sorry.
-/
import Derived.Test.YtiiaohejldchdaaGreatChecked
import GoSem.Claim
import GoSem.ClaimJoined
import GoSem.ClaimMapViews
import Derived.JoinedTies
import Derived.KernelRfl
namespace Go.Proofs.YtiiaohejldchdaaGreat
/- THE CELL 'sum', in the pinned program and in every row, IS THE sha256 OF THE DUMP (.gsa) THAT YtiiaohejldchdaaGreatProg.lean LOADS. Nothing in Lean hashes anything: it is a label: what it is worth is what the hold of that sum in a sandbox is worth. -/
noncomputable def Tryz.pinned : Pinned := { name := "ytiiaohejldchdaagreat", sum := "3ecfeacea6cd4be63440982ceff15b69d1940d1338142aaef08ed8da4a81c864", checked := Tryz.checked }
namespace Rows
def none {H : Type} : Left H := { results := [], args := [] }

/-- 'curtilagelaw18.MemDoes': WHATEVER THE INPUT: true; the input reads as it did. -/
def memDoesSpec : ChangeSpec := { name := "memDoes", fn := fun _ => fun
  | [d1, d2, d3, d4] => { results := [.lit (.bool true)], args := [d1, d2, d3, d4] }
  | _ => none }
def memDoesRow : OpenClaim := { program := "ytiiaohejldchdaagreat", sum := "3ecfeacea6cd4be63440982ceff15b69d1940d1338142aaef08ed8da4a81c864", func := "curtilage/curtilagelaw18.MemDoes", spec := "memDoes", unfollowed := true, recurses := true, apart := false }
def MemDoesSaid : Prop := memDoesRow.holds Tryz.pinned (OpenSpec.ofChange memDoesSpec)

/-- ITS FALSE NEIGHBOUR: 'it returns false'. Refute it at one input. -/
def memDoesWrong : ChangeSpec := { name := "memDoes", fn := fun _ => fun
  | [d1, d2, d3, d4] => { results := [.lit (.bool false)], args := [d1, d2, d3, d4] }
  | _ => none }
def MemDoesWrongFalsely : Prop := memDoesRow.holds Tryz.pinned (OpenSpec.ofChange memDoesWrong)

/-- 'curtilagelaw18.MemStores': WHATEVER THE INPUT: true; the input reads as it did. -/
def memStoresSpec : ChangeSpec := { name := "memStores", fn := fun _ => fun
  | [d1, d2, d3, d4, d5, d6] => { results := [.lit (.bool true)], args := [d1, d2, d3, d4, d5, d6] }
  | _ => none }
def memStoresRow : OpenClaim := { program := "ytiiaohejldchdaagreat", sum := "3ecfeacea6cd4be63440982ceff15b69d1940d1338142aaef08ed8da4a81c864", func := "curtilage/curtilagelaw18.MemStores", spec := "memStores", unfollowed := true, recurses := true, apart := false }
def MemStoresSaid : Prop := memStoresRow.holds Tryz.pinned (OpenSpec.ofChange memStoresSpec)

/-- ITS FALSE NEIGHBOUR: 'it returns false'. Refute it at one input. -/
def memStoresWrong : ChangeSpec := { name := "memStores", fn := fun _ => fun
  | [d1, d2, d3, d4, d5, d6] => { results := [.lit (.bool false)], args := [d1, d2, d3, d4, d5, d6] }
  | _ => none }
def MemStoresWrongFalsely : Prop := memStoresRow.holds Tryz.pinned (OpenSpec.ofChange memStoresWrong)

/-- 'curtilagelaw18.MemWithin': WHATEVER THE INPUT: true; the input reads as it did. -/
def memWithinSpec : ChangeSpec := { name := "memWithin", fn := fun _ => fun
  | [d1, d2, d3, d4] => { results := [.lit (.bool true)], args := [d1, d2, d3, d4] }
  | _ => none }
def memWithinRow : OpenClaim := { program := "ytiiaohejldchdaagreat", sum := "3ecfeacea6cd4be63440982ceff15b69d1940d1338142aaef08ed8da4a81c864", func := "curtilage/curtilagelaw18.MemWithin", spec := "memWithin", unfollowed := true, recurses := true, apart := false }
def MemWithinSaid : Prop := memWithinRow.holds Tryz.pinned (OpenSpec.ofChange memWithinSpec)

/-- ITS FALSE NEIGHBOUR: 'it returns false'. Refute it at one input. -/
def memWithinWrong : ChangeSpec := { name := "memWithin", fn := fun _ => fun
  | [d1, d2, d3, d4] => { results := [.lit (.bool false)], args := [d1, d2, d3, d4] }
  | _ => none }
def MemWithinWrongFalsely : Prop := memWithinRow.holds Tryz.pinned (OpenSpec.ofChange memWithinWrong)

/-- 'curtilagelaw18.MemSwaps': WHATEVER THE INPUT: true; the input reads as it did. -/
def memSwapsSpec : ChangeSpec := { name := "memSwaps", fn := fun _ => fun
  | [d1, d2, d3, d4, d5, d6] => { results := [.lit (.bool true)], args := [d1, d2, d3, d4, d5, d6] }
  | _ => none }
def memSwapsRow : OpenClaim := { program := "ytiiaohejldchdaagreat", sum := "3ecfeacea6cd4be63440982ceff15b69d1940d1338142aaef08ed8da4a81c864", func := "curtilage/curtilagelaw18.MemSwaps", spec := "memSwaps", unfollowed := true, recurses := true, apart := false }
def MemSwapsSaid : Prop := memSwapsRow.holds Tryz.pinned (OpenSpec.ofChange memSwapsSpec)

/-- ITS FALSE NEIGHBOUR: 'it returns false'. Refute it at one input. -/
def memSwapsWrong : ChangeSpec := { name := "memSwaps", fn := fun _ => fun
  | [d1, d2, d3, d4, d5, d6] => { results := [.lit (.bool false)], args := [d1, d2, d3, d4, d5, d6] }
  | _ => none }
def MemSwapsWrongFalsely : Prop := memSwapsRow.holds Tryz.pinned (OpenSpec.ofChange memSwapsWrong)

/- THE SECOND FORM. 'bulk': how many values and letters a reading holds, each counted each time it is reached (what is shared counts as often as it is met; a slice's spare places count too). A statement '..UptoSaid' is the law's where the arguments, and the package variables that the reading takes, are together of bulk at most 1048576: NARROWER than '..Said'. Prove '..Said' where nothing that the law and all that it calls make is longer than what came in: it says more and counts as full. Else prove '..UptoSaid'. A law counts once. -/
mutual
def uptoBulk {H : Type} : DataW H → Nat
  | .lit (.string bytes) => bytes.length + 1
  | .lit _ => 1
  | .nil => 1
  | .ptr d => uptoBulk d + 1
  | .slice elems spare => uptoBulkAll elems + uptoBulkAll spare + 1
  | .agg parts => uptoBulkAll parts + 1
  | .iface _ d => uptoBulk d + 1
  | .map entries => uptoBulkEntries entries + 1
  | .held _ => 1
def uptoBulkAll {H : Type} : List (DataW H) → Nat
  | [] => 0
  | d :: r => uptoBulk d + uptoBulkAll r
def uptoBulkEntries {H : Type} : List (Lit × DataW H) → Nat
  | [] => 0
  | x :: r => uptoBulkEntry x + uptoBulkEntries r
def uptoBulkEntry {H : Type} : Lit × DataW H → Nat
  | (.string bytes, d) => bytes.length + uptoBulk d + 1
  | (_, d) => uptoBulk d + 1
 end
def uptoSmall : (H : Type) → List (DataW H) → Bool := fun _ ds => decide (uptoBulkAll ds ≤ 1048576)
def OpenSpec.upto (s : _root_.Go.ChangeSpec) : _root_.Go.OpenSpec := { _root_.Go.OpenSpec.ofChange s with cond := some uptoSmall }

/-- 'curtilagelaw18.MemDoes', WHERE WHAT IT READS IS OF BULK AT MOST 1048576: true; the input reads as it did. -/
def memDoesUptoRow : OpenClaim := { program := "ytiiaohejldchdaagreat", sum := "3ecfeacea6cd4be63440982ceff15b69d1940d1338142aaef08ed8da4a81c864", func := "curtilage/curtilagelaw18.MemDoes", spec := "memDoes", unfollowed := true, recurses := true, apart := false, narrowed := true }
def MemDoesUptoSaid : Prop := memDoesUptoRow.holds Tryz.pinned (OpenSpec.upto memDoesSpec)

/-- 'curtilagelaw18.MemStores', WHERE WHAT IT READS IS OF BULK AT MOST 1048576: true; the input reads as it did. -/
def memStoresUptoRow : OpenClaim := { program := "ytiiaohejldchdaagreat", sum := "3ecfeacea6cd4be63440982ceff15b69d1940d1338142aaef08ed8da4a81c864", func := "curtilage/curtilagelaw18.MemStores", spec := "memStores", unfollowed := true, recurses := true, apart := false, narrowed := true }
def MemStoresUptoSaid : Prop := memStoresUptoRow.holds Tryz.pinned (OpenSpec.upto memStoresSpec)

/-- 'curtilagelaw18.MemWithin', WHERE WHAT IT READS IS OF BULK AT MOST 1048576: true; the input reads as it did. -/
def memWithinUptoRow : OpenClaim := { program := "ytiiaohejldchdaagreat", sum := "3ecfeacea6cd4be63440982ceff15b69d1940d1338142aaef08ed8da4a81c864", func := "curtilage/curtilagelaw18.MemWithin", spec := "memWithin", unfollowed := true, recurses := true, apart := false, narrowed := true }
def MemWithinUptoSaid : Prop := memWithinUptoRow.holds Tryz.pinned (OpenSpec.upto memWithinSpec)

/-- 'curtilagelaw18.MemSwaps', WHERE WHAT IT READS IS OF BULK AT MOST 1048576: true; the input reads as it did. -/
def memSwapsUptoRow : OpenClaim := { program := "ytiiaohejldchdaagreat", sum := "3ecfeacea6cd4be63440982ceff15b69d1940d1338142aaef08ed8da4a81c864", func := "curtilage/curtilagelaw18.MemSwaps", spec := "memSwaps", unfollowed := true, recurses := true, apart := false, narrowed := true }
def MemSwapsUptoSaid : Prop := memSwapsUptoRow.holds Tryz.pinned (OpenSpec.upto memSwapsSpec)

end Rows
end Go.Proofs.YtiiaohejldchdaaGreat
