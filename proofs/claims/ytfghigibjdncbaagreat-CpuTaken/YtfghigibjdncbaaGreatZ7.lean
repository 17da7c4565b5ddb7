/-
 PROVED HERE: a label that is handed in lies in memory as a list of pairs of integers (over this translation); the contracts. What is asked stands at each.
-/
import Derived.Test.YtfghigibjdncbaaGreatRows
import Derived.WalkKit
import Derived.ProofKit
import Derived.OpenShut
import Derived.Below
import Derived.Deep.SlicePairs
import Derived.Deep.RegionHeld
import Derived.Test.YtfghigibjdncbaaGreatZ1
import Derived.Test.YtfghigibjdncbaaGreatZ4
import Derived.Test.YtfghigibjdncbaaGreatZ5
import Derived.Test.YtfghigibjdncbaaGreatZ6
namespace Go.Proofs.YtfghigibjdncbaaGreat
set_option maxRecDepth 100000
set_option maxHeartbeats 8000000
open Go.ChangeShapes Go.WideShapes Go.ChangeAt Go.RowKit

theorem laidOut : laidOutB Tryz.prog = true := by kernel_rfl
def numV : Value → Int
 | .int _ n => n
 | _ => 0
theorem lab_of_trod {H : Type} {enc : TypeId × Value → H} {w : World} {ao : Option Addr} {n cap : Nat} {d : DataW H} {ps : List MemPlace}
  (h : DataW.Trod enc Tryz.prog w 0 (fun _ => true) true 34 (.slice ao n cap) d ps) : ∃ L, Lab w.heap.size w ao n cap L := by
 obtain ⟨fuel, hf⟩ := h
 rcases Go.Deep.open_slice_pairs Tryz.underlying34 Tryz.underlying112 (by kernel_rfl) rfl rfl (by kernel_rfl) (by kernel_rfl) hf with ⟨e, _⟩ | ⟨a, len, cap', m, n', V0, V1, D0, D1, P0, P1, e, hb, hl, hm, hmm, _, hx⟩
 ·simp [Value.cells] at e
  obtain ⟨rfl, rfl, rfl⟩ := e
  exact ⟨[], Lab.nil _ _⟩
 ·simp [Value.cells] at e
  obtain ⟨rfl, rfl, rfl⟩ := e
  have hmc : m = cap := by rw [hmm]; rfl
  have key : ∀ i, i < n → w.cell? (a.add (i * 2)) = some (.int .u64 (numV (V0 i))) ∧ w.cell? (a.add (i * 2 + 1)) = some (.int .i64 (numV (V1 i))) := by
   intro i hi
   obtain ⟨c0, c1, t0, t1⟩ := hx i (by omega)
   obtain ⟨x, hx0, _, _⟩ := DataW.trod_int Tryz.underlying22 t0
   obtain ⟨y, hy0, _, _⟩ := DataW.trod_int Tryz.underlying3 t1
   simp at hx0 hy0
   rw [hx0] at c0
   rw [hy0] at c1
   rw [hx0, hy0]
   exact ⟨c0, c1⟩
  refine ⟨(List.range n).map fun i => (numV (V0 i), numV (V1 i)), by simp, hl, ⟨by unfold maxLen at hm; omega, fun hz => by cases hz⟩, fun hn => ?_⟩
  have hs : a.spot = none := by
   have h0 := (key 0 hn).1
   have ha : a.add (0 * 2) = a := by simp [Addr.add]
   rw [ha] at h0
   unfold World.cell? at h0
   cases hsp : a.spot with
   | none => rfl
   | some s => split at h0 <;> simp [hsp] at h0
  have hea : a = ⟨a.block, a.off, none⟩ := by cases a; simp at hs; simp [hs]
  have hadd : ∀ j, a.add j = ⟨a.block, a.off + j, none⟩ := by
   intro j
   unfold Addr.add
   split
   ·rename_i hj; subst hj; rw [Nat.add_zero]; exact hea
   ·rfl
  refine ⟨a.block, a.off, by rw [← hea], ?_, fun i hi => ?_⟩
  ·have h0 := (key 0 hn).1
   have := World.block_lt_of_cell? w _ h0
   rwa [hadd] at this
  ·have hk := key i hi
   rw [hadd, hadd] at hk
   have hg : ((List.range n).map fun i => (numV (V0 i), numV (V1 i))).getD i (0, 0) = (numV (V0 i), numV (V1 i)) := by
    rw [List.getD_eq_getElem?_getD, List.getElem?_eq_getElem (by simpa using hi)]; simp
   rw [hg]
   exact ⟨hk.1, by rw [Nat.add_assoc]; exact hk.2⟩
end Go.Proofs.YtfghigibjdncbaaGreat
namespace Go.Proofs.YtfghigibjdncbaaGreat
set_option maxRecDepth 100000
set_option maxHeartbeats 8000000
open Go.ChangeShapes Go.WideShapes Go.ChangeAt Go.RowKit
set_option linter.unusedVariables false

def Labs (w : World) (ls : List (Option Addr × Nat × Nat × List (Int × Int))) : Prop := ∀ x ∈ ls, Lab w.heap.size w x.1 x.2.1 x.2.2.1 x.2.2.2
theorem Labs.nil (w : World) : Labs w [] := fun x hx => by cases hx
theorem Labs.next {w w' : World} {ls : List (Option Addr × Nat × Nat × List (Int × Int))} (h : Labs w ls) (k : Below w.heap.size w w') : Labs w' ls := fun x hx => (h x hx).next k
end Go.Proofs.YtfghigibjdncbaaGreat
