/-
 PROVED HERE: a label that is handed in lies in memory as a list of pairs of integers (over this translation); plain facts o. What is asked stands at each.
-/
import Derived.Test.YtlaagheeemkklaaRows
import Derived.WalkKit
import Derived.ProofKit
import Derived.OpenShut
import Derived.Below
import Derived.Deep.SlicePairs
import Derived.Deep.RegionHeld
import Derived.OrdersHeld
import Derived.OrdersIn
import Derived.RangeFuncCalls
import Derived.RangeFuncNested
import Derived.OwnWalkIn
import Derived.WalkSpells
import Derived.Deep.RegionHeld3
import Derived.Deep.AppendLies
import Derived.Test.YtlaagheeemkklaaZ0
import Derived.Test.YtlaagheeemkklaaZ4
import Derived.Test.YtlaagheeemkklaaZ5
import Derived.Test.YtlaagheeemkklaaZ6
namespace Go.Proofs.Ytlaagheeemkklaa
set_option maxRecDepth 100000
set_option maxHeartbeats 8000000
open Go.ChangeShapes Go.WideShapes Go.ChangeAt Go.RowKit

theorem laidOut : laidOutB Try.prog = true := by kernel_rfl
def numV : Value → Int
 | .int _ n => n
 | _ => 0
theorem lab_of_trod {H : Type} {enc : TypeId × Value → H} {w : World} {ao : Option Addr} {n cap : Nat} {d : DataW H} {ps : List MemPlace}
  (h : DataW.Trod enc Try.prog w 0 (fun _ => true) true 24 (.slice ao n cap) d ps) : ∃ L, Lab w.heap.size w ao n cap L := by
 obtain ⟨fuel, hf⟩ := h
 rcases Go.Deep.open_slice_pairs Try.underlying24 Try.underlying80 (by kernel_rfl) rfl rfl (by kernel_rfl) (by kernel_rfl) hf with ⟨e, _⟩ | ⟨a, len, cap', m, n', V0, V1, D0, D1, P0, P1, e, hb, hl, hm, hmm, _, hx⟩
 ·simp [Value.cells] at e
  obtain ⟨rfl, rfl, rfl⟩ := e
  exact ⟨[], Lab.nil _ _⟩
 ·simp [Value.cells] at e
  obtain ⟨rfl, rfl, rfl⟩ := e
  have hmc : m = cap := by rw [hmm]; rfl
  have key : ∀ i, i < n → w.cell? (a.add (i * 2)) = some (.int .u64 (numV (V0 i))) ∧ w.cell? (a.add (i * 2 + 1)) = some (.int .i64 (numV (V1 i))) := by
   intro i hi
   obtain ⟨c0, c1, t0, t1⟩ := hx i (by omega)
   obtain ⟨x, hx0, _, _⟩ := DataW.trod_int Try.underlying22 t0
   obtain ⟨y, hy0, _, _⟩ := DataW.trod_int Try.underlying3 t1
   simp at hx0 hy0
   rw [hx0] at c0
   rw [hy0] at c1
   rw [hx0, hy0]
   exact ⟨c0, c1⟩
  refine ⟨(List.range n).map fun i => (numV (V0 i), numV (V1 i)), by simp, hl, ⟨by unfold maxLen at hm; omega, fun hz => by cases hz⟩, fun hn => ?_⟩
  have hs : a.spot = none := by
   have h0 := (key 0 hn).1
   have ha : a.add (0 * 2) = a := by simp [Addr.add]
   rw [ha] at h0
   unfold World.cell? at h0
   cases hsp : a.spot with
   | none => rfl
   | some s => split at h0 <;> simp [hsp] at h0
  have hea : a = ⟨a.block, a.off, none⟩ := by cases a; simp at hs; simp [hs]
  have hadd : ∀ j, a.add j = ⟨a.block, a.off + j, none⟩ := by
   intro j
   unfold Addr.add
   split
   ·rename_i hj; subst hj; rw [Nat.add_zero]; exact hea
   ·rfl
  refine ⟨a.block, a.off, by rw [← hea], ?_, fun i hi => ?_⟩
  ·have h0 := (key 0 hn).1
   have := World.block_lt_of_cell? w _ h0
   rwa [hadd] at this
  ·have hk := key i hi
   rw [hadd, hadd] at hk
   have hg : ((List.range n).map fun i => (numV (V0 i), numV (V1 i))).getD i (0, 0) = (numV (V0 i), numV (V1 i)) := by
    rw [List.getD_eq_getElem?_getD, List.getElem?_eq_getElem (by simpa using hi)]; simp
   rw [hg]
   exact ⟨hk.1, by rw [Nat.add_assoc]; exact hk.2⟩
end Go.Proofs.Ytlaagheeemkklaa
namespace Go.Proofs.Ytlaagheeemkklaa
set_option maxRecDepth 100000
set_option maxHeartbeats 8000000

theorem mem_of_get {L : List (Int × Int)} {k : Int} (h : get L k ≠ 2) : ∃ p ∈ L, p.1 = k ∧ p.2 = get L k := by
 induction L with
 | nil => simp [get] at h
 | cons p r ih =>
  simp only [get] at h ⊢
  by_cases hp : p.1 = k
  ·rw [if_pos hp]; exact ⟨p, by simp, hp, rfl⟩
  ·rw [if_neg hp] at h ⊢
   obtain ⟨q, h1, h2, h3⟩ := ih h
   exact ⟨q, by simp [h1], h2, h3⟩
theorem rleq_eq {A C : List (Int × Int)} (hA : Fit A) (hC : Fit C) : rleqB A C = leqB A C := by
 obtain ⟨b, rA⟩ := hA.rc
 obtain ⟨b', rC⟩ := hC.rc
 have key : ∀ k, Lv.leq (get A k) (get C k) = true ↔ get A k ≤ get C k := by
  intro k
  have h1 := hA.range k
  have h2 := hC.range k
  rw [Lv.leq_iff, Lv.lv_of h1.1 h1.2, Lv.lv_of h2.1 h2.2]
 rw [Bool.eq_iff_iff, leqB_iff hA hC]
 unfold rleqB
 rw [Bool.and_eq_true, List.all_eq_true, List.all_eq_true]
 constructor
 ·rintro ⟨h1, h2⟩ k
  by_cases hk : get A k = 2
  ·by_cases hk' : get C k = 2
   ·omega
   ·obtain ⟨q, hq, rfl, e⟩ := mem_of_get hk'
    have := h2 q hq
    rw [e] at this
    exact (key _).1 this
  ·obtain ⟨p, hp, rfl, e⟩ := mem_of_get hk
   have := h1 p hp
   rw [e] at this
   exact (key _).1 this
 ·intro h
  refine ⟨fun p hp => ?_, fun q hq => ?_⟩
  ·have e := get_mem rA hp
   have := (key p.1).2 (h p.1)
   rwa [e] at this
  ·have e := get_mem rC hq
   have := (key q.1).2 (h q.1)
   rwa [e] at this
end Go.Proofs.Ytlaagheeemkklaa
