/-
 PROVED HERE: maps that are handed in lie in memory as lists of six fields each, and one map is its six fields (over this tr. What is asked stands at each.
-/
import Derived.Test.YtloghnpfplljgaaGreatRows
import Derived.WalkKit
import Derived.ProofKit
import Derived.OpenShut
import Derived.Below
import Derived.Deep.SlicePairs
import Derived.Test.YtloghnpfplljgaaGreatZ2
namespace Go.Proofs.YtloghnpfplljgaaGreat
set_option maxRecDepth 100000
set_option maxHeartbeats 8000000
set_option linter.unusedVariables false
open Go.Proofs.Tryz
namespace PgM
open Go.ChangeShapes Go.WideShapes Go.ChangeAt Go.RowKit
open Pg
variable {w : World}
theorem spotK {a : Addr} {v : Value} (h : w.cell? a = some v) : a = ⟨a.block, a.off, none⟩ ∧ ∀ j, a.add j = ⟨a.block, a.off + j, none⟩ := by
 have hs : a.spot = none := by
  unfold World.cell? at h
  cases hsp : a.spot with
  | none => rfl
  | some s => split at h <;> simp [hsp] at h
 have hea : a = ⟨a.block, a.off, none⟩ := by cases a; simp at hs; simp [hs]
 refine ⟨hea, fun j => ?_⟩
 unfold Addr.add
 split
 ·rename_i hj; subst hj; rw [Nat.add_zero]; exact hea
 ·rfl
theorem vLz {H : Type} {enc : TypeId × Value → H} {x0 x1 x2 x3 x4 x5 : Value} {fuel : Nat} {y : DataW H × List MemPlace} (h : DataW.trod enc prog w 0 (fun _ => true) true fuel 115 [x0, x1, x2, x3, x4, x5] = some y) :
  ∃ m : Mp, #[x0, x1, x2, x3, x4, x5] = mpV m ∧ m.ok := by
 have ci : prog.cellsOf 3 = 1 := by kernel_rfl
 have cu : prog.cellsOf 22 = 1 := by kernel_rfl
 have cb : prog.cellsOf 4 = 1 := by kernel_rfl
 obtain ⟨xs, m', _, _, _, hl, hg⟩ := DataW.trod_struct underlying115 h
 obtain ⟨y0, y1, y2, y3, y4, y5, rfl⟩ : ∃ y0 y1 y2 y3 y4 y5, xs = [y0, y1, y2, y3, y4, y5] := by
  match xs, hl with
  | [y0, y1, y2, y3, y4, y5], _ => exact ⟨y0, y1, y2, y3, y4, y5, rfl⟩
 have t0 : DataW.trod enc prog w 0 (fun _ => true) true m' 3 (([x0, x1, x2, x3, x4, x5].drop 0).take (prog.cellsOf 3)) = some y0 := hg 0 _ rfl
 have t1 : DataW.trod enc prog w 0 (fun _ => true) true m' 3 (([x0, x1, x2, x3, x4, x5].drop 1).take (prog.cellsOf 3)) = some y1 := hg 1 _ rfl
 have t2 : DataW.trod enc prog w 0 (fun _ => true) true m' 22 (([x0, x1, x2, x3, x4, x5].drop 2).take (prog.cellsOf 22)) = some y2 := hg 2 _ rfl
 have t3 : DataW.trod enc prog w 0 (fun _ => true) true m' 22 (([x0, x1, x2, x3, x4, x5].drop 3).take (prog.cellsOf 22)) = some y3 := hg 3 _ rfl
 have t4 : DataW.trod enc prog w 0 (fun _ => true) true m' 3 (([x0, x1, x2, x3, x4, x5].drop 4).take (prog.cellsOf 3)) = some y4 := hg 4 _ rfl
 have t5 : DataW.trod enc prog w 0 (fun _ => true) true m' 4 (([x0, x1, x2, x3, x4, x5].drop 5).take (prog.cellsOf 4)) = some y5 := hg 5 _ rfl
 rw [ci] at t0 t1 t4
 rw [cu] at t2 t3
 rw [cb] at t5
 have t0' : DataW.trod enc prog w 0 (fun _ => true) true m' 3 [x0] = some y0 := t0
 have t1' : DataW.trod enc prog w 0 (fun _ => true) true m' 3 [x1] = some y1 := t1
 have t2' : DataW.trod enc prog w 0 (fun _ => true) true m' 22 [x2] = some y2 := t2
 have t3' : DataW.trod enc prog w 0 (fun _ => true) true m' 22 [x3] = some y3 := t3
 have t4' : DataW.trod enc prog w 0 (fun _ => true) true m' 3 [x4] = some y4 := t4
 have t5' : DataW.trod enc prog w 0 (fun _ => true) true m' 4 [x5] = some y5 := t5
 have key : ∀ {v : Value} {y : DataW H × List MemPlace}, DataW.trod enc prog w 0 (fun _ => true) true m' 3 [v] = some y → ∃ a : Int, v = .int .i64 a ∧ Pg.I64 a := by
  intro v y h
  obtain ⟨n, e, _, hw⟩ := DataW.trod_int underlying3 h
  simp at e
  have h' : -9223372036854775808 ≤ n ∧ n ≤ 9223372036854775807 := by simpa [Lit.wf, IntKind.min, IntKind.max, IntKind.bits, IntKind.signed] using hw
  exact ⟨n, e, h'⟩
 have keyU : ∀ {v : Value} {y : DataW H × List MemPlace}, DataW.trod enc prog w 0 (fun _ => true) true m' 22 [v] = some y → ∃ a : Int, v = .int .u64 a := by
  intro v y h
  obtain ⟨n, e, _, hw⟩ := DataW.trod_int underlying22 h
  simp at e
  exact ⟨n, e⟩
 obtain ⟨a0, rfl, k0⟩ := key t0'
 obtain ⟨a1, rfl, k1⟩ := key t1'
 obtain ⟨a2, rfl⟩ := keyU t2'
 obtain ⟨a3, rfl⟩ := keyU t3'
 obtain ⟨a4, rfl, k4⟩ := key t4'
 obtain ⟨a5, e5, _⟩ := DataW.trod_bool underlying4 t5'
 simp at e5
 subst e5
 exact ⟨⟨a0, a1, a2, a3, a4, a5⟩, rfl, k0, k1, k4⟩
theorem mps_of_trod {H : Type} {enc : TypeId × Value → H} {ao : Option Addr} {n cap : Nat} {d : DataW H} {ps : List MemPlace}
  (h : DataW.Trod enc prog w 0 (fun _ => true) true 41 (.slice ao n cap) d ps) : ∃ l, Mps w.heap.size w ao n cap l := by
 obtain ⟨fuel, hf⟩ := h
 have c6 : prog.cellsOf 115 = 6 := by kernel_rfl
 rcases Go.Deep.open_slice underlying41 hf with ⟨e, _⟩ | ⟨a, len, cap', m, n', D, Pl, e, hb, hl, hm, hmm, hdd, hx⟩
 ·simp [Value.cells] at e
  obtain ⟨rfl, rfl, rfl⟩ := e
  exact ⟨[], Mps.nil _ _⟩
 ·simp [Value.cells] at e
  obtain ⟨rfl, rfl, rfl⟩ := e
  have hmc : m = cap := by rw [hmm]; rfl
  have key : ∀ i, ∃ x : Mp, i < n → (∀ j v, (mpV x)[j]? = some v → w.cell? ((a.add (i * 6)).add j) = some v) := by
   intro i
   by_cases hi : i < n
   ·obtain ⟨cs, h1, h2⟩ := hx i (by omega)
    rw [c6] at h1
    obtain ⟨_, hlen, hcell⟩ := World.cells?_some h1
    obtain ⟨x0, x1, x2, x3, x4, x5, rfl⟩ : ∃ x0 x1 x2 x3 x4 x5, cs = [x0, x1, x2, x3, x4, x5] := by
     match cs, hlen with
     | [x0, x1, x2, x3, x4, x5], _ => exact ⟨x0, x1, x2, x3, x4, x5, rfl⟩
    obtain ⟨mp, hmp, _⟩ := vLz h2
    refine ⟨mp, fun _ j v hv => ?_⟩
    have hj : j < 6 := (Array.getElem?_eq_some_iff.1 hv).1
    rw [hcell j hj]
    rw [← hmp] at hv
    simpa using hv
   ·exact ⟨default, fun h => absurd h hi⟩
  refine ⟨(List.range n).map fun i => Classical.choose (key i), by simp, hl, ⟨by unfold maxLen at hm; omega, fun e => by cases e⟩, fun hn => ?_⟩
  obtain ⟨v0, z⟩ : ∃ v0, w.cell? ((a.add (0 * 6)).add 0) = some v0 := ⟨_, (Classical.choose_spec (key 0) hn) 0 _ rfl⟩
  have ha0 : (a.add (0 * 6)).add 0 = a := by simp [Addr.add]
  rw [ha0] at z
  obtain ⟨hea, hadd⟩ := spotK z
  refine ⟨a.block, a.off, by rw [← hea], World.block_lt_of_cell? w _ z, fun i hi j v hv => ?_⟩
  have hg : mat ((List.range n).map fun i => Classical.choose (key i)) i = Classical.choose (key i) := by
   unfold mat; rw [List.getD_eq_getElem?_getD, List.getElem?_eq_getElem (by simpa using hi)]; simp
  rw [hg] at hv
  have q := (Classical.choose_spec (key i) hi) j v hv
  have e2 : (a.add (i * 6)).add j = ⟨a.block, a.off + i * 6 + j, none⟩ := by
   rw [hadd]
   unfold Addr.add
   split
   ·rename_i h0; subst h0; rfl
   ·rfl
  rw [e2] at q
  exact q
end PgM
end Go.Proofs.YtloghnpfplljgaaGreat
