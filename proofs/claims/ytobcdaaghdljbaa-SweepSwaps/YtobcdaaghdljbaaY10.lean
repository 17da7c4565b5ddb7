/-
 PROVED HERE: objects and worlds that are handed in lie in memory as records of numbers and lists (over this translation). What is asked stands at each.
-/
import Derived.Test.YtobcdaaghdljbaaRows
import Derived.WalkKit
import Derived.ProofKit
import Derived.OpenShut
import Derived.Below
import Derived.Deep.Slices
import Derived.Deep.SlicePairs
import Derived.Test.YtobcdaaghdljbaaY2
import Derived.Test.YtobcdaaghdljbaaY8
import Derived.Test.YtobcdaaghdljbaaY9
namespace Go.Proofs.Ytobcdaaghdljbaa
set_option maxRecDepth 100000
set_option maxHeartbeats 8000000
open Go.ChangeShapes Go.WideShapes Go.ChangeAt Go.RowKit
set_option linter.unusedVariables false

section
variable {H : Type} {enc : TypeId × Value → H} {w : World} {m : Nat} {y : DataW H × List MemPlace}
theorem one_cell {cs : List Value} {o : Nat} (h : o < cs.length) : (cs.drop o).take 1 = [cs[o]] := by
 rw [List.drop_eq_getElem_cons h]; rfl
theorem f_int {cs : List Value} {o : Nat} {t : TypeId} {k : IntKind} (ho : o < cs.length) (hc : Try.prog.cellsOf t = 1) (hu : Try.prog.underlying t = some (.int k)) (h : DataW.trod enc Try.prog w 0 (fun _ => true) true m t ((cs.drop o).take (Try.prog.cellsOf t)) = some y) : ∃ n, cs[o]? = some (.int k n) := by
 rw [hc, one_cell ho] at h
 obtain ⟨n, e, _, _⟩ := DataW.trod_int hu h
 simp at e
 exact ⟨n, by rw [List.getElem?_eq_getElem ho, e]⟩
theorem f_bool {cs : List Value} {o : Nat} (ho : o < cs.length) (h : DataW.trod enc Try.prog w 0 (fun _ => true) true m 4 ((cs.drop o).take (Try.prog.cellsOf 4)) = some y) : ∃ n, cs[o]? = some (.bool n) := by
 rw [show Try.prog.cellsOf 4 = 1 from by kernel_rfl, one_cell ho] at h
 obtain ⟨n, e, _⟩ := DataW.trod_bool Try.underlying4 h
 simp at e
 exact ⟨n, by rw [List.getElem?_eq_getElem ho, e]⟩
theorem f_slice {cs : List Value} {o : Nat} {t e : TypeId} (ho : o < cs.length) (hc : Try.prog.cellsOf t = 1) (hu : Try.prog.underlying t = some (.slice e)) (h : DataW.trod enc Try.prog w 0 (fun _ => true) true m t ((cs.drop o).take (Try.prog.cellsOf t)) = some y) : ∃ a n c, cs[o]? = some (.slice a n c) ∧ DataW.Trod enc Try.prog w 0 (fun _ => true) true t (.slice a n c) y.1 y.2 := by
 rw [hc, one_cell ho] at h
 rcases Go.Deep.open_slice hu h with ⟨e, _⟩ | ⟨a, len, cap', m', n', D, Pl, e, _⟩
 ·simp at e
  exact ⟨none, 0, 0, by rw [List.getElem?_eq_getElem ho, e], ⟨m, by rw [e] at h; exact h⟩⟩
 ·simp at e
  exact ⟨some a, len, cap', by rw [List.getElem?_eq_getElem ho, e], ⟨m, by rw [e] at h; exact h⟩⟩
theorem f_lab {cs : List Value} {o : Nat} (ho : o < cs.length) (h : DataW.trod enc Try.prog w 0 (fun _ => true) true m 39 ((cs.drop o).take (Try.prog.cellsOf 39)) = some y) : ∃ L, LbV (LtN w) w cs[o]? L := by
 obtain ⟨a, n, c, e, hT⟩ := f_slice ho (by kernel_rfl) Try.underlying39 h
 obtain ⟨L, hL⟩ := lab_of_trod hT
 exact ⟨L, a, n, c, e, hL⟩
theorem f_map {cs : List Value} {o : Nat} (ho : o < cs.length) (h : DataW.trod enc Try.prog w 0 (fun _ => true) true m 40 ((cs.drop o).take (Try.prog.cellsOf 40)) = some y) : ∃ L, MpV (LtN w) w cs[o]? L := by
 obtain ⟨a, n, c, e, hT⟩ := f_slice ho (by kernel_rfl) Try.underlying40 h
 obtain ⟨L, hL⟩ := PgM.mps_of_trod hT
 exact ⟨L, a, n, c, e, hL⟩
theorem ct_of_trod {ao : Option Addr} {n cap : Nat} {d : DataW H} {ps : List MemPlace} (h : DataW.Trod enc Try.prog w 0 (fun _ => true) true 28 (.slice ao n cap) d ps) : ∃ L, CtD (LtN w) w ao n cap L := by
 obtain ⟨fuel, hf⟩ := h
 have c1 : Try.prog.cellsOf 22 = 1 := by kernel_rfl
 rcases Go.Deep.open_slice Try.underlying28 hf with ⟨e, _⟩ | ⟨a, len, cap', m, n', D, Pl, e, hb, hl, hm, hmm, hdd, hx⟩
 ·simp [Value.cells] at e
  obtain ⟨rfl, rfl, rfl⟩ := e
  exact ⟨[], CtD.nil _ _⟩
 ·simp [Value.cells] at e
  obtain ⟨rfl, rfl, rfl⟩ := e
  have hmc : m = cap := by rw [hmm]; rfl
  have key : ∀ i, ∃ x : Int, i < n → w.cell? (a.add i) = some (.int .u64 x) := by
   intro i
   by_cases hi : i < n
   ·obtain ⟨cs, h1, h2⟩ := hx i (by omega)
    rw [c1, Nat.mul_one] at h1
    obtain ⟨_, hlen, hcell⟩ := World.cells?_some h1
    obtain ⟨x0, rfl⟩ : ∃ x0, cs = [x0] := by
     match cs, hlen with
     | [x0], _ => exact ⟨x0, rfl⟩
    obtain ⟨z, e, _, _⟩ := DataW.trod_int Try.underlying22 h2
    simp at e
    have := hcell 0 (by omega)
    rw [show (a.add i).add 0 = a.add i by simp [Addr.add]] at this
    exact ⟨z, fun _ => by rw [this, e]; rfl⟩
   ·exact ⟨0, fun h => absurd h hi⟩
  refine ⟨(List.range n).map fun i => Classical.choose (key i), by simp, hl, ⟨by unfold maxLen at hm; omega, fun e => by cases e⟩, fun hn => ?_⟩
  obtain ⟨v0, z⟩ : ∃ v0, w.cell? (a.add 0) = some v0 := ⟨_, Classical.choose_spec (key 0) hn⟩
  rw [show a.add 0 = a by simp [Addr.add]] at z
  obtain ⟨hea, hadd⟩ := PgM.spotK z
  refine ⟨a.block, a.off, by rw [← hea], World.block_lt_of_cell? w _ z, fun i hi => ?_⟩
  have hg : ((List.range n).map fun i => Classical.choose (key i)).getD i 0 = Classical.choose (key i) := by
   rw [List.getD_eq_getElem?_getD, List.getElem?_eq_getElem (by simpa using hi)]; simp
  rw [hg, ← hadd]
  exact Classical.choose_spec (key i) hi
theorem f_ct {cs : List Value} {o : Nat} (ho : o < cs.length) (h : DataW.trod enc Try.prog w 0 (fun _ => true) true m 28 ((cs.drop o).take (Try.prog.cellsOf 28)) = some y) : ∃ L, CtV (LtN w) w cs[o]? L := by
 obtain ⟨a, n, c, e, hT⟩ := f_slice ho (by kernel_rfl) Try.underlying28 h
 obtain ⟨L, hL⟩ := ct_of_trod hT
 exact ⟨L, a, n, c, e, hL⟩
theorem sub_get {cs : List Value} {o n i : Nat} (hi : i < n) : ((cs.drop o).take n)[i]? = cs[o + i]? := by
 rw [List.getElem?_take, if_pos hi, List.getElem?_drop]
theorem ref_of_cells {cs : List Value} (h : DataW.trod enc Try.prog w 0 (fun _ => true) true m 43 cs = some y) : ∃ a b, cs[0]? = some (.int .u64 a) ∧ cs[1]? = some (.int .u64 b) := by
 obtain ⟨xs, m', _, _, hl, hx, hg⟩ := DataW.trod_struct Try.underlying43 h
 rw [show Try.prog.cellsOf 43 = 2 from by kernel_rfl] at hl
 obtain ⟨y0, y1, rfl⟩ : ∃ y0 y1, xs = [y0, y1] := by
  match xs, hx with
  | [y0, y1], _ => exact ⟨y0, y1, rfl⟩
 obtain ⟨a, ea⟩ := f_int (t := 22) (o := 0) (y := y0) (by rw [hl]; omega) (by kernel_rfl) Try.underlying22 (hg 0 _ rfl)
 obtain ⟨b, eb⟩ := f_int (t := 22) (o := 1) (y := y1) (by rw [hl]; omega) (by kernel_rfl) Try.underlying22 (hg 1 _ rfl)
 exact ⟨a, b, ea, eb⟩
theorem span_of_cells {cs : List Value} (h : DataW.trod enc Try.prog w 0 (fun _ => true) true m 47 cs = some y) : ∃ a b, cs[0]? = some (.int .u64 a) ∧ cs[1]? = some (.int .u64 b) := by
 obtain ⟨xs, m', _, _, hl, hx, hg⟩ := DataW.trod_struct Try.underlying47 h
 rw [show Try.prog.cellsOf 47 = 2 from by kernel_rfl] at hl
 obtain ⟨y0, y1, rfl⟩ : ∃ y0 y1, xs = [y0, y1] := by
  match xs, hx with
  | [y0, y1], _ => exact ⟨y0, y1, rfl⟩
 obtain ⟨a, ea⟩ := f_int (t := 22) (o := 0) (y := y0) (by rw [hl]; omega) (by kernel_rfl) Try.underlying22 (hg 0 _ rfl)
 obtain ⟨b, eb⟩ := f_int (t := 22) (o := 1) (y := y1) (by rw [hl]; omega) (by kernel_rfl) Try.underlying22 (hg 1 _ rfl)
 exact ⟨a, b, ea, eb⟩
theorem wait_of_cells {cs : List Value} (h : DataW.trod enc Try.prog w 0 (fun _ => true) true m 45 cs = some y) : ∃ a b c d e, cs[0]? = some (.int .u64 a) ∧ cs[1]? = some (.int .u64 b) ∧ cs[2]? = some (.int .u64 c) ∧ cs[3]? = some (.int .u64 d) ∧ cs[4]? = some (.bool e) := by
 obtain ⟨xs, m', _, _, hl, hx, hg⟩ := DataW.trod_struct Try.underlying45 h
 rw [show Try.prog.cellsOf 45 = 5 from by kernel_rfl] at hl
 obtain ⟨y0, y1, y2, y3, rfl⟩ : ∃ y0 y1 y2 y3, xs = [y0, y1, y2, y3] := by
  match xs, hx with
  | [y0, y1, y2, y3], _ => exact ⟨y0, y1, y2, y3, rfl⟩
 have t0 : DataW.trod enc Try.prog w 0 (fun _ => true) true m' 43 ((cs.drop 0).take (Try.prog.cellsOf 43)) = some y0 := hg 0 _ rfl
 rw [show Try.prog.cellsOf 43 = 2 from by kernel_rfl] at t0
 obtain ⟨a, b, ea, eb⟩ := ref_of_cells t0
 rw [sub_get (by omega)] at ea eb
 obtain ⟨c, ec⟩ := f_int (t := 22) (o := 2) (y := y1) (by rw [hl]; omega) (by kernel_rfl) Try.underlying22 (hg 1 _ rfl)
 obtain ⟨d, ed⟩ := f_int (t := 22) (o := 3) (y := y2) (by rw [hl]; omega) (by kernel_rfl) Try.underlying22 (hg 2 _ rfl)
 obtain ⟨e, ee⟩ := f_bool (o := 4) (y := y3) (by rw [hl]; omega) (hg 3 _ rfl)
 exact ⟨a, b, c, d, e, ea, eb, ec, ed, ee⟩
theorem regs_of_cells {cs : List Value} (h : DataW.trod enc Try.prog w 0 (fun _ => true) true m 41 cs = some y) : ∃ l : List Int, l.length = 16 ∧ ∀ i, i < 16 → cs[i]? = some (.int .u64 (l.getD i 0)) := by
 obtain ⟨xs, m', _, _, hl, hx, hg⟩ := DataW.trod_array Try.underlying41 h
 rw [show Try.prog.cellsOf 41 = 16 from by kernel_rfl] at hl
 have key : ∀ i, ∃ n : Int, i < 16 → cs[i]? = some (.int .u64 n) := by
  intro i
  by_cases hi : i < 16
  ·have q := hg i hi
   rw [List.getElem?_eq_getElem (by omega), show Try.prog.cellsOf 22 = 1 from by kernel_rfl, Nat.mul_one] at q
   obtain ⟨n, e⟩ := f_int (t := 22) (o := i) (by rw [hl]; omega) (by kernel_rfl) Try.underlying22 (by rw [show Try.prog.cellsOf 22 = 1 from by kernel_rfl]; exact q)
   exact ⟨n, fun _ => e⟩
  ·exact ⟨0, fun h => absurd h hi⟩
 refine ⟨(List.range 16).map fun i => Classical.choose (key i), by simp, fun i hi => ?_⟩
 have hg : ((List.range 16).map fun i => Classical.choose (key i)).getD i 0 = Classical.choose (key i) := by
  rw [List.getD_eq_getElem?_getD, List.getElem?_eq_getElem (by simpa using hi)]; simp
 rw [hg]
 exact Classical.choose_spec (key i) hi
theorem labs_of_cells {cs : List Value} (h : DataW.trod enc Try.prog w 0 (fun _ => true) true m 48 cs = some y) : ∃ a b c d, LbV (LtN w) w cs[0]? a ∧ LbV (LtN w) w cs[1]? b ∧ LbV (LtN w) w cs[2]? c ∧ LbV (LtN w) w cs[3]? d := by
 obtain ⟨xs, m', _, _, hl, hx, hg⟩ := DataW.trod_array Try.underlying48 h
 rw [show Try.prog.cellsOf 48 = 4 from by kernel_rfl] at hl
 have key : ∀ i, i < 4 → ∃ L, LbV (LtN w) w cs[i]? L := by
  intro i hi
  have q := hg i hi
  rw [List.getElem?_eq_getElem (by omega), show Try.prog.cellsOf 39 = 1 from by kernel_rfl, Nat.mul_one] at q
  exact f_lab (o := i) (by rw [hl]; omega) (by rw [show Try.prog.cellsOf 39 = 1 from by kernel_rfl]; exact q)
 obtain ⟨a, ea⟩ := key 0 (by omega)
 obtain ⟨b, eb⟩ := key 1 (by omega)
 obtain ⟨c, ec⟩ := key 2 (by omega)
 obtain ⟨d, ed⟩ := key 3 (by omega)
 exact ⟨a, b, c, d, ea, eb, ec, ed⟩
theorem th_of_cells {cs : List Value} (h : DataW.trod enc Try.prog w 0 (fun _ => true) true m 50 cs = some y) : ∃ t, ThF (LtN w) w (fun i => cs[i]?) t := by
 obtain ⟨xs, m', _, _, hl, hx, hg⟩ := DataW.trod_struct Try.underlying50 h
 rw [show Try.prog.cellsOf 50 = 35 from by kernel_rfl] at hl
 obtain ⟨y0, y1, y2, y3, y4, y5, y6, y7, y8, y9, y10, rfl⟩ : ∃ y0 y1 y2 y3 y4 y5 y6 y7 y8 y9 y10, xs = [y0, y1, y2, y3, y4, y5, y6, y7, y8, y9, y10] := by
  match xs, hx with
  | [y0, y1, y2, y3, y4, y5, y6, y7, y8, y9, y10], _ => exact ⟨y0, y1, y2, y3, y4, y5, y6, y7, y8, y9, y10, rfl⟩
 have t0 : DataW.trod enc Try.prog w 0 (fun _ => true) true m' 41 ((cs.drop 0).take (Try.prog.cellsOf 41)) = some y0 := hg 0 _ rfl
 rw [show Try.prog.cellsOf 41 = 16 from by kernel_rfl] at t0
 obtain ⟨regs, hr, er⟩ := regs_of_cells t0
 have t1 : DataW.trod enc Try.prog w 0 (fun _ => true) true m' 22 ((cs.drop 16).take (Try.prog.cellsOf 22)) = some y1 := hg 1 _ rfl
 obtain ⟨pc, epc⟩ := f_int (o := 16) (by rw [hl]; omega) (by kernel_rfl) Try.underlying22 t1
 have t2 : DataW.trod enc Try.prog w 0 (fun _ => true) true m' 39 ((cs.drop 17).take (Try.prog.cellsOf 39)) = some y2 := hg 2 _ rfl
 obtain ⟨clear, eclear⟩ := f_lab (o := 17) (by rw [hl]; omega) t2
 have t3 : DataW.trod enc Try.prog w 0 (fun _ => true) true m' 43 ((cs.drop 18).take (Try.prog.cellsOf 43)) = some y3 := hg 3 _ rfl
 rw [show Try.prog.cellsOf 43 = 2 from by kernel_rfl] at t3
 obtain ⟨space1, space2, espace1, espace2⟩ := ref_of_cells t3
 rw [sub_get (by omega)] at espace1 espace2
 have t4 : DataW.trod enc Try.prog w 0 (fun _ => true) true m' 22 ((cs.drop 20).take (Try.prog.cellsOf 22)) = some y4 := hg 4 _ rfl
 obtain ⟨handler, ehandler⟩ := f_int (o := 20) (by rw [hl]; omega) (by kernel_rfl) Try.underlying22 t4
 have t5 : DataW.trod enc Try.prog w 0 (fun _ => true) true m' 22 ((cs.drop 21).take (Try.prog.cellsOf 22)) = some y5 := hg 5 _ rfl
 obtain ⟨vector, evector⟩ := f_int (o := 21) (by rw [hl]; omega) (by kernel_rfl) Try.underlying22 t5
 have t6 : DataW.trod enc Try.prog w 0 (fun _ => true) true m' 3 ((cs.drop 22).take (Try.prog.cellsOf 3)) = some y6 := hg 6 _ rfl
 obtain ⟨state, estate⟩ := f_int (o := 22) (by rw [hl]; omega) (by kernel_rfl) Try.underlying3 t6
 have t7 : DataW.trod enc Try.prog w 0 (fun _ => true) true m' 45 ((cs.drop 23).take (Try.prog.cellsOf 45)) = some y7 := hg 7 _ rfl
 rw [show Try.prog.cellsOf 45 = 5 from by kernel_rfl] at t7
 obtain ⟨wa, wb, wc, wd, we, ewa, ewb, ewc, ewd, ewe⟩ := wait_of_cells t7
 rw [sub_get (by omega)] at ewa ewb ewc ewd ewe
 have t8 : DataW.trod enc Try.prog w 0 (fun _ => true) true m' 28 ((cs.drop 28).take (Try.prog.cellsOf 28)) = some y8 := hg 8 _ rfl
 obtain ⟨alerts, ealerts⟩ := f_ct (o := 28) (by rw [hl]; omega) t8
 have t9 : DataW.trod enc Try.prog w 0 (fun _ => true) true m' 47 ((cs.drop 29).take (Try.prog.cellsOf 47)) = some y9 := hg 9 _ rfl
 rw [show Try.prog.cellsOf 47 = 2 from by kernel_rfl] at t9
 obtain ⟨span1, span2, espan1, espan2⟩ := span_of_cells t9
 rw [sub_get (by omega)] at espan1 espan2
 have t10 : DataW.trod enc Try.prog w 0 (fun _ => true) true m' 48 ((cs.drop 31).take (Try.prog.cellsOf 48)) = some y10 := hg 10 _ rfl
 rw [show Try.prog.cellsOf 48 = 4 from by kernel_rfl] at t10
 obtain ⟨la, lb, lc, ld, ela, elb, elc, eld⟩ := labs_of_cells t10
 rw [sub_get (by omega)] at ela elb elc eld
 refine ⟨⟨regs, pc, clear, space1, space2, handler, vector, state, wa, wb, wc, wd, we, alerts, span1, span2, la, lb, lc, ld⟩, hr, fun i hi => ?_, epc, eclear, espace1, espace2, ehandler, evector, estate, ewa, ewb, ewc, ewd, ewe, ealerts, espan1, espan2, ela, elb, elc, eld⟩
 have := er i hi
 rw [sub_get hi, Nat.zero_add] at this
 exact this
theorem gt_of_cells {cs : List Value} (h : DataW.trod enc Try.prog w 0 (fun _ => true) true m 52 cs = some y) : ∃ t, GtF (LtN w) w (fun i => cs[i]?) t := by
 obtain ⟨xs, m', _, _, hl, hx, hg⟩ := DataW.trod_struct Try.underlying52 h
 rw [show Try.prog.cellsOf 52 = 6 from by kernel_rfl] at hl
 obtain ⟨y0, y1, y2, y3, y4, rfl⟩ : ∃ y0 y1 y2 y3 y4, xs = [y0, y1, y2, y3, y4] := by
  match xs, hx with
  | [y0, y1, y2, y3, y4], _ => exact ⟨y0, y1, y2, y3, y4, rfl⟩
 have t0 : DataW.trod enc Try.prog w 0 (fun _ => true) true m' 39 ((cs.drop 0).take (Try.prog.cellsOf 39)) = some y0 := hg 0 _ rfl
 obtain ⟨grant, egrant⟩ := f_lab (o := 0) (by rw [hl]; omega) t0
 have t1 : DataW.trod enc Try.prog w 0 (fun _ => true) true m' 39 ((cs.drop 1).take (Try.prog.cellsOf 39)) = some y1 := hg 1 _ rfl
 obtain ⟨clear, eclear⟩ := f_lab (o := 1) (by rw [hl]; omega) t1
 have t2 : DataW.trod enc Try.prog w 0 (fun _ => true) true m' 43 ((cs.drop 2).take (Try.prog.cellsOf 43)) = some y2 := hg 2 _ rfl
 rw [show Try.prog.cellsOf 43 = 2 from by kernel_rfl] at t2
 obtain ⟨space1, space2, espace1, espace2⟩ := ref_of_cells t2
 rw [sub_get (by omega)] at espace1 espace2
 have t3 : DataW.trod enc Try.prog w 0 (fun _ => true) true m' 22 ((cs.drop 4).take (Try.prog.cellsOf 22)) = some y3 := hg 3 _ rfl
 obtain ⟨pc, epc⟩ := f_int (o := 4) (by rw [hl]; omega) (by kernel_rfl) Try.underlying22 t3
 have t4 : DataW.trod enc Try.prog w 0 (fun _ => true) true m' 22 ((cs.drop 5).take (Try.prog.cellsOf 22)) = some y4 := hg 4 _ rfl
 obtain ⟨arg, earg⟩ := f_int (o := 5) (by rw [hl]; omega) (by kernel_rfl) Try.underlying22 t4
 exact ⟨⟨grant, clear, space1, space2, pc, arg⟩, egrant, eclear, espace1, espace2, epc, earg⟩
theorem ThF.ones {f : Nat → Option Value} {t : Th} (h : ThF (LtN w) w f t) {i : Nat} (hi : i < 35) {v : Value} (e : f i = some v) : v.oneCell' = true := by
 by_cases h16 : i < 16
 ·rw [h.regs i h16] at e; cases e; rfl
 ·obtain rfl | rfl | rfl | rfl | rfl | rfl | rfl | rfl | rfl | rfl | rfl | rfl | rfl | rfl | rfl | rfl | rfl | rfl | rfl : i = 16 ∨ i = 17 ∨ i = 18 ∨ i = 19 ∨ i = 20 ∨ i = 21 ∨ i = 22 ∨ i = 23 ∨ i = 24 ∨ i = 25 ∨ i = 26 ∨ i = 27 ∨ i = 28 ∨ i = 29 ∨ i = 30 ∨ i = 31 ∨ i = 32 ∨ i = 33 ∨ i = 34 := by omega
  ·(rw [h.pc] at e; cases e; rfl)
  ·(obtain ⟨_, _, _, q, _⟩ := h.clear; rw [q] at e; cases e; rfl)
  ·(rw [h.sc] at e; cases e; rfl)
  ·(rw [h.si] at e; cases e; rfl)
  ·(rw [h.handler] at e; cases e; rfl)
  ·(rw [h.vector] at e; cases e; rfl)
  ·(rw [h.state] at e; cases e; rfl)
  ·(rw [h.wc] at e; cases e; rfl)
  ·(rw [h.wi] at e; cases e; rfl)
  ·(rw [h.wx] at e; cases e; rfl)
  ·(rw [h.wv] at e; cases e; rfl)
  ·(rw [h.wd] at e; cases e; rfl)
  ·(obtain ⟨_, _, _, q, _⟩ := h.alerts; rw [q] at e; cases e; rfl)
  ·(rw [h.lo] at e; cases e; rfl)
  ·(rw [h.hi] at e; cases e; rfl)
  ·(obtain ⟨_, _, _, q, _⟩ := h.l0; rw [q] at e; cases e; rfl)
  ·(obtain ⟨_, _, _, q, _⟩ := h.l1; rw [q] at e; cases e; rfl)
  ·(obtain ⟨_, _, _, q, _⟩ := h.l2; rw [q] at e; cases e; rfl)
  ·(obtain ⟨_, _, _, q, _⟩ := h.l3; rw [q] at e; cases e; rfl)
theorem GtF.ones {f : Nat → Option Value} {t : Gt} (h : GtF (LtN w) w f t) {i : Nat} (hi : i < 6) {v : Value} (e : f i = some v) : v.oneCell' = true := by
 obtain rfl | rfl | rfl | rfl | rfl | rfl : i = 0 ∨ i = 1 ∨ i = 2 ∨ i = 3 ∨ i = 4 ∨ i = 5 := by omega
 ·(obtain ⟨_, _, _, q, _⟩ := h.grant; rw [q] at e; cases e; rfl)
 ·(obtain ⟨_, _, _, q, _⟩ := h.clear; rw [q] at e; cases e; rfl)
 ·(rw [h.sc] at e; cases e; rfl)
 ·(rw [h.si] at e; cases e; rfl)
 ·(rw [h.pc] at e; cases e; rfl)
 ·(rw [h.arg] at e; cases e; rfl)
theorem ob_of_cells {cs : List Value} (h : DataW.trod enc Try.prog w 0 (fun _ => true) true m 54 cs = some y) : ∃ x, ObD (LtN w) w cs.toArray x := by
 obtain ⟨xs, m', _, _, hl, hx, hg⟩ := DataW.trod_struct Try.underlying54 h
 rw [show Try.prog.cellsOf 54 = 51 from by kernel_rfl] at hl
 obtain ⟨y0, y1, y2, y3, y4, y5, y6, y7, y8, y9, y10, y11, rfl⟩ : ∃ y0 y1 y2 y3 y4 y5 y6 y7 y8 y9 y10 y11, xs = [y0, y1, y2, y3, y4, y5, y6, y7, y8, y9, y10, y11] := by
  match xs, hx with
  | [y0, y1, y2, y3, y4, y5, y6, y7, y8, y9, y10, y11], _ => exact ⟨y0, y1, y2, y3, y4, y5, y6, y7, y8, y9, y10, y11, rfl⟩
 have t0 : DataW.trod enc Try.prog w 0 (fun _ => true) true m' 22 ((cs.drop 0).take (Try.prog.cellsOf 22)) = some y0 := hg 0 _ rfl
 obtain ⟨id, eid⟩ := f_int (o := 0) (by rw [hl]; omega) (by kernel_rfl) Try.underlying22 t0
 have t1 : DataW.trod enc Try.prog w 0 (fun _ => true) true m' 3 ((cs.drop 1).take (Try.prog.cellsOf 3)) = some y1 := hg 1 _ rfl
 obtain ⟨kind, ekind⟩ := f_int (o := 1) (by rw [hl]; omega) (by kernel_rfl) Try.underlying3 t1
 have t2 : DataW.trod enc Try.prog w 0 (fun _ => true) true m' 39 ((cs.drop 2).take (Try.prog.cellsOf 39)) = some y2 := hg 2 _ rfl
 obtain ⟨label, elabel⟩ := f_lab (o := 2) (by rw [hl]; omega) t2
 have t3 : DataW.trod enc Try.prog w 0 (fun _ => true) true m' 3 ((cs.drop 3).take (Try.prog.cellsOf 3)) = some y3 := hg 3 _ rfl
 obtain ⟨quota, equota⟩ := f_int (o := 3) (by rw [hl]; omega) (by kernel_rfl) Try.underlying3 t3
 have t4 : DataW.trod enc Try.prog w 0 (fun _ => true) true m' 4 ((cs.drop 4).take (Try.prog.cellsOf 4)) = some y4 := hg 4 _ rfl
 obtain ⟨fixed, efixed⟩ := f_bool (o := 4) (by rw [hl]; omega) t4
 have t5 : DataW.trod enc Try.prog w 0 (fun _ => true) true m' 28 ((cs.drop 5).take (Try.prog.cellsOf 28)) = some y5 := hg 5 _ rfl
 obtain ⟨links, elinks⟩ := f_ct (o := 5) (by rw [hl]; omega) t5
 have t6 : DataW.trod enc Try.prog w 0 (fun _ => true) true m' 28 ((cs.drop 6).take (Try.prog.cellsOf 28)) = some y6 := hg 6 _ rfl
 obtain ⟨data, edata⟩ := f_ct (o := 6) (by rw [hl]; omega) t6
 have t7 : DataW.trod enc Try.prog w 0 (fun _ => true) true m' 40 ((cs.drop 7).take (Try.prog.cellsOf 40)) = some y7 := hg 7 _ rfl
 obtain ⟨maps, emaps⟩ := f_map (o := 7) (by rw [hl]; omega) t7
 have t8 : DataW.trod enc Try.prog w 0 (fun _ => true) true m' 50 ((cs.drop 8).take (Try.prog.cellsOf 50)) = some y8 := hg 8 _ rfl
 rw [show Try.prog.cellsOf 50 = 35 from by kernel_rfl] at t8
 obtain ⟨th, eth⟩ := th_of_cells t8
 have t9 : DataW.trod enc Try.prog w 0 (fun _ => true) true m' 52 ((cs.drop 43).take (Try.prog.cellsOf 52)) = some y9 := hg 9 _ rfl
 rw [show Try.prog.cellsOf 52 = 6 from by kernel_rfl] at t9
 obtain ⟨gt, egt⟩ := gt_of_cells t9
 have t10 : DataW.trod enc Try.prog w 0 (fun _ => true) true m' 28 ((cs.drop 49).take (Try.prog.cellsOf 28)) = some y10 := hg 10 _ rfl
 obtain ⟨inn, einn⟩ := f_ct (o := 49) (by rw [hl]; omega) t10
 have t11 : DataW.trod enc Try.prog w 0 (fun _ => true) true m' 28 ((cs.drop 50).take (Try.prog.cellsOf 28)) = some y11 := hg 11 _ rfl
 obtain ⟨out, eout⟩ := f_ct (o := 50) (by rw [hl]; omega) t11
 have eth' : ThF (LtN w) w (fun i => cs[8 + i]?) th := eth.congr fun i hi => sub_get hi
 have egt' : GtF (LtN w) w (fun i => cs[43 + i]?) gt := egt.congr fun i hi => sub_get hi
 refine ⟨⟨id, kind, label, quota, fixed, links, data, maps, th, gt, inn, out⟩, by simpa using hl, ?_, by simpa using eid, by simpa using ekind, by simpa using elabel, by simpa using equota, by simpa using efixed, by simpa using elinks, by simpa using edata, by simpa using emaps, by simpa using eth', by simpa using egt', by simpa using einn, by simpa using eout⟩
 refine all_ext fun j v e => ?_
 have e' : cs[j]? = some v := by simpa using e
 have hj : j < 51 := by rw [← hl]; exact (List.getElem?_eq_some_iff.1 e').1
 by_cases h8 : 8 ≤ j ∧ j < 43
 ·obtain ⟨i, rfl⟩ : ∃ i, j = 8 + i := ⟨j - 8, by omega⟩
  exact eth'.ones (i := i) (by omega) e'
 ·by_cases h43 : 43 ≤ j ∧ j < 49
  ·obtain ⟨i, rfl⟩ : ∃ i, j = 43 + i := ⟨j - 43, by omega⟩
   exact egt'.ones (i := i) (by omega) e'
  ·obtain rfl | rfl | rfl | rfl | rfl | rfl | rfl | rfl | rfl | rfl : j = 0 ∨ j = 1 ∨ j = 2 ∨ j = 3 ∨ j = 4 ∨ j = 5 ∨ j = 6 ∨ j = 7 ∨ j = 49 ∨ j = 50 := by omega
   ·(rw [eid] at e'; cases e'; rfl)
   ·(rw [ekind] at e'; cases e'; rfl)
   ·(obtain ⟨_, _, _, q, _⟩ := elabel; rw [q] at e'; cases e'; rfl)
   ·(rw [equota] at e'; cases e'; rfl)
   ·(rw [efixed] at e'; cases e'; rfl)
   ·(obtain ⟨_, _, _, q, _⟩ := elinks; rw [q] at e'; cases e'; rfl)
   ·(obtain ⟨_, _, _, q, _⟩ := edata; rw [q] at e'; cases e'; rfl)
   ·(obtain ⟨_, _, _, q, _⟩ := emaps; rw [q] at e'; cases e'; rfl)
   ·(obtain ⟨_, _, _, q, _⟩ := einn; rw [q] at e'; cases e'; rfl)
   ·(obtain ⟨_, _, _, q, _⟩ := eout; rw [q] at e'; cases e'; rfl)
end
end Go.Proofs.Ytobcdaaghdljbaa
