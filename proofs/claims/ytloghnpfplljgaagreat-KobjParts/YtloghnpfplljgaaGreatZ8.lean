/-
 PROVED HERE: objects and worlds that are handed in lie in memory as records of numbers and lists (over this translation); c. What is asked stands at each.
-/
import Derived.Test.YtloghnpfplljgaaGreatRows
import Derived.WalkKit
import Derived.ProofKit
import Derived.OpenShut
import Derived.Below
import Derived.Deep.Slices
import Derived.Deep.SlicePairs
import Derived.Deep.DeepCutAuto
import Derived.Deep.OwnRows
import Derived.Lib.AppendZerosOnto
import Derived.Great.BuildSlice
import Derived.Laws.ResultCell
import Derived.Test.YtloghnpfplljgaaGreatZ1
import Derived.Test.YtloghnpfplljgaaGreatZ6
import Derived.Test.YtloghnpfplljgaaGreatZ7
namespace Go.Proofs.YtloghnpfplljgaaGreat
set_option maxRecDepth 100000
set_option maxHeartbeats 8000000
set_option linter.unusedVariables false
open Go.Proofs.Tryz
section
open Go.ChangeShapes Go.WideShapes Go.ChangeAt Go.RowKit
section
variable {H : Type} {enc : TypeId × Value → H} {w : World} {m : Nat} {y : DataW H × List MemPlace}
theorem krz {cs : List Value} {o : Nat} (h : o < cs.length) : (cs.drop o).take 1 = [cs[o]] := by
 rw [List.drop_eq_getElem_cons h]; rfl
theorem w5z {cs : List Value} {o : Nat} {t : TypeId} {k : IntKind} (ho : o < cs.length) (hc : prog.cellsOf t = 1) (hu : prog.underlying t = some (.int k)) (h : DataW.trod enc prog w 0 (fun _ => true) true m t ((cs.drop o).take (prog.cellsOf t)) = some y) : ∃ n, cs[o]? = some (.int k n) := by
 rw [hc, krz ho] at h
 obtain ⟨n, e, _, _⟩ := DataW.trod_int hu h
 simp at e
 exact ⟨n, by rw [List.getElem?_eq_getElem ho, e]⟩
theorem f_bool {cs : List Value} {o : Nat} (ho : o < cs.length) (h : DataW.trod enc prog w 0 (fun _ => true) true m 4 ((cs.drop o).take (prog.cellsOf 4)) = some y) : ∃ n, cs[o]? = some (.bool n) := by
 rw [show prog.cellsOf 4 = 1 from by kernel_rfl, krz ho] at h
 obtain ⟨n, e, _⟩ := DataW.trod_bool underlying4 h
 simp at e
 exact ⟨n, by rw [List.getElem?_eq_getElem ho, e]⟩
theorem j2z {cs : List Value} {o : Nat} {t e : TypeId} (ho : o < cs.length) (hc : prog.cellsOf t = 1) (hu : prog.underlying t = some (.slice e)) (h : DataW.trod enc prog w 0 (fun _ => true) true m t ((cs.drop o).take (prog.cellsOf t)) = some y) : ∃ a n c, cs[o]? = some (.slice a n c) ∧ DataW.Trod enc prog w 0 (fun _ => true) true t (.slice a n c) y.1 y.2 := by
 rw [hc, krz ho] at h
 rcases Go.Deep.open_slice hu h with ⟨e, _⟩ | ⟨a, len, cap', m', n', D, Pl, e, _⟩
 ·simp at e
  exact ⟨none, 0, 0, by rw [List.getElem?_eq_getElem ho, e], ⟨m, by rw [e] at h; exact h⟩⟩
 ·simp at e
  exact ⟨some a, len, cap', by rw [List.getElem?_eq_getElem ho, e], ⟨m, by rw [e] at h; exact h⟩⟩
theorem bFz {cs : List Value} {o : Nat} (ho : o < cs.length) (h : DataW.trod enc prog w 0 (fun _ => true) true m 39 ((cs.drop o).take (prog.cellsOf 39)) = some y) : ∃ L, LbV (LtN w) w cs[o]? L := by
 obtain ⟨a, n, c, e, hT⟩ := j2z ho (by kernel_rfl) underlying39 h
 obtain ⟨L, hL⟩ := yuz hT
 exact ⟨L, a, n, c, e, hL⟩
theorem f_map {cs : List Value} {o : Nat} (ho : o < cs.length) (h : DataW.trod enc prog w 0 (fun _ => true) true m 41 ((cs.drop o).take (prog.cellsOf 41)) = some y) : ∃ L, MpV (LtN w) w cs[o]? L := by
 obtain ⟨a, n, c, e, hT⟩ := j2z ho (by kernel_rfl) underlying41 h
 obtain ⟨L, hL⟩ := PgM.mps_of_trod hT
 exact ⟨L, a, n, c, e, hL⟩
theorem u9z {ao : Option Addr} {n cap : Nat} {d : DataW H} {ps : List MemPlace} (h : DataW.Trod enc prog w 0 (fun _ => true) true 40 (.slice ao n cap) d ps) : ∃ L, CtD (LtN w) w ao n cap L := by
 obtain ⟨fuel, hf⟩ := h
 have c1 : prog.cellsOf 22 = 1 := by kernel_rfl
 rcases Go.Deep.open_slice underlying40 hf with ⟨e, _⟩ | ⟨a, len, cap', m, n', D, Pl, e, hb, hl, hm, hmm, hdd, hx⟩
 ·simp [Value.cells] at e
  obtain ⟨rfl, rfl, rfl⟩ := e
  exact ⟨[], CtD.nil _ _⟩
 ·simp [Value.cells] at e
  obtain ⟨rfl, rfl, rfl⟩ := e
  have hmc : m = cap := by rw [hmm]; rfl
  have key : ∀ i, ∃ x : Int, i < n → w.cell? (a.add i) = some (.int .u64 x) := by
   intro i
   by_cases hi : i < n
   ·obtain ⟨cs, h1, h2⟩ := hx i (by omega)
    rw [c1, Nat.mul_one] at h1
    obtain ⟨_, hlen, hcell⟩ := World.cells?_some h1
    obtain ⟨x0, rfl⟩ : ∃ x0, cs = [x0] := by
     match cs, hlen with
     | [x0], _ => exact ⟨x0, rfl⟩
    obtain ⟨z, e, _, _⟩ := DataW.trod_int underlying22 h2
    simp at e
    have := hcell 0 (by omega)
    rw [show (a.add i).add 0 = a.add i by simp [Addr.add]] at this
    exact ⟨z, fun _ => by rw [this, e]; rfl⟩
   ·exact ⟨0, fun h => absurd h hi⟩
  refine ⟨(List.range n).map fun i => Classical.choose (key i), by simp, hl, ⟨by unfold maxLen at hm; omega, fun e => by cases e⟩, fun hn => ?_⟩
  obtain ⟨v0, z⟩ : ∃ v0, w.cell? (a.add 0) = some v0 := ⟨_, Classical.choose_spec (key 0) hn⟩
  rw [show a.add 0 = a by simp [Addr.add]] at z
  obtain ⟨hea, hadd⟩ := PgM.spotK z
  refine ⟨a.block, a.off, by rw [← hea], World.block_lt_of_cell? w _ z, fun i hi => ?_⟩
  have hg : ((List.range n).map fun i => Classical.choose (key i)).getD i 0 = Classical.choose (key i) := by
   rw [List.getD_eq_getElem?_getD, List.getElem?_eq_getElem (by simpa using hi)]; simp
  rw [hg, ← hadd]
  exact Classical.choose_spec (key i) hi
theorem f_ct {cs : List Value} {o : Nat} (ho : o < cs.length) (h : DataW.trod enc prog w 0 (fun _ => true) true m 40 ((cs.drop o).take (prog.cellsOf 40)) = some y) : ∃ L, CtV (LtN w) w cs[o]? L := by
 obtain ⟨a, n, c, e, hT⟩ := j2z ho (by kernel_rfl) underlying40 h
 obtain ⟨L, hL⟩ := u9z hT
 exact ⟨L, a, n, c, e, hL⟩
theorem wVz {cs : List Value} {o n i : Nat} (hi : i < n) : ((cs.drop o).take n)[i]? = cs[o + i]? := by
 rw [List.getElem?_take, if_pos hi, List.getElem?_drop]
theorem xdz {cs : List Value} (h : DataW.trod enc prog w 0 (fun _ => true) true m 44 cs = some y) : ∃ a b, cs[0]? = some (.int .u64 a) ∧ cs[1]? = some (.int .u64 b) := by
 obtain ⟨xs, m', _, _, hl, hx, hg⟩ := DataW.trod_struct underlying44 h
 rw [show prog.cellsOf 44 = 2 from by kernel_rfl] at hl
 obtain ⟨y0, y1, rfl⟩ : ∃ y0 y1, xs = [y0, y1] := by
  match xs, hx with
  | [y0, y1], _ => exact ⟨y0, y1, rfl⟩
 obtain ⟨a, ea⟩ := w5z (t := 22) (o := 0) (y := y0) (by rw [hl]; omega) (by kernel_rfl) underlying22 (hg 0 _ rfl)
 obtain ⟨b, eb⟩ := w5z (t := 22) (o := 1) (y := y1) (by rw [hl]; omega) (by kernel_rfl) underlying22 (hg 1 _ rfl)
 exact ⟨a, b, ea, eb⟩
theorem jHz {cs : List Value} (h : DataW.trod enc prog w 0 (fun _ => true) true m 48 cs = some y) : ∃ a b, cs[0]? = some (.int .u64 a) ∧ cs[1]? = some (.int .u64 b) := by
 obtain ⟨xs, m', _, _, hl, hx, hg⟩ := DataW.trod_struct underlying48 h
 rw [show prog.cellsOf 48 = 2 from by kernel_rfl] at hl
 obtain ⟨y0, y1, rfl⟩ : ∃ y0 y1, xs = [y0, y1] := by
  match xs, hx with
  | [y0, y1], _ => exact ⟨y0, y1, rfl⟩
 obtain ⟨a, ea⟩ := w5z (t := 22) (o := 0) (y := y0) (by rw [hl]; omega) (by kernel_rfl) underlying22 (hg 0 _ rfl)
 obtain ⟨b, eb⟩ := w5z (t := 22) (o := 1) (y := y1) (by rw [hl]; omega) (by kernel_rfl) underlying22 (hg 1 _ rfl)
 exact ⟨a, b, ea, eb⟩
theorem jGz {cs : List Value} (h : DataW.trod enc prog w 0 (fun _ => true) true m 46 cs = some y) : ∃ a b c d e, cs[0]? = some (.int .u64 a) ∧ cs[1]? = some (.int .u64 b) ∧ cs[2]? = some (.int .u64 c) ∧ cs[3]? = some (.int .u64 d) ∧ cs[4]? = some (.bool e) := by
 obtain ⟨xs, m', _, _, hl, hx, hg⟩ := DataW.trod_struct underlying46 h
 rw [show prog.cellsOf 46 = 5 from by kernel_rfl] at hl
 obtain ⟨y0, y1, y2, y3, rfl⟩ : ∃ y0 y1 y2 y3, xs = [y0, y1, y2, y3] := by
  match xs, hx with
  | [y0, y1, y2, y3], _ => exact ⟨y0, y1, y2, y3, rfl⟩
 have t0 : DataW.trod enc prog w 0 (fun _ => true) true m' 44 ((cs.drop 0).take (prog.cellsOf 44)) = some y0 := hg 0 _ rfl
 rw [show prog.cellsOf 44 = 2 from by kernel_rfl] at t0
 obtain ⟨a, b, ea, eb⟩ := xdz t0
 rw [wVz (by omega)] at ea eb
 obtain ⟨c, ec⟩ := w5z (t := 22) (o := 2) (y := y1) (by rw [hl]; omega) (by kernel_rfl) underlying22 (hg 1 _ rfl)
 obtain ⟨d, ed⟩ := w5z (t := 22) (o := 3) (y := y2) (by rw [hl]; omega) (by kernel_rfl) underlying22 (hg 2 _ rfl)
 obtain ⟨e, ee⟩ := f_bool (o := 4) (y := y3) (by rw [hl]; omega) (hg 3 _ rfl)
 exact ⟨a, b, c, d, e, ea, eb, ec, ed, ee⟩
theorem jOz {cs : List Value} (h : DataW.trod enc prog w 0 (fun _ => true) true m 42 cs = some y) : ∃ l : List Int, l.length = 16 ∧ ∀ i, i < 16 → cs[i]? = some (.int .u64 (l.getD i 0)) := by
 obtain ⟨xs, m', _, _, hl, hx, hg⟩ := DataW.trod_array underlying42 h
 rw [show prog.cellsOf 42 = 16 from by kernel_rfl] at hl
 have key : ∀ i, ∃ n : Int, i < 16 → cs[i]? = some (.int .u64 n) := by
  intro i
  by_cases hi : i < 16
  ·have q := hg i hi
   rw [List.getElem?_eq_getElem (by omega), show prog.cellsOf 22 = 1 from by kernel_rfl, Nat.mul_one] at q
   obtain ⟨n, e⟩ := w5z (t := 22) (o := i) (by rw [hl]; omega) (by kernel_rfl) underlying22 (by rw [show prog.cellsOf 22 = 1 from by kernel_rfl]; exact q)
   exact ⟨n, fun _ => e⟩
  ·exact ⟨0, fun h => absurd h hi⟩
 refine ⟨(List.range 16).map fun i => Classical.choose (key i), by simp, fun i hi => ?_⟩
 have hg : ((List.range 16).map fun i => Classical.choose (key i)).getD i 0 = Classical.choose (key i) := by
  rw [List.getD_eq_getElem?_getD, List.getElem?_eq_getElem (by simpa using hi)]; simp
 rw [hg]
 exact Classical.choose_spec (key i) hi
theorem jZz {cs : List Value} (h : DataW.trod enc prog w 0 (fun _ => true) true m 49 cs = some y) : ∃ a b c d, LbV (LtN w) w cs[0]? a ∧ LbV (LtN w) w cs[1]? b ∧ LbV (LtN w) w cs[2]? c ∧ LbV (LtN w) w cs[3]? d := by
 obtain ⟨xs, m', _, _, hl, hx, hg⟩ := DataW.trod_array underlying49 h
 rw [show prog.cellsOf 49 = 4 from by kernel_rfl] at hl
 have key : ∀ i, i < 4 → ∃ L, LbV (LtN w) w cs[i]? L := by
  intro i hi
  have q := hg i hi
  rw [List.getElem?_eq_getElem (by omega), show prog.cellsOf 39 = 1 from by kernel_rfl, Nat.mul_one] at q
  exact bFz (o := i) (by rw [hl]; omega) (by rw [show prog.cellsOf 39 = 1 from by kernel_rfl]; exact q)
 obtain ⟨a, ea⟩ := key 0 (by omega)
 obtain ⟨b, eb⟩ := key 1 (by omega)
 obtain ⟨c, ec⟩ := key 2 (by omega)
 obtain ⟨d, ed⟩ := key 3 (by omega)
 exact ⟨a, b, c, d, ea, eb, ec, ed⟩
theorem yaz {cs : List Value} (h : DataW.trod enc prog w 0 (fun _ => true) true m 51 cs = some y) : ∃ t, ThF (LtN w) w (fun i => cs[i]?) t := by
 obtain ⟨xs, m', _, _, hl, hx, hg⟩ := DataW.trod_struct underlying51 h
 rw [show prog.cellsOf 51 = 35 from by kernel_rfl] at hl
 obtain ⟨y0, y1, y2, y3, y4, y5, y6, y7, y8, y9, y10, rfl⟩ : ∃ y0 y1 y2 y3 y4 y5 y6 y7 y8 y9 y10, xs = [y0, y1, y2, y3, y4, y5, y6, y7, y8, y9, y10] := by
  match xs, hx with
  | [y0, y1, y2, y3, y4, y5, y6, y7, y8, y9, y10], _ => exact ⟨y0, y1, y2, y3, y4, y5, y6, y7, y8, y9, y10, rfl⟩
 have t0 : DataW.trod enc prog w 0 (fun _ => true) true m' 42 ((cs.drop 0).take (prog.cellsOf 42)) = some y0 := hg 0 _ rfl
 rw [show prog.cellsOf 42 = 16 from by kernel_rfl] at t0
 obtain ⟨regs, hr, er⟩ := jOz t0
 have t1 : DataW.trod enc prog w 0 (fun _ => true) true m' 22 ((cs.drop 16).take (prog.cellsOf 22)) = some y1 := hg 1 _ rfl
 obtain ⟨pc, epc⟩ := w5z (o := 16) (by rw [hl]; omega) (by kernel_rfl) underlying22 t1
 have t2 : DataW.trod enc prog w 0 (fun _ => true) true m' 39 ((cs.drop 17).take (prog.cellsOf 39)) = some y2 := hg 2 _ rfl
 obtain ⟨clear, eclear⟩ := bFz (o := 17) (by rw [hl]; omega) t2
 have t3 : DataW.trod enc prog w 0 (fun _ => true) true m' 44 ((cs.drop 18).take (prog.cellsOf 44)) = some y3 := hg 3 _ rfl
 rw [show prog.cellsOf 44 = 2 from by kernel_rfl] at t3
 obtain ⟨space1, space2, espace1, espace2⟩ := xdz t3
 rw [wVz (by omega)] at espace1 espace2
 have t4 : DataW.trod enc prog w 0 (fun _ => true) true m' 22 ((cs.drop 20).take (prog.cellsOf 22)) = some y4 := hg 4 _ rfl
 obtain ⟨handler, ehandler⟩ := w5z (o := 20) (by rw [hl]; omega) (by kernel_rfl) underlying22 t4
 have t5 : DataW.trod enc prog w 0 (fun _ => true) true m' 22 ((cs.drop 21).take (prog.cellsOf 22)) = some y5 := hg 5 _ rfl
 obtain ⟨vector, evector⟩ := w5z (o := 21) (by rw [hl]; omega) (by kernel_rfl) underlying22 t5
 have t6 : DataW.trod enc prog w 0 (fun _ => true) true m' 3 ((cs.drop 22).take (prog.cellsOf 3)) = some y6 := hg 6 _ rfl
 obtain ⟨state, estate⟩ := w5z (o := 22) (by rw [hl]; omega) (by kernel_rfl) underlying3 t6
 have t7 : DataW.trod enc prog w 0 (fun _ => true) true m' 46 ((cs.drop 23).take (prog.cellsOf 46)) = some y7 := hg 7 _ rfl
 rw [show prog.cellsOf 46 = 5 from by kernel_rfl] at t7
 obtain ⟨wa, wb, wc, wd, we, ewa, ewb, ewc, ewd, ewe⟩ := jGz t7
 rw [wVz (by omega)] at ewa ewb ewc ewd ewe
 have t8 : DataW.trod enc prog w 0 (fun _ => true) true m' 40 ((cs.drop 28).take (prog.cellsOf 40)) = some y8 := hg 8 _ rfl
 obtain ⟨alerts, ealerts⟩ := f_ct (o := 28) (by rw [hl]; omega) t8
 have t9 : DataW.trod enc prog w 0 (fun _ => true) true m' 48 ((cs.drop 29).take (prog.cellsOf 48)) = some y9 := hg 9 _ rfl
 rw [show prog.cellsOf 48 = 2 from by kernel_rfl] at t9
 obtain ⟨span1, span2, espan1, espan2⟩ := jHz t9
 rw [wVz (by omega)] at espan1 espan2
 have t10 : DataW.trod enc prog w 0 (fun _ => true) true m' 49 ((cs.drop 31).take (prog.cellsOf 49)) = some y10 := hg 10 _ rfl
 rw [show prog.cellsOf 49 = 4 from by kernel_rfl] at t10
 obtain ⟨la, lb, lc, ld, ela, elb, elc, eld⟩ := jZz t10
 rw [wVz (by omega)] at ela elb elc eld
 refine ⟨⟨regs, pc, clear, space1, space2, handler, vector, state, wa, wb, wc, wd, we, alerts, span1, span2, la, lb, lc, ld⟩, hr, fun i hi => ?_, epc, eclear, espace1, espace2, ehandler, evector, estate, ewa, ewb, ewc, ewd, ewe, ealerts, espan1, espan2, ela, elb, elc, eld⟩
 have := er i hi
 rw [wVz hi, Nat.zero_add] at this
 exact this
theorem yzz {cs : List Value} (h : DataW.trod enc prog w 0 (fun _ => true) true m 53 cs = some y) : ∃ t, GtF (LtN w) w (fun i => cs[i]?) t := by
 obtain ⟨xs, m', _, _, hl, hx, hg⟩ := DataW.trod_struct underlying53 h
 rw [show prog.cellsOf 53 = 6 from by kernel_rfl] at hl
 obtain ⟨y0, y1, y2, y3, y4, rfl⟩ : ∃ y0 y1 y2 y3 y4, xs = [y0, y1, y2, y3, y4] := by
  match xs, hx with
  | [y0, y1, y2, y3, y4], _ => exact ⟨y0, y1, y2, y3, y4, rfl⟩
 have t0 : DataW.trod enc prog w 0 (fun _ => true) true m' 39 ((cs.drop 0).take (prog.cellsOf 39)) = some y0 := hg 0 _ rfl
 obtain ⟨grant, egrant⟩ := bFz (o := 0) (by rw [hl]; omega) t0
 have t1 : DataW.trod enc prog w 0 (fun _ => true) true m' 39 ((cs.drop 1).take (prog.cellsOf 39)) = some y1 := hg 1 _ rfl
 obtain ⟨clear, eclear⟩ := bFz (o := 1) (by rw [hl]; omega) t1
 have t2 : DataW.trod enc prog w 0 (fun _ => true) true m' 44 ((cs.drop 2).take (prog.cellsOf 44)) = some y2 := hg 2 _ rfl
 rw [show prog.cellsOf 44 = 2 from by kernel_rfl] at t2
 obtain ⟨space1, space2, espace1, espace2⟩ := xdz t2
 rw [wVz (by omega)] at espace1 espace2
 have t3 : DataW.trod enc prog w 0 (fun _ => true) true m' 22 ((cs.drop 4).take (prog.cellsOf 22)) = some y3 := hg 3 _ rfl
 obtain ⟨pc, epc⟩ := w5z (o := 4) (by rw [hl]; omega) (by kernel_rfl) underlying22 t3
 have t4 : DataW.trod enc prog w 0 (fun _ => true) true m' 22 ((cs.drop 5).take (prog.cellsOf 22)) = some y4 := hg 4 _ rfl
 obtain ⟨arg, earg⟩ := w5z (o := 5) (by rw [hl]; omega) (by kernel_rfl) underlying22 t4
 exact ⟨⟨grant, clear, space1, space2, pc, arg⟩, egrant, eclear, espace1, espace2, epc, earg⟩
theorem ThF.ones {f : Nat → Option Value} {t : Th} (h : ThF (LtN w) w f t) {i : Nat} (hi : i < 35) {v : Value} (e : f i = some v) : v.oneCell' = true := by
 by_cases h16 : i < 16
 ·rw [h.regs i h16] at e; cases e; rfl
 ·obtain rfl | rfl | rfl | rfl | rfl | rfl | rfl | rfl | rfl | rfl | rfl | rfl | rfl | rfl | rfl | rfl | rfl | rfl | rfl : i = 16 ∨ i = 17 ∨ i = 18 ∨ i = 19 ∨ i = 20 ∨ i = 21 ∨ i = 22 ∨ i = 23 ∨ i = 24 ∨ i = 25 ∨ i = 26 ∨ i = 27 ∨ i = 28 ∨ i = 29 ∨ i = 30 ∨ i = 31 ∨ i = 32 ∨ i = 33 ∨ i = 34 := by omega
  ·(rw [h.pc] at e; cases e; rfl)
  ·(obtain ⟨_, _, _, q, _⟩ := h.clear; rw [q] at e; cases e; rfl)
  ·(rw [h.sc] at e; cases e; rfl)
  ·(rw [h.si] at e; cases e; rfl)
  ·(rw [h.handler] at e; cases e; rfl)
  ·(rw [h.vector] at e; cases e; rfl)
  ·(rw [h.state] at e; cases e; rfl)
  ·(rw [h.wc] at e; cases e; rfl)
  ·(rw [h.wi] at e; cases e; rfl)
  ·(rw [h.wx] at e; cases e; rfl)
  ·(rw [h.wv] at e; cases e; rfl)
  ·(rw [h.wd] at e; cases e; rfl)
  ·(obtain ⟨_, _, _, q, _⟩ := h.alerts; rw [q] at e; cases e; rfl)
  ·(rw [h.lo] at e; cases e; rfl)
  ·(rw [h.hi] at e; cases e; rfl)
  ·(obtain ⟨_, _, _, q, _⟩ := h.l0; rw [q] at e; cases e; rfl)
  ·(obtain ⟨_, _, _, q, _⟩ := h.l1; rw [q] at e; cases e; rfl)
  ·(obtain ⟨_, _, _, q, _⟩ := h.l2; rw [q] at e; cases e; rfl)
  ·(obtain ⟨_, _, _, q, _⟩ := h.l3; rw [q] at e; cases e; rfl)
theorem GtF.ones {f : Nat → Option Value} {t : Gt} (h : GtF (LtN w) w f t) {i : Nat} (hi : i < 6) {v : Value} (e : f i = some v) : v.oneCell' = true := by
 obtain rfl | rfl | rfl | rfl | rfl | rfl : i = 0 ∨ i = 1 ∨ i = 2 ∨ i = 3 ∨ i = 4 ∨ i = 5 := by omega
 ·(obtain ⟨_, _, _, q, _⟩ := h.grant; rw [q] at e; cases e; rfl)
 ·(obtain ⟨_, _, _, q, _⟩ := h.clear; rw [q] at e; cases e; rfl)
 ·(rw [h.sc] at e; cases e; rfl)
 ·(rw [h.si] at e; cases e; rfl)
 ·(rw [h.pc] at e; cases e; rfl)
 ·(rw [h.arg] at e; cases e; rfl)
theorem yrz {cs : List Value} (h : DataW.trod enc prog w 0 (fun _ => true) true m 55 cs = some y) : ∃ x, ObD (LtN w) w cs.toArray x := by
 obtain ⟨xs, m', _, _, hl, hx, hg⟩ := DataW.trod_struct underlying55 h
 rw [show prog.cellsOf 55 = 51 from by kernel_rfl] at hl
 obtain ⟨y0, y1, y2, y3, y4, y5, y6, y7, y8, y9, y10, y11, rfl⟩ : ∃ y0 y1 y2 y3 y4 y5 y6 y7 y8 y9 y10 y11, xs = [y0, y1, y2, y3, y4, y5, y6, y7, y8, y9, y10, y11] := by
  match xs, hx with
  | [y0, y1, y2, y3, y4, y5, y6, y7, y8, y9, y10, y11], _ => exact ⟨y0, y1, y2, y3, y4, y5, y6, y7, y8, y9, y10, y11, rfl⟩
 have t0 : DataW.trod enc prog w 0 (fun _ => true) true m' 22 ((cs.drop 0).take (prog.cellsOf 22)) = some y0 := hg 0 _ rfl
 obtain ⟨id, eid⟩ := w5z (o := 0) (by rw [hl]; omega) (by kernel_rfl) underlying22 t0
 have t1 : DataW.trod enc prog w 0 (fun _ => true) true m' 3 ((cs.drop 1).take (prog.cellsOf 3)) = some y1 := hg 1 _ rfl
 obtain ⟨kind, ekind⟩ := w5z (o := 1) (by rw [hl]; omega) (by kernel_rfl) underlying3 t1
 have t2 : DataW.trod enc prog w 0 (fun _ => true) true m' 39 ((cs.drop 2).take (prog.cellsOf 39)) = some y2 := hg 2 _ rfl
 obtain ⟨label, elabel⟩ := bFz (o := 2) (by rw [hl]; omega) t2
 have t3 : DataW.trod enc prog w 0 (fun _ => true) true m' 3 ((cs.drop 3).take (prog.cellsOf 3)) = some y3 := hg 3 _ rfl
 obtain ⟨quota, equota⟩ := w5z (o := 3) (by rw [hl]; omega) (by kernel_rfl) underlying3 t3
 have t4 : DataW.trod enc prog w 0 (fun _ => true) true m' 4 ((cs.drop 4).take (prog.cellsOf 4)) = some y4 := hg 4 _ rfl
 obtain ⟨fixed, efixed⟩ := f_bool (o := 4) (by rw [hl]; omega) t4
 have t5 : DataW.trod enc prog w 0 (fun _ => true) true m' 40 ((cs.drop 5).take (prog.cellsOf 40)) = some y5 := hg 5 _ rfl
 obtain ⟨links, elinks⟩ := f_ct (o := 5) (by rw [hl]; omega) t5
 have t6 : DataW.trod enc prog w 0 (fun _ => true) true m' 40 ((cs.drop 6).take (prog.cellsOf 40)) = some y6 := hg 6 _ rfl
 obtain ⟨data, edata⟩ := f_ct (o := 6) (by rw [hl]; omega) t6
 have t7 : DataW.trod enc prog w 0 (fun _ => true) true m' 41 ((cs.drop 7).take (prog.cellsOf 41)) = some y7 := hg 7 _ rfl
 obtain ⟨maps, emaps⟩ := f_map (o := 7) (by rw [hl]; omega) t7
 have t8 : DataW.trod enc prog w 0 (fun _ => true) true m' 51 ((cs.drop 8).take (prog.cellsOf 51)) = some y8 := hg 8 _ rfl
 rw [show prog.cellsOf 51 = 35 from by kernel_rfl] at t8
 obtain ⟨th, eth⟩ := yaz t8
 have t9 : DataW.trod enc prog w 0 (fun _ => true) true m' 53 ((cs.drop 43).take (prog.cellsOf 53)) = some y9 := hg 9 _ rfl
 rw [show prog.cellsOf 53 = 6 from by kernel_rfl] at t9
 obtain ⟨gt, egt⟩ := yzz t9
 have t10 : DataW.trod enc prog w 0 (fun _ => true) true m' 40 ((cs.drop 49).take (prog.cellsOf 40)) = some y10 := hg 10 _ rfl
 obtain ⟨inn, einn⟩ := f_ct (o := 49) (by rw [hl]; omega) t10
 have t11 : DataW.trod enc prog w 0 (fun _ => true) true m' 40 ((cs.drop 50).take (prog.cellsOf 40)) = some y11 := hg 11 _ rfl
 obtain ⟨out, eout⟩ := f_ct (o := 50) (by rw [hl]; omega) t11
 have eth' : ThF (LtN w) w (fun i => cs[8 + i]?) th := eth.congr fun i hi => wVz hi
 have egt' : GtF (LtN w) w (fun i => cs[43 + i]?) gt := egt.congr fun i hi => wVz hi
 refine ⟨⟨id, kind, label, quota, fixed, links, data, maps, th, gt, inn, out⟩, by simpa using hl, ?_, by simpa using eid, by simpa using ekind, by simpa using elabel, by simpa using equota, by simpa using efixed, by simpa using elinks, by simpa using edata, by simpa using emaps, by simpa using eth', by simpa using egt', by simpa using einn, by simpa using eout⟩
 refine w1z fun j v e => ?_
 have e' : cs[j]? = some v := by simpa using e
 have hj : j < 51 := by rw [← hl]; exact (List.getElem?_eq_some_iff.1 e').1
 by_cases h8 : 8 ≤ j ∧ j < 43
 ·obtain ⟨i, rfl⟩ : ∃ i, j = 8 + i := ⟨j - 8, by omega⟩
  exact eth'.ones (i := i) (by omega) e'
 ·by_cases h43 : 43 ≤ j ∧ j < 49
  ·obtain ⟨i, rfl⟩ : ∃ i, j = 43 + i := ⟨j - 43, by omega⟩
   exact egt'.ones (i := i) (by omega) e'
  ·obtain rfl | rfl | rfl | rfl | rfl | rfl | rfl | rfl | rfl | rfl : j = 0 ∨ j = 1 ∨ j = 2 ∨ j = 3 ∨ j = 4 ∨ j = 5 ∨ j = 6 ∨ j = 7 ∨ j = 49 ∨ j = 50 := by omega
   ·(rw [eid] at e'; cases e'; rfl)
   ·(rw [ekind] at e'; cases e'; rfl)
   ·(obtain ⟨_, _, _, q, _⟩ := elabel; rw [q] at e'; cases e'; rfl)
   ·(rw [equota] at e'; cases e'; rfl)
   ·(rw [efixed] at e'; cases e'; rfl)
   ·(obtain ⟨_, _, _, q, _⟩ := elinks; rw [q] at e'; cases e'; rfl)
   ·(obtain ⟨_, _, _, q, _⟩ := edata; rw [q] at e'; cases e'; rfl)
   ·(obtain ⟨_, _, _, q, _⟩ := emaps; rw [q] at e'; cases e'; rfl)
   ·(obtain ⟨_, _, _, q, _⟩ := einn; rw [q] at e'; cases e'; rfl)
   ·(obtain ⟨_, _, _, q, _⟩ := eout; rw [q] at e'; cases e'; rfl)
end
end
section
open Go.RowKit Go.Shelf
attribute [local go_sem] Oper.semAt_some
section
variable {P : Program} {ops : Array Oper} {rest : List Oper} {op : Oper} {a : Act} {Q : Exit → Act → World → Prop} {w : World}
theorem qTz (hw : Region.wanted op (yielded ops a.tmps) = true) (t : TypeId) (parts : List (Nat × Operand)) (ho : op.op = .build t parts.toArray) (cells : Array Value) (hf : P.built t (parts.map fun p => (p.1, a.eval p.2)) = some cells)
  (h : wpList P ops Q rest (a.put op.dst (.agg cells)) w) : wpList P ops Q (op :: rest) a w := by
 have hf' : P.built t (parts.toArray.map fun (i, x) => (i, a.eval x)).toList = some cells := by simpa using hf
 exact wRz hw (wp_build t parts.toArray ho (by rw [hf']; rfl) (by rw [hf']; exact h))
end
end
section
theorem alo_th {x : Ob} (h : aloO x = x) (hk : ¬ x.kind = 4) : x.th = zTh := by
 have e : (aloO x).th = zTh := by
  unfold aloO
  by_cases h1 : x.kind = 1
  ·rw [if_pos h1]
  rw [if_neg h1]
  by_cases h2 : x.kind = 2
  ·rw [if_pos h2]
  rw [if_neg h2]
  by_cases h3 : x.kind = 3
  ·rw [if_pos h3]
  rw [if_neg h3, if_neg hk]
  by_cases h5 : x.kind = 5
  ·rw [if_pos h5]
  rw [if_neg h5]
  by_cases h6 : x.kind = 6
  ·rw [if_pos h6]
  rw [if_neg h6]; rfl
 rw [h] at e; exact e
theorem alo_gt {x : Ob} (h : aloO x = x) (hk : ¬ x.kind = 5) : x.gt = zGt := by
 have e : (aloO x).gt = zGt := by
  unfold aloO
  by_cases h1 : x.kind = 1
  ·rw [if_pos h1]
  rw [if_neg h1]
  by_cases h2 : x.kind = 2
  ·rw [if_pos h2]
  rw [if_neg h2]
  by_cases h3 : x.kind = 3
  ·rw [if_pos h3]
  rw [if_neg h3]
  by_cases h4 : x.kind = 4
  ·rw [if_pos h4]
  rw [if_neg h4, if_neg hk]
  by_cases h6 : x.kind = 6
  ·rw [if_pos h6]
  rw [if_neg h6]; rfl
 rw [h] at e; exact e
theorem alo_data {x : Ob} (h : aloO x = x) (hk : ¬ x.kind = 1) : x.data = [] := by
 have e : (aloO x).data = [] := by
  unfold aloO
  rw [if_neg hk]
  by_cases h2 : x.kind = 2
  ·rw [if_pos h2]
  rw [if_neg h2]
  by_cases h3 : x.kind = 3
  ·rw [if_pos h3]
  rw [if_neg h3]
  by_cases h4 : x.kind = 4
  ·rw [if_pos h4]
  rw [if_neg h4]
  by_cases h5 : x.kind = 5
  ·rw [if_pos h5]
  rw [if_neg h5]
  by_cases h6 : x.kind = 6
  ·rw [if_pos h6]
  rw [if_neg h6]; rfl
 rw [h] at e; exact e
end
section
open Go.RowKit Go.Shelf
attribute [local go_sem] Oper.semAt_some
section
variable {ops : Array Oper} {Q : Exit → Act → World → Prop} {S : World → Prop} {w : World} {m : Nat} {a : Act} {l : Array Bool}
theorem share (n : Nat) (l' : Array Bool) (F : Act → World → Prop) (hF : ∀ A W, F A W → wpAnyH prog .any ops Q S n l' A W) (h : (∀ A W, F A W → wpAnyH prog .any ops Q S n l' A W) → wpAnyH prog .any ops Q S m l a w) : wpAnyH prog .any ops Q S m l a w := h hF
theorem qRz {i : Nat} {ty : TypeId} {z : Array Value} {d : Option Tmp} {K : Act → World → Prop} (hi : (ops[i]?).bind (fun o => yKz ops o a) = some (ty, d)) (hz : ∀ w, (zeroValue ty).run prog w = .ok (.agg z) w)
  (h : ∀ B W, Hid (w.heap.size = B ∧ W.heap.size = B + 1) → Blk W B z ty → Below w.heap.size w W → K (a.put d (.pointer (some ⟨B, 0, none⟩))) W) : wpOp prog ops Q i K a w := by
 cases ho : ops[i]? with
 | none => rw [ho] at hi; cases hi
 | some o =>
  rw [ho] at hi
  have hi' : yKz ops o a = _ := hi
  unfold yKz at hi'
  split at hi'
  ·rename_i hw
   split at hi'
   ·rename_i t hop
    cases hi'
    unfold wpOp
    simp only [ho, hw, if_true]
    left
    unfold Oper.wp execOp
    simp only [hop, Instr.alloc, hz, newVar, newRow, newObj, Sem.run_bind, Value.cells, Result.andThen_ok]
    exact h _ _ ⟨rfl, by simp⟩ (Blk.new w z ty) ((brz _ w).alloc (lrz _) _)
   ·cases hi'
  ·cases hi'
theorem qQz {i : Nat} {ty : TypeId} {B off : Nat} {v : Value} {d : Option Tmp} {W : World} {K : Act → World → Prop} (hi : (ops[i]?).bind (fun o => ycz ops o a) = some (ty, B, off, v, d)) (hr : (storeVar ty ⟨B, off, none⟩ v).run prog w = .ok () W)
  (h : K (a.put d undef) W) : wpOp prog ops Q i K a w := by
 cases ho : ops[i]? with
 | none => rw [ho] at hi; cases hi
 | some o =>
  rw [ho] at hi
  have hi' : ycz ops o a = _ := hi
  unfold ycz at hi'
  split at hi'
  ·rename_i hw
   split at hi'
   ·rename_i t x y hop
    split at hi'
    ·rename_i b o' hx
     cases hi'
     unfold wpOp
     simp only [ho, hw, if_true]
     left
     unfold Oper.wp execOp
     simp only [hop, hx, Instr.storeAt, Instr.sureAddr, Sem.run_bind, Sem.run_pure, Result.andThen_ok, hr]
     exact h
    ·cases hi'
   ·cases hi'
  ·cases hi'
theorem wBz {i j : Nat} {n : Nat} (hm : m = n + 1) (hr : Region.ready .any ops l = [i, j]) (h : wpOp prog ops Q i (fun a' w' => S w' ∧ wpAnyH prog .any ops Q S n (l.setIfInBounds i true) a' w') a w) (h' : wpOp prog ops Q j (fun a' w' => S w' ∧ wpAnyH prog .any ops Q S n (l.setIfInBounds j true) a' w') a w) : wpAnyH prog .any ops Q S m l a w := by
 subst hm
 refine wpAnyH_all hr (by simp) ?_
 intro k hk
 rw [List.mem_cons, List.mem_singleton] at hk
 rcases hk with rfl | rfl
 ·exact h
 ·exact h'
theorem qkz {i : Nat} {n : Nat} (hm : m = n + 1) (hr : Region.ready .any ops l = [i]) (h : wpOp prog ops Q i (fun a' w' => S w' ∧ wpAnyH prog .any ops Q S n (l.setIfInBounds i true) a' w') a w) : wpAnyH prog .any ops Q S m l a w := by
 subst hm
 refine wpAnyH_all hr (by simp) ?_
 intro k hk
 obtain rfl : k = i := by simpa using hk
 exact h
end
end
section
open Go.ChangeShapes Go.WideShapes Go.ChangeAt Go.RowKit Go.Shelf
attribute [local go_sem] Oper.semAt_some
def oat (l : List Ob) (i : Nat) : Ob := l.getD i zOb
def ObsD (E D : Nat → Prop) (w : World) (ao : Option Addr) (n cap : Nat) (l : List Ob) : Prop :=
 l.length = n ∧ n ≤ cap ∧ (cap ≤ 9223372036854775807 ∧ (ao = none → cap = 0)) ∧
 (0 < n → ∃ b off, ao = some ⟨b, off, none⟩ ∧ E b ∧ ∀ i, i < n → ∃ C, ObD D w C (oat l i) ∧ w.rangeAt b (off + i * 51) C.toList)
theorem qHz {w w' : World} {b o : Nat} {cs : List Value} (h : w.rangeAt b o cs) (k : w'.heap[b]? = w.heap[b]?) : w'.rangeAt b o cs := fun j v hv => (World.cell?_of_block (w := w) (a := ⟨b, o + j, none⟩) k).trans (h j v hv)
section
variable {E E' D D' : Nat → Prop} {w w' : World} {ao : Option Addr} {n cap : Nat} {l : List Ob}
theorem ObsD.laterK (h : ObsD E D w ao n cap l) (k : ∀ b, D b → w'.heap[b]? = w.heap[b]?) (k' : ∀ b, E b → w'.heap[b]? = w.heap[b]?) : ObsD E D w' ao n cap l := by
 obtain ⟨h1, h2, h3, h4⟩ := h
 refine ⟨h1, h2, h3, fun hn => ?_⟩
 obtain ⟨b, off, e, hb, hc⟩ := h4 hn
 refine ⟨b, off, e, hb, fun i hi => ?_⟩
 obtain ⟨C, hC, hr⟩ := hc i hi
 exact ⟨C, hC.laterK k, qHz hr (k' b hb)⟩
theorem ObsD.wide (h : ObsD E D w ao n cap l) (k : ∀ b, D b → D' b) (k' : ∀ b, E b → E' b) : ObsD E' D' w ao n cap l := by
 obtain ⟨h1, h2, h3, h4⟩ := h
 refine ⟨h1, h2, h3, fun hn => ?_⟩
 obtain ⟨b, off, e, hb, hc⟩ := h4 hn
 refine ⟨b, off, e, k' b hb, fun i hi => ?_⟩
 obtain ⟨C, hC, hr⟩ := hc i hi
 exact ⟨C, hC.wide k, hr⟩
theorem ObsD.nil (E D : Nat → Prop) (w : World) : ObsD E D w none 0 0 [] := ⟨rfl, lrz _, ⟨by omega, fun _ => rfl⟩, fun h => absurd h (by omega)⟩
end
abbrev Obs (w : World) (ao : Option Addr) (n cap : Nat) (l : List Ob) : Prop := ObsD (LtN w) (LtN w) w ao n cap l
theorem qwz {w w' : World} {ao : Option Addr} {n cap : Nat} {l : List Ob} (h : Obs w ao n cap l) (k : Below w.heap.size w w') : Obs w' ao n cap l :=
 (ObsD.laterK h (fun b hb => k.block b hb) (fun b hb => k.block b hb)).wide (fun b hb => ltz hb k.size) (fun b hb => ltz hb k.size)
theorem w3z {w : World} {ao : Option Addr} {n cap : Nat} {l : List Ob} (h : Obs w ao n cap l) {i : Nat} (hi : i < n) : ∃ b off C, ao = some ⟨b, off, none⟩ ∧ b < w.heap.size ∧ ObD (LtN w) w C (oat l i) ∧ w.rangeAt b (off + i * 51) C.toList := by
 obtain ⟨b, off, e, hb, hc⟩ := h.2.2.2 (by omega)
 obtain ⟨C, hC, hr⟩ := hc i hi
 exact ⟨b, off, C, e, hb, hC, hr⟩
section
variable {P : Program} {ops : Array Oper} {rest : List Oper} {op : Oper} {a : Act} {Q : Exit → Act → World → Prop} {w : World}
theorem qxz (hw : Region.wanted op (yielded ops a.tmps) = true) (ty : TypeId) (x : Operand) (ho : op.op = .load ty x) (b o : Nat) (hx : a.eval x = .pointer (some ⟨b, o, none⟩)) (C : Array Value) (hr : w.rangeAt b o C.toList) (d : TypeDesc)
  (hu : P.underlying ty = some d) (hd : d.isRow = true) (hi : (P.info? ty).map (·.size) = some C.size) (h : wpList P ops Q rest (a.put op.dst (.agg C)) w) : wpList P ops Q (op :: rest) a w := by
 refine q7z hw ?_ h
 have := run_loadVar_mid (P := P) w b o ty C.toList d hr hu hd (by simpa using hi)
 rw [Array.toArray_toList] at this
 unfold execOp
 simp [ho, hx, Instr.loadAt, Instr.sureAddr, this]
end
theorem wHz {S : World → Prop} {P : Program} {ty : TypeId} {b o : Nat} {C : Array Value} (hr : ∀ w, S w → w.rangeAt b o C.toList) {d : TypeDesc} (hu : P.underlying ty = some d) (hd : d.isRow = true) (hi : (P.info? ty).map (·.size) = some C.size) : Obl.holds P S (.load ty b o (.agg C)) := fun w hS => by
 have := run_loadVar_mid (P := P) w b o ty C.toList d (hr w hS) hu hd (by simpa using hi)
 rw [Array.toArray_toList] at this
 exact this
end
section
open Go.RowKit Go.Shelf
attribute [local go_sem] Oper.semAt_some
variable {l : List Ob}
theorem qMz {i : Nat} (h : i < l.length) : oat l i = l[i] := by unfold oat; rw [List.getD_eq_getElem?_getD, List.getElem?_eq_getElem h]; rfl
theorem wxz {i : Nat} (h : i < l.length) : oat l i ∈ l := by rw [qMz h]; exact List.getElem_mem h
theorem xfz {w : World} {C : Array Value} {x : Ob} (h : ObD (LtN w) w C x) : Calls prog 130 #[.agg C] w fun e w' => e = .returned (.int .u64 x.id) ∧ Below w.heap.size w w' := by
 have c0 := h.id
 have ga1 := isAgg22
 go_enter func130, ntmps130
 go_wp2_with (first
  | (with_reducible refine qcz rfl _ _ rfl C rfl ?_; intro B W hB hb hk)
  | (with_reducible refine qaz (by kernel_rfl) _ _ rfl B _ rfl _ _ hb _ (by assumption) (by assumption) ?_))
 go_ret
 exact ⟨rfl, hk⟩
theorem bsz : idsB l = true ↔ ∀ i, i + 1 < l.length → (oat l i).id < (oat l (i + 1)).id := by
 unfold idsB
 rw [kQz]
 refine ⟨fun h i hi => ?_, fun h i hi => ?_⟩
 ·have := h i (by rw [List.length_map]; exact hi)
  rw [List.getD_eq_getElem?_getD, List.getD_eq_getElem?_getD, List.getElem?_map, List.getElem?_map, List.getElem?_eq_getElem (by omega), List.getElem?_eq_getElem hi] at this
  rw [qMz (by omega), qMz hi]
  exact this
 ·rw [List.length_map] at hi
  have := h i hi
  rw [qMz (by omega), qMz hi] at this
  rw [List.getD_eq_getElem?_getD, List.getD_eq_getElem?_getD, List.getElem?_map, List.getElem?_map, List.getElem?_eq_getElem (by omega), List.getElem?_eq_getElem hi]
  exact this
theorem kZz {S : World → Prop} {b off i n cap : Nat} (hi : i < n) : Obl.holds prog S (.ia 23 (.slice (some ⟨b, off, none⟩) n cap) (.int .i64 i) (.pointer (some ⟨b, off + i * 51, none⟩))) := fun w hS => by
 have hi' : (i : Int) < n := by omega
 go_simp
theorem jjz {S : World → Prop} {x y : Operand} {k j : Nat} (hj : Hid (k = j + 1)) (hw : IntKind.i64.wrap ((k : Int) - 1) = (j : Int)) : Obl.holds prog S (.test .sub 3 x y (.int .i64 k) (.int .i64 1) (.int .i64 j)) := fun w hS => by
 go_simp
theorem xez {w : World} {G : Array Value} {ao : Option Addr} {n cap : Nat} (c3 : G[3]? = some (.slice ao n cap)) : Calls prog 80 #[.agg G] w fun e w' => e = .returned (.agg #[.slice ao n cap, .func (.func 130) #[] #[]]) ∧ Below w.heap.size w w' := by
 go_enter func80, ntmps80
 go_wp2_with (first
  | (with_reducible refine qcz rfl _ _ rfl G rfl ?_; intro B W hB hb hk; have q6 := fun o => cellLater ((hb.cell 3).trans c3) o))
 refine bodyPost_ret (v := .agg #[.slice ao n cap, .func (.func 130) #[] #[]]) (by simp [results, Tryz.f80, go_sem]) rfl ?_
 exact ⟨rfl, hk.alloc hk.size _⟩
theorem xsz {t ke ro : Int} {X : List Ob} : fitW ⟨t, ke, ro, X⟩ = true ↔ 0 ≤ t ∧ t ≤ 1099511627776 ∧ X.length ≤ 1024 ∧ idsB X = true ∧ ∀ i, i < X.length → q9z (oat X i) = true := by
 unfold fitW
 simp only [Bool.and_eq_true, decide_eq_true_iff, List.all_eq_true]
 refine ⟨fun h => ⟨h.1, h.2.1, h.2.2.1, h.2.2.2.1, fun i hi => h.2.2.2.2 _ (wxz hi)⟩, fun h => ⟨h.1, h.2.1, h.2.2.1, h.2.2.2.1, fun x hx => ?_⟩⟩
 obtain ⟨i, hi, rfl⟩ := List.getElem_of_mem hx
 have := h.2.2.2.2 i hi
 rw [qMz hi] at this
 exact this
end
section
def puR (l : List Ob) (o : Ob) : List Ob := lowL l o.id ++ o :: higL l o.id
variable {l : List Ob} {i : Int} {x : Ob}
theorem x7z : x ∈ lowL l i ↔ x ∈ l ∧ x.id < i := by unfold lowL; simp
theorem kVz : x ∈ higL l i ↔ x ∈ l ∧ i < x.id := by unfold higL; simp
theorem xGz {o x : Ob} : x ∈ puR l o ↔ x = o ∨ (x ∈ l ∧ x.id ≠ o.id) := by
 unfold puR
 rw [List.mem_append, List.mem_cons, x7z, kVz]
 constructor
 ·rintro (⟨h, k⟩ | h | ⟨h, k⟩)
  ·exact .inr ⟨h, by omega⟩
  ·exact .inl h
  ·exact .inr ⟨h, by omega⟩
 ·rintro (h | ⟨h, k⟩)
  ·exact .inr (.inl h)
  ·rcases Int.lt_or_gt_of_ne k with q | q
   ·exact .inl ⟨h, q⟩
   ·exact .inr (.inr ⟨h, q⟩)
theorem mem_drp : x ∈ drpL l i ↔ x ∈ l ∧ x.id ≠ i := by
 unfold drpL
 rw [List.mem_append, x7z, kVz]
 constructor
 ·rintro (⟨h, k⟩ | ⟨h, k⟩) <;> exact ⟨h, by omega⟩
 ·rintro ⟨h, k⟩
  rcases Int.lt_or_gt_of_ne k with q | q
  ·exact .inl ⟨h, q⟩
  ·exact .inr ⟨h, q⟩
theorem gsz (h : Srt l) (i : Int) : Srt (lowL l i) := h.filter _
theorem gtz (h : Srt l) (i : Int) : Srt (higL l i) := h.filter _
theorem x2z (h : Srt l) (o : Ob) : Srt (puR l o) := by
 unfold puR Srt
 rw [List.pairwise_append, List.pairwise_cons]
 refine ⟨gsz h _, ⟨fun x hx => (kVz.1 hx).2, gtz h _⟩, fun x hx y hy => ?_⟩
 have hx' := (x7z.1 hx).2
 rcases List.mem_cons.1 hy with rfl | hy
 ·exact hx'
 ·have := (kVz.1 hy).2; omega
theorem srt_drp (h : Srt l) (i : Int) : Srt (drpL l i) := by
 unfold drpL Srt
 rw [List.pairwise_append]
 refine ⟨gsz h _, gtz h _, fun x hx y hy => ?_⟩
 have hx' := (x7z.1 hx).2
 have := (kVz.1 hy).2; omega
theorem srt_uniq (h : Srt l) {x y : Ob} (hx : x ∈ l) (hy : y ∈ l) (e : x.id = y.id) : x = y := by
 induction l with
 | nil => cases hx
 | cons z r ih =>
  obtain ⟨h1, h2⟩ := List.pairwise_cons.1 h
  rcases List.mem_cons.1 hx with rfl | hx
  ·rcases List.mem_cons.1 hy with rfl | hy
   ·rfl
   ·have := h1 y hy; omega
  ·rcases List.mem_cons.1 hy with q | hy
   ·have := h1 x hx; rw [q] at e; omega
   ·exact ih h2 hx hy
theorem srt_ext {l m : List Ob} (h : Srt l) (k : Srt m) (e : ∀ x, x ∈ l ↔ x ∈ m) : l = m := by
 induction l generalizing m with
 | nil =>
  cases m with
  | nil => rfl
  | cons y r => exact absurd ((e y).2 (List.mem_cons_self ..)) (by simp)
 | cons x r ih =>
  cases m with
  | nil => exact absurd ((e x).1 (List.mem_cons_self ..)) (by simp)
  | cons y s =>
   obtain ⟨h1, h2⟩ := List.pairwise_cons.1 h
   obtain ⟨k1, k2⟩ := List.pairwise_cons.1 k
   have hxy : x = y := by
    rcases List.mem_cons.1 ((e x).1 (List.mem_cons_self ..)) with q | q
    ·exact q
    ·rcases List.mem_cons.1 ((e y).2 (List.mem_cons_self ..)) with p | p
     ·exact p.symm
     ·have := k1 x q; have := h1 y p; omega
   subst hxy
   congr 1
   refine ih h2 k2 fun z => ⟨fun hz => ?_, fun hz => ?_⟩
   ·rcases List.mem_cons.1 ((e z).1 (List.mem_cons_of_mem _ hz)) with q | q
    ·have := h1 z hz; rw [q] at this; omega
    ·exact q
   ·rcases List.mem_cons.1 ((e z).2 (List.mem_cons_of_mem _ hz)) with q | q
    ·have := k1 z hz; rw [q] at this; omega
    ·exact q
theorem xVz (h : Srt l) : fnd l i = some x ↔ x ∈ l ∧ x.id = i := by
 unfold fnd
 constructor
 ·intro e
  have h1 := List.mem_of_find?_eq_some e
  have h2 := List.find?_some e
  exact ⟨h1, by simpa using h2⟩
 ·rintro ⟨hx, e⟩
  cases hf : l.find? fun x => decide (x.id = i) with
  | none =>
   have := List.find?_eq_none.1 hf x hx
   simp [e] at this
  | some y =>
   have h1 := List.mem_of_find?_eq_some hf
   have h2 : y.id = i := by have := List.find?_some hf; simpa using this
   rw [srt_uniq h hx h1 (by rw [e, h2])]
theorem kxz : fnd l i = none ↔ ∀ x ∈ l, x.id ≠ i := by
 unfold fnd; rw [List.find?_eq_none]; simp
theorem yAz (h : Srt l) (o : Ob) : fnd (puR l o) o.id = some o := (xVz (x2z h o)).2 ⟨xGz.2 (.inl rfl), rfl⟩
theorem x8z (h : Srt l) {o : Ob} (hi : i ≠ o.id) : fnd (puR l o) i = fnd l i := by
 apply Option.ext
 intro x
 rw [xVz (x2z h o), xVz h, xGz]
 constructor
 ·rintro ⟨rfl | ⟨hx, _⟩, e⟩
  ·exact absurd e.symm hi
  ·exact ⟨hx, e⟩
 ·rintro ⟨hx, e⟩; exact ⟨.inr ⟨hx, by rw [e]; exact hi⟩, e⟩
theorem uuz (h : Srt l) (e : fnd l i = none) : drpL l i = l := by
 refine srt_ext (srt_drp h i) h fun y => ?_
 rw [mem_drp]
 exact ⟨fun q => q.1, fun q => ⟨q, kxz.1 e y q⟩⟩
theorem bbz (l : List Ob) (i : Int) : (lowL l i).length + (higL l i).length ≤ l.length := by
 unfold lowL higL
 induction l with
 | nil => simp
 | cons x r ih =>
  simp only [List.filter_cons, List.length_cons]
  by_cases h1 : x.id < i
  ·rw [if_pos (by simpa using h1), if_neg (by simp; omega)]; simp only [List.length_cons]; omega
  ·by_cases h2 : i < x.id
   ·rw [if_neg (by simpa using h1), if_pos (by simpa using h2)]; simp only [List.length_cons]; omega
   ·rw [if_neg (by simpa using h1), if_neg (by simpa using h2)]; omega
theorem yqz (l : List Ob) (o : Ob) : (puR l o).length ≤ l.length + 1 := by
 have := bbz l o.id
 unfold puR; simp only [List.length_append, List.length_cons]; omega
theorem k9z (l : List Ob) (i : Int) : ahd l i ≤ l.length := by unfold ahd lowL; exact List.length_filter_le ..
theorem ktz (h : Srt l) (i : Int) : lowL l i = l.take (ahd l i) := by
 unfold ahd lowL
 induction l with
 | nil => rfl
 | cons x r ih =>
  obtain ⟨h1, h2⟩ := List.pairwise_cons.1 h
  by_cases hx : x.id < i
  ·rw [List.filter_cons_of_pos (by simpa using hx)]
   rw [List.length_cons, List.take_succ_cons, ← ih h2]
  ·have : r.filter (fun x => decide (x.id < i)) = [] := by
    rw [List.filter_eq_nil_iff]
    intro y hy
    have := h1 y hy
    simp; omega
   rw [List.filter_cons_of_neg (by simpa using hx), this]; rfl
theorem ahd_of {k : Nat} (hk : k ≤ l.length) (h1 : ∀ j, j < k → (oat l j).id < i) (h2 : ∀ j, k ≤ j → j < l.length → i ≤ (oat l j).id) : ahd l i = k := by
 have e1 : lowL (l.take k) i = l.take k := by
  unfold lowL
  rw [List.filter_eq_self]
  intro x hx
  obtain ⟨j, hj, rfl⟩ := List.getElem_of_mem hx
  have hj' : j < k := by simp at hj; omega
  have := h1 j hj'
  rw [qMz (by simp at hj; omega)] at this
  simpa using this
 have e2 : lowL (l.drop k) i = [] := by
  unfold lowL
  rw [List.filter_eq_nil_iff]
  intro x hx
  obtain ⟨j, hj, rfl⟩ := List.getElem_of_mem hx
  have := h2 (k + j) (by omega) (by simp at hj; omega)
  rw [qMz (by simp at hj; omega)] at this
  simpa using this
 have e : lowL l i = l.take k := by
  conv => lhs; rw [← List.take_append_drop k l]
  unfold lowL at e1 e2 ⊢
  rw [List.filter_append, e1, e2, List.append_nil]
 unfold ahd
 rw [e]; simp [hk]
theorem ahd_lt (h : Srt l) {j : Nat} (hj : j < ahd l i) : (oat l j).id < i := by
 have hl := k9z l i
 have hm : oat l j ∈ lowL l i := by
  rw [ktz h, qMz (by omega)]
  exact List.mem_take_iff_getElem.2 ⟨j, by omega, rfl⟩
 exact (x7z.1 hm).2
theorem bYz (h : Srt l) {j : Nat} (hj : ahd l i ≤ j) (hl : j < l.length) : i ≤ (oat l j).id := by
 rcases Int.lt_or_le (oat l j).id i with q | q
 ·exfalso
  have hm : oat l j ∈ lowL l i := x7z.2 ⟨wxz hl, q⟩
  rw [ktz h] at hm
  obtain ⟨k, hk, e⟩ := List.getElem_of_mem hm
  have hk' : k < ahd l i ∧ k < l.length := by simp at hk; omega
  rw [List.getElem_take, qMz hl] at e
  have hs := List.pairwise_iff_getElem.1 h k j (by omega) hl (by omega)
  rw [e] at hs
  omega
 ·exact q
def fin (l : List Ob) (i : Int) : Nat := if (fnd l i).isSome then ahd l i + 1 else ahd l i
theorem jAz (h : Srt l) (hl : ahd l i < l.length) (e : (oat l (ahd l i)).id = i) : fnd l i = some (oat l (ahd l i)) := (xVz h).2 ⟨wxz hl, e⟩
theorem wJz (h : Srt l) (k : ¬ (ahd l i < l.length ∧ (oat l (ahd l i)).id = i)) : fnd l i = none := by
 rw [kxz]
 intro x hx e
 obtain ⟨j, hj, rfl⟩ := List.getElem_of_mem hx
 rw [← qMz hj] at e
 have h1 : ahd l i ≤ j := by
  rcases Nat.lt_or_ge j (ahd l i) with q | q
  ·have := ahd_lt h q; omega
  ·exact q
 have hlt : ahd l i < l.length := by omega
 rcases Nat.lt_or_ge (ahd l i) j with q | q
 ·have hs := List.pairwise_iff_getElem.1 h _ j hlt hj q
  have := bYz h (lrz (ahd l i)) hlt
  rw [qMz hlt] at this
  rw [qMz hj] at e
  omega
 ·have : ahd l i = j := by omega
  exact k ⟨hlt, by rw [this]; exact e⟩
theorem fin_le (h : Srt l) (i : Int) : fin l i ≤ l.length := by
 unfold fin
 by_cases q : ahd l i < l.length ∧ (oat l (ahd l i)).id = i
 ·split <;> omega
 ·rw [wJz h q]; exact k9z l i
theorem ukz (h : Srt l) (i : Int) : higL l i = l.drop (fin l i) := by
 have key : higL l i = higL (l.drop (fin l i)) i := by
  conv => lhs; rw [← List.take_append_drop (fin l i) l]
  unfold higL
  rw [List.filter_append]
  have : (l.take (fin l i)).filter (fun x => decide (i < x.id)) = [] := by
   rw [List.filter_eq_nil_iff]
   intro x hx
   obtain ⟨j, hj, rfl⟩ := List.getElem_of_mem hx
   have hj' : j < fin l i ∧ j < l.length := by simp at hj; omega
   rw [List.getElem_take, ← qMz hj'.2]
   rcases Nat.lt_or_ge j (ahd l i) with q | q
   ·have := ahd_lt h q; simp; omega
   ·unfold fin at hj'
    by_cases q2 : ahd l i < l.length ∧ (oat l (ahd l i)).id = i
    ·rw [jAz h q2.1 q2.2] at hj'
     have : j = ahd l i := by simp at hj'; omega
     rw [this, q2.2]; simp
    ·rw [wJz h q2] at hj'; simp at hj'; omega
  rw [this, List.nil_append]
 rw [key]
 unfold higL
 rw [List.filter_eq_self]
 intro x hx
 obtain ⟨j, hj, rfl⟩ := List.getElem_of_mem hx
 rw [List.getElem_drop, ← qMz (by simp at hj; omega)]
 have hl : fin l i + j < l.length := by simp at hj; omega
 have hf : ahd l i ≤ fin l i := by unfold fin; split <;> omega
 have := bYz h (i := i) (j := fin l i + j) (by omega) hl
 simp only [decide_eq_true_iff]
 rcases Int.lt_or_eq_of_le this with q | q
 ·exact q
 ·exfalso
  have hs := (xVz h (i := i)).2 ⟨wxz hl, q.symm⟩
  have he : fin l i = ahd l i + 1 := by unfold fin; rw [hs]; rfl
  have hlt : ahd l i < fin l i + j := by omega
  have hp := List.pairwise_iff_getElem.1 h _ _ (by omega) hl hlt
  have h0 := bYz h (i := i) (lrz (ahd l i)) (by omega)
  rw [qMz (by omega)] at h0
  rw [qMz hl] at q
  omega
theorem gUz (h : Srt l) (o : Ob) : l.take (ahd l o.id) ++ [o] ++ l.drop (fin l o.id) = puR l o := by
 unfold puR; rw [ktz h, ukz h]; simp
theorem gVz (h : Srt l) (i : Int) : l.take (ahd l i) ++ [] ++ l.drop (fin l i) = drpL l i := by
 unfold drpL; rw [ktz h, ukz h]; simp
end
section
open Go.RowKit Go.Shelf
attribute [local go_sem] Oper.semAt_some
def RowO (D : Nat → Prop) (w : World) : List Ob → List Value → Prop
 | [], cs => cs = []
 | x :: l, cs => ∃ (C : Array Value) (r : List Value), cs = C.toList ++ r ∧ ObD D w C x ∧ RowO D w l r
section
variable {E E' D D' : Nat → Prop} {w w' : World} {ao : Option Addr} {n cap : Nat} {l m : List Ob} {cs ds : List Value}
theorem RowO.len : ∀ {l : List Ob} {cs : List Value}, RowO D w l cs → cs.length = l.length * 51
 | [], cs, h => by cases h; rfl
 | x :: l, cs, ⟨C, r, e, hC, hr⟩ => by
  have := RowO.len hr
  rw [e, List.length_append, this, Array.length_toList, hC.size, List.length_cons]; omega
theorem RowO.one : ∀ {l : List Ob} {cs : List Value}, RowO D w l cs → ∀ u ∈ cs, u.oneCell' = true
 | [], cs, h, u, hu => by cases h; cases hu
 | x :: l, cs, ⟨C, r, e, hC, hr⟩, u, hu => by
  rw [e, List.mem_append] at hu
  rcases hu with q | q
  ·have := hC.one
   rw [Array.all_eq_true_iff_forall_mem] at this
   exact this u (Array.mem_toList_iff.1 q)
  ·exact RowO.one hr u q
theorem RowO.app : ∀ {l : List Ob} {cs : List Value}, RowO D w l cs → RowO D w m ds → RowO D w (l ++ m) (cs ++ ds)
 | [], cs, h, k => by cases h; exact k
 | x :: l, cs, ⟨C, r, e, hC, hr⟩, k => ⟨C, r ++ ds, by rw [e, List.append_assoc], hC, RowO.app hr k⟩
theorem RowO.laterK : ∀ {l : List Ob} {cs : List Value}, RowO D w l cs → (∀ b, D b → w'.heap[b]? = w.heap[b]?) → RowO D w' l cs
 | [], cs, h, k => h
 | x :: l, cs, ⟨C, r, e, hC, hr⟩, k => ⟨C, r, e, hC.laterK k, RowO.laterK hr k⟩
theorem RowO.wide : ∀ {l : List Ob} {cs : List Value}, RowO D w l cs → (∀ b, D b → D' b) → RowO D' w l cs
 | [], cs, h, k => h
 | x :: l, cs, ⟨C, r, e, hC, hr⟩, k => ⟨C, r, e, hC.wide k, RowO.wide hr k⟩
theorem RowO.at : ∀ {l : List Ob} {cs : List Value}, RowO D w l cs → ∀ i, i < l.length → ∃ C, ObD D w C (oat l i) ∧ ∀ j v, C[j]? = some v → cs[i * 51 + j]? = some v
 | [], cs, h, i, hi => absurd hi (by simp)
 | x :: l, cs, ⟨C, r, e, hC, hr⟩, 0, hi => ⟨C, hC, fun j v hv => by
   have hj : j < C.size := (Array.getElem?_eq_some_iff.1 hv).1
   rw [e, Nat.zero_mul, Nat.zero_add, List.getElem?_append_left (by simpa using hj)]
   simpa using hv⟩
 | x :: l, cs, ⟨C, r, e, hC, hr⟩, i + 1, hi => by
  obtain ⟨C', h1, h2⟩ := RowO.at hr i (by simpa using hi)
  refine ⟨C', h1, fun j v hv => ?_⟩
  have hz := hC.size
  rw [e, List.getElem?_append_right (by simp; omega)]
  rw [show (i + 1) * 51 + j - C.toList.length = i * 51 + j by simp; omega]
  exact h2 j v hv
theorem gQz {b o : Nat} {xs ys : List Value} (h : w.rangeAt b o xs) (k : w.rangeAt b (o + xs.length) ys) : w.rangeAt b o (xs ++ ys) := fun j v hv => by
 rcases Nat.lt_or_ge j xs.length with q | q
 ·rw [List.getElem?_append_left q] at hv; exact h j v hv
 ·rw [List.getElem?_append_right q] at hv
  have := k _ v hv
  rwa [show o + xs.length + (j - xs.length) = o + j by omega] at this
theorem kez {b : Nat} : ∀ (l : List Ob) (off : Nat), (∀ i, i < l.length → ∃ C, ObD D w C (oat l i) ∧ w.rangeAt b (off + i * 51) C.toList) → ∃ cs, RowO D w l cs ∧ w.rangeAt b off cs
 | [], off, _ => ⟨[], rfl, fun j v hv => by simp at hv⟩
 | x :: l, off, h => by
  obtain ⟨C, hC, hr⟩ := h 0 (by simp)
  obtain ⟨cs, h1, h2⟩ := kez l (off + 51) (fun i hi => by
   obtain ⟨C', a, b⟩ := h (i + 1) (by simpa using hi)
   exact ⟨C', a, by rwa [show off + 51 + i * 51 = off + (i + 1) * 51 by omega]⟩)
  have hz := hC.size
  refine ⟨C.toList ++ cs, ⟨C, cs, rfl, hC, h1⟩, gQz (by simpa using hr) ?_⟩
  rw [Array.length_toList, hz]; exact h2
theorem ObsD.rows (h : ObsD E D w ao n cap l) : ∃ cs, RowO D w l cs ∧ RowC 51 E w ao n cap cs := by
 obtain ⟨h1, h2, h3, h4⟩ := h
 rcases Nat.eq_zero_or_pos n with h0 | h0
 ·have hl : l = [] := List.eq_nil_of_length_eq_zero (by omega)
  subst hl
  exact ⟨[], rfl, by rw [h0]; rfl, h2, h3, fun hn => absurd hn (by omega)⟩
 ·obtain ⟨b, off, e, hb, hc⟩ := h4 h0
  obtain ⟨cs, k1, k2⟩ := kez l off (fun i hi => hc i (by omega))
  exact ⟨cs, k1, by rw [k1.len, h1], h2, h3, fun _ => ⟨b, off, e, hb, k2⟩⟩
theorem RowC.obs (h : RowC 51 E w ao n cap cs) (k : RowO D w l cs) : ObsD E D w ao n cap l := by
 obtain ⟨h1, h2, h3, h4⟩ := h
 have hl : l.length = n := by have := k.len; omega
 refine ⟨hl, h2, h3, fun hn => ?_⟩
 obtain ⟨b, off, e, hb, hr⟩ := h4 hn
 refine ⟨b, off, e, hb, fun i hi => ?_⟩
 obtain ⟨C, c1, c2⟩ := k.at i (by omega)
 refine ⟨C, c1, fun j v hv => ?_⟩
 have := hr _ v (c2 j v (by simpa using hv))
 rwa [show off + (i * 51 + j) = off + i * 51 + j by omega] at this
theorem oat_take {i k : Nat} (h : i < k) : oat (l.take k) i = oat l i := by
 unfold oat; rw [List.getD_eq_getElem?_getD, List.getD_eq_getElem?_getD, List.getElem?_take, if_pos h]
theorem oat_drop {i k : Nat} : oat (l.drop k) i = oat l (k + i) := by
 unfold oat; rw [List.getD_eq_getElem?_getD, List.getD_eq_getElem?_getD, List.getElem?_drop]
theorem ObsD.to {k : Nat} (h : ObsD E D w ao n cap l) (hk : k ≤ n) : ObsD E D w ao k cap (l.take k) := by
 obtain ⟨h1, h2, h3, h4⟩ := h
 refine ⟨by rw [List.length_take]; omega, by omega, h3, fun hn => ?_⟩
 obtain ⟨b, off, e, hb, hc⟩ := h4 (by omega)
 refine ⟨b, off, e, hb, fun i hi => ?_⟩
 rw [oat_take hi]
 exact hc i (by omega)
theorem vsz {k : Nat} (hk : k ≤ n) (hn : n ≤ cap) (W : World) : (Instr.sliceAt 23 (.slice ao n cap) none (some (.int .i64 (k : Int))) none).run prog W = .ok (.slice ao k cap) W := by
 have h2 : k ≤ cap := by omega
 unfold Instr.sliceAt Instr.slice Instr.sliceBounds
 simp [go_sem, run_underlying underlying23, Result.andThen, h2]
theorem yhz {k : Nat} (h : ObsD E D w ao n cap l) (hk : k ≤ n) : ∃ a', ObsD E D w a' (n - k) (cap - k) (l.drop k) ∧ (∀ W, (Instr.sliceAt 23 (.slice ao n cap) (some (.int .i64 (k : Int))) none none).run prog W = .ok (.slice a' (n - k) (cap - k)) W) := by
 cases ao with
 | none =>
  have h0 := h.2.2.1.2 rfl
  have hn := h.2.1
  obtain rfl : n = 0 := by omega
  obtain rfl : k = 0 := by omega
  subst h0
  refine ⟨none, by simpa using h, fun W => ?_⟩
  unfold Instr.sliceAt Instr.slice Instr.sliceBounds
  simp [go_sem, run_underlying underlying23, Result.andThen]
 | some a =>
  have hn := h.2.1
  by_cases hc : cap = k
  ·have hkn : k = n := by omega
   refine ⟨some a, ?_, fun W => ?_⟩
   ·obtain ⟨h1, h2, h3, h4⟩ := h
    exact ⟨by rw [List.length_drop]; omega, by omega, ⟨by omega, fun e => by cases e⟩, fun hz => by omega⟩
   ·subst hc
    unfold Instr.sliceAt Instr.slice Instr.sliceBounds
    simp [go_sem, run_underlying underlying23, Result.andThen, hk]
  ·refine ⟨some (a.add (k * 51)), ?_, fun W => ?_⟩
   ·obtain ⟨h1, h2, h3, h4⟩ := h
    refine ⟨by rw [List.length_drop]; omega, by omega, ⟨by omega, fun e => by cases e⟩, fun hz => ?_⟩
    obtain ⟨b, off, e, hb, hx⟩ := h4 (by omega)
    cases e
    refine ⟨b, off + k * 51, ?_, hb, fun i hi => ?_⟩
    ·unfold Addr.add
     split
     ·rename_i h0; rw [h0]; rfl
     ·rfl
    ·rw [oat_drop, show off + k * 51 + i * 51 = off + (k + i) * 51 by omega]
     exact hx _ (by omega)
   ·unfold Instr.sliceAt Instr.slice Instr.sliceBounds
    simp [go_sem, run_underlying underlying23, Result.andThen, hk, hc]
end
theorem infoO : (prog.info? 55).map (fun i => (i.zero, i.size, i.bytes)) = some (some (.agg zC), 51, 632) := by kernel_rfl
theorem run_bs1 {C : Array Value} (hz : C.size = 51) (w : World) : (Instr.buildSlice 23 1 #[(0, .agg C)]).run prog w = .ok (.slice (some ⟨w.heap.size, 0, none⟩) 1 1) (w.alloc (.cells C 55)) := by
 obtain ⟨i0, hi, hz0, hz1, hz2⟩ := info_parts infoO
 refine run_buildSlice w _ _ 1 _ C i0 _ underlying23 hi hz0 (by rw [hz1]; omega) (by rw [hz1]; omega) ?_
 rw [hz1]
 have := Great.fill_whole (s := 51) (by omega) [.agg C] ((Array.range (1 * 51)).map ((Value.agg zC).cells[· % (Value.agg zC).cells.size]!)) (by simp [Value.cells, hz]) (by simp)
 simpa [Value.cells] using this
variable {ao : Option Addr} {n cap : Nat}
theorem RowC.next {k : Nat} {w w' : World} {cs : List Value} (h : RowC k (LtN w) w ao n cap cs) (q : Below w.heap.size w w') : RowC k (LtN w') w' ao n cap cs := by
 obtain ⟨h1, h2, h3, h4⟩ := h
 refine ⟨h1, h2, h3, fun hn => ?_⟩
 obtain ⟨b, off, e, hb, hr⟩ := h4 hn
 exact ⟨b, off, e, ltz hb q.size, qHz hr (q.block b hb)⟩
variable {w : World}
theorem y1z {base : Nat} {e : TypeId} {k : Nat} {v : Value} {n : Nat} {xs : List Value} (h : w.ownsRow base e k v n xs) : ∀ j, v.ownBlock = some j → base ≤ j := by
 intro j hj
 rcases h.2 with ⟨rfl, _⟩ | ⟨g, c, cur, rfl, hb, _⟩
 ·cases hj
 ·cases hj; exact hb
def psum (f : Nat → Nat) : Nat → Nat
 | 0 => 0
 | i + 1 => psum f i + f i
def pcat (f : Nat → List Value) : Nat → List Value
 | 0 => []
 | i + 1 => pcat f i ++ f i
theorem xNz (f : Nat → Nat) {i j : Nat} (h : i ≤ j) : psum f i ≤ psum f j := by
 induction h with
 | refl => exact lrz _
 | step _ ih => exact Nat.le_trans ih (Nat.le_add_right _ _)
theorem grow_any {N : Nat} (hN : N < 4294967296) : Calls prog 168 #[.slice none 0 0, .int .i64 (N : Int)] w fun e w' => ∃ v, e = .returned v ∧ w'.ownsRow w.heap.size 55 51 v 0 [] ∧ Below w.heap.size w w' := by
 have h1 : ¬ ((N : Int) < 0) := by omega
 rcases Nat.eq_zero_or_pos N with h0 | h0
 ·subst h0
  go_enter func168, ntmps168
  go_wp2
  go_ret
  exact ⟨_, rfl, World.ownsRow_nil _ _ _ _, brz _ _⟩
 ·obtain ⟨i0, hi, hz0, hz1, hz2⟩ := info_parts infoO
  have hG := grownCap_ge w (0 + N) 0 55
  have hG63 := grownCap_le_maxLen w (0 + N) 0 55 (by unfold maxLen; omega)
  have hrz : ∀ ty, (Builtin.append_ #[23, 3] ty #[.slice none 0 0, .int .i64 (N : Int)]).run prog w = .ok (.slice (some ⟨w.heap.size, 0, none⟩) (0 + N) (grownCap w (0 + N) 0 55)) (w.drew.alloc (.cells (([] : List Value).toArray ++ Builtin.zeroCells (Value.agg zC).cells N ++ Builtin.zeroCells (Value.agg zC).cells (grownCap w (0 + N) 0 55 - (0 + N))) 55)) := fun ty =>
   Lib.run_append_grow_zeros w 23 3 ty 55 i0 (.agg zC) .i64 .i64 underlying23 underlying3 hi hz0 none 0 0 [] (run_firstCells_none w.drew i0.size 0 0 0) N h0 (by omega) (by omega) (by omega) (by rw [hz2]; omega) (by rw [hz2]; exact growslice_fits (by omega) (by omega))
  obtain ⟨G, hGe⟩ : ∃ G, G = grownCap w (0 + N) 0 55 := ⟨_, rfl⟩
  rw [← hGe] at hrz hG hG63
  obtain ⟨cur, hcur⟩ : ∃ cur, cur = (([] : List Value).toArray ++ Builtin.zeroCells (Value.agg zC).cells N ++ Builtin.zeroCells (Value.agg zC).cells (G - (0 + N))) := ⟨_, rfl⟩
  have hcs : cur.size = G * 51 := by
   rw [hcur]
   have hzz : (Value.agg zC).cells.size = 51 := qoz
   simp [Builtin.zeroCells, hzz]
   omega
  rw [← hcur] at hrz
  have hbl : (w.drew.alloc (.cells cur 55)).heap[w.heap.size]? = some (.cells cur 55 (0, 0)) := heap_alloc_new w.drew _
  have hbe : Below w.heap.size w (w.drew.alloc (.cells cur 55)) := ((brz w.heap.size w).drew).alloc (lrz _) _
  have hG63' : G ≤ 9223372036854775807 := by unfold maxLen at hG63; omega
  clear hGe hcur
  generalize w.drew.alloc (.cells cur 55) = W1 at hrz hbl hbe
  go_enter func168, ntmps168
  go_wp2_with (at_builtin; refine Lib.wpList_append_run _ rfl _ _ _ _ rfl _ _ rfl rfl _ _ (hrz _) ?_)
  go_ret
  refine ⟨_, rfl, ⟨rfl, .inr ⟨w.heap.size, G, cur, rfl, lrz _, hbl, Nat.zero_le _, hG63, hcs, ?_⟩⟩, hbe⟩
  simp
theorem gaz {Bq m : Nat} {Cq : Array Value} {af : Nat → Option Addr} {nf cf : Nat → Nat} {sf : Nat → List Value} (hb : Blk w Bq Cq 23) (hc : ∀ i, i < m → Cq[i]? = some (.slice (af i) (nf i) (cf i))) (hr : ∀ i, i < m → RowC 51 (LtN w) w (af i) (nf i) (cf i) (sf i)) (h1 : ∀ i, i < m → ∀ u ∈ sf i, u.oneCell' = true) (hm : m < 4294967296) (hN : psum nf m < 4294967296) :
  Calls prog 135 #[.slice (some ⟨Bq, 0, none⟩) m m] w fun e w' => ∃ v, e = .returned v ∧ w'.ownsRow w.heap.size 55 51 v (psum nf m) (pcat sf m) ∧ Below w.heap.size w w' := by
 have ga3 := isAgg23
 go_enter func135, ntmps135
 go_wp2
 go_loopw [3, 11] (fun s i wr => ∃ k : Nat, k ≤ m ∧ i = .int .i64 k ∧ s = .int .i64 (psum nf k : Nat) ∧ Blk wr Bq Cq 23 ∧ Below w.heap.size w wr) (fun _ i _ => m - (intOf i).toNat)
 case atStart => exact ⟨0, Nat.zero_le _, rfl, rfl, hb, brz _ _⟩
 case round =>
  obtain ⟨k, hk, rfl, rfl, hbk, hbw⟩ := hrel
  by_cases hkm : k < m
  ·have hkm' : (k : Int) < m := by omega
   have hcell := (hbk.cell k).trans (hc k hkm)
   have hps : psum nf k + nf k < 4294967296 := Nat.lt_of_le_of_lt (xNz nf (show k + 1 ≤ m from hkm)) hN
   have hns : ¬ ((psum nf k + nf k : Nat) : Int) < 0 := by omega
   go_wp2
   go_roundw
   case rel => exact ⟨k + 1, hkm, by go_num, by rw [show psum nf (k + 1) = psum nf k + nf k from rfl]; go_num, hbk, hbw⟩
   case measure => simp [intOf]; omega
  ·obtain rfl : k = m := by omega
   go_wp2_with (first
    | (go_at_call 168; (with_reducible refine (grow_any hN).mono ?_); rintro e w1 ⟨v0, rfl, hown0, hb1⟩))
   have hbk1 := hbk.next hb1
   have hbw1 := btz hbw hb1
   have hown1 : w1.ownsRow w.heap.size 55 51 v0 0 [] := by
    refine ⟨hown0.1, ?_⟩
    rcases hown0.2 with q | ⟨g, c, cur, q1, q2, q3⟩
    ·exact .inl q
    ·exact .inr ⟨g, c, cur, q1, Nat.le_trans hbw.size q2, q3⟩
   clear hown0
   go_loopw [6, 27] (fun v i wr => ∃ j : Nat, j ≤ k ∧ i = .int .i64 j ∧ wr.ownsRow w.heap.size 55 51 v (psum nf j) (pcat sf j) ∧ Blk wr Bq Cq 23 ∧ Below w.heap.size w wr) (fun _ i _ => k - (intOf i).toNat)
   case atStart => exact ⟨0, Nat.zero_le _, rfl, hown1, hbk1, hbw1⟩
   case round =>
    obtain ⟨j, hj, rfl, hown, hbk2, hbw2⟩ := hrel
    by_cases hjm : j < k
    ·have hjm' : (j : Int) < k := by omega
     have hcell := (hbk2.cell j).trans (hc j hjm)
     have hps : psum nf j + nf j < 4294967296 := Nat.lt_of_le_of_lt (xNz nf (show j + 1 ≤ k from hjm)) hN
     have hrj := (hr j hjm).next hbw2
     have h1j := h1 j hjm
     go_wp2_with (at_builtin; refine qOz infoO underlying23 qoz (by omega) rfl _ _ rfl w.heap.size _ (psum nf j) (pcat sf j) rfl hown _ _ _ _ (sf j) rfl hrj h1j (by unfold maxLen; omega) (by omega) hbw2.size ?_; intro v' w2 hown' hgrow)
     go_roundw
     case rel =>
      have hbw3 : Below w.heap.size w w2 := hbw2.grown hgrow hbw2.size (y1z hown)
      have hbk3 : Blk w2 Bq Cq 23 := (hbw3.block Bq hb.lt).trans hb
      exact ⟨j + 1, hjm, by go_num, hown', hbk3, hbw3⟩
     case measure => simp [intOf]; omega
    ·obtain rfl : j = k := by omega
     go_wp2
     go_ret
     exact ⟨_, rfl, hown, hbw2⟩
theorem ob_ln {S : World → Prop} : Obl.holds prog S (.ln 23 3 (.slice ao n cap) (.int .i64 n)) := fun w hS => by
 go_simp
variable {X : List Ob}
theorem gkz {i : Int} (h : Obs w ao n cap X) (hs : Srt X) (hn16 : n ≤ 4096) : Calls prog 131 #[.agg #[.slice ao n cap, .func (.func 130) #[] #[]], .int .u64 i] w fun e w' => e = .returned (.int .i64 (ahd X i : Nat)) ∧ Below w.heap.size w w' := by
 have hmx : prog.follows .mixedOrders = true := by kernel_rfl
 have hn : Hid (X.length = n) := h.1
 have hnc := h.2.1
 have hcm := h.2.2.1.1
 have hsH : Hid (Srt X) := hs
 clear hs
 go_enter func131, ntmps131
 go_wp2
 have hA := (brz w.heap.size w).alloc (lrz _) (.cells #[.slice ao n cap, .func (.func 130) #[] #[]] 121)
 have hBk := Blk.new w #[.slice ao n cap, .func (.func 130) #[] #[]] 121
 generalize w.alloc (.cells #[.slice ao n cap, .func (.func 130) #[] #[]] 121) = W0 at hA hBk ⊢
 obtain ⟨B, hB⟩ : ∃ B, w.heap.size = B := ⟨_, rfl⟩
 have hBh : Hid (w.heap.size = B) := hB
 rw [hB] at hBk hA ⊢
 clear hB
 refine PgM.region_out (S := fun W => Blk W B #[.slice ao n cap, .func (.func 130) #[] #[]] 121) hmx (hBk.next (brz _ _).drew) (fun hS => ?_)
 replace hA := hA.trans ((brz W0.heap.size W0).drew.mono (by have := hA.size; have := hBh.out; omega))
 generalize W0.drew = W1 at hS hA ⊢
 clear hBk
 refine qmz (by kernel_rfl) (fun _ _ _ _ _ h => h) hS [(0, none), (1, some (.slice ao n cap)), (2, some (.int .i64 n)), (3, none), (4, none)] (l' := #[tt, tt, tt, tt, tt]) (a' := { tmps := #[.agg #[.slice ao n cap, .func (.func 130) #[] #[]], .int .u64 i, .pointer (some ⟨B, 0, none⟩), undef, .int .i64 0, .int .i64 0, .int .i64 n, undef, .pointer (some ⟨B, 0, none⟩), .slice ao n cap, .int .i64 n, undef, undef, undef, undef, undef, undef, undef, undef, undef, undef, undef, undef, undef, undef, undef, undef, undef, undef, undef, undef, undef, undef, undef], defers := [] }) (obs := [.load 23 B 0 (.slice ao n cap), .ln 23 3 (.slice ao n cap) (.int .i64 n)]) (n := 0) (by kernel_rfl) (by kernel_rfl) ⟨qez (fun _ h => h) rfl isAgg23, ob_ln, trivial⟩ ?_
 refine wpAnyH_done (by kernel_rfl) ?_ _
 go_wp2
 go_loopw [5, 6] (fun vl vh wr => ∃ lo hi : Nat, lo ≤ hi ∧ hi ≤ n ∧ vl = .int .i64 lo ∧ vh = .int .i64 hi ∧ Hid (∀ j, j < lo → (oat X j).id < i) ∧ Hid (∀ j, hi ≤ j → j < n → i ≤ (oat X j).id) ∧ Blk wr B #[.slice ao n cap, .func (.func 130) #[] #[]] 121 ∧ Below B w wr) (fun vl vh _ => (intOf vh).toNat - (intOf vl).toNat)
 case atStart => exact ⟨0, n, Nat.zero_le _, lrz _, rfl, rfl, fun j hj => absurd hj (by omega), fun j h1 h2 => absurd h2 (by omega), hS, hA⟩
 case round =>
  clear hS hA
  obtain ⟨lo, hi, hlh, hhn, rfl, rfl, hlo, hhi, hbk, hb⟩ := hrel
  by_cases hlt : lo < hi
  ·obtain ⟨d, hd⟩ : ∃ d : Nat, d = (hi - lo) / 2 := ⟨_, rfl⟩
   have hdi : ((hi : Int) - lo) / 2 = d := by omega
   obtain ⟨m, hm⟩ : ∃ m : Nat, m = lo + d := ⟨_, rfl⟩
   have hmi : (lo : Int) + d = m := by omega
   have hmn : m < n := by omega
   have hm1 : lo ≤ m := by omega
   have hm2 : m < hi := by omega
   have hbs : B ≤ wr.heap.size := by have := hb.size; have := hBh.out; omega
   have hbw : Below w.heap.size w wr := by rw [hBh.out]; exact hb
   obtain ⟨b, off, C, rfl, hbb, hC, hr⟩ := w3z (qwz h hbw) hmn
   have hz := hC.size
   clear hd hm
   by_cases hxi : (oat X m).id < i
   ·have hd : Hid ((oat X m).id < i) := hxi
    have hlo2 : Hid (∀ j, j < m + 1 → (oat X j).id < i) := by
     refine (?_ : ∀ j, j < m + 1 → (oat X j).id < i)
     intro j hj
     rcases Nat.lt_or_ge j m with q | q
     ·have hl := hn.out
      have := List.pairwise_iff_getElem.1 hsH.out j m (by omega) (by omega) q
      rw [← qMz (by omega), ← qMz (by omega)] at this
      omega
     ·obtain rfl : j = m := by omega
      exact hxi
    clear hxi
    go_wp2
    refine PgM.region_out (S := fun W => Blk W B #[.slice (some ⟨b, off, none⟩) n cap, .func (.func 130) #[] #[]] 121 ∧ W.rangeAt b (off + m * 51) C.toList) hmx ⟨hbk.next (brz _ _).drew, qHz hr ((brz _ wr).drew.block b hbb)⟩ (fun hS => ?_)
    have hkd := (brz wr.heap.size wr).drew
    have hC0 := hC.next hkd
    have hb1 := hb.trans (hkd.mono hbs)
    have hbb1 : b < wr.drew.heap.size := ltz hbb hkd.size
    generalize wr.drew = W1 at hS hC0 hb1 hbb1 ⊢
    clear hkd
    refine qGz (by kernel_rfl) (fun _ _ _ _ _ h => h) hS [(0, none), (1, some (.func (.func 130) #[] #[])), (2, none), (3, some (.slice (some ⟨b, off, none⟩) n cap)), (4, none), (5, some (.pointer (some ⟨b, off + m * 51, none⟩))), (6, some (.agg C)), (8, none)] (obs := [.load 119 B 1 (.func (.func 130) #[] #[]), .load 23 B 0 (.slice (some ⟨b, off, none⟩) n cap), .ia 23 (.slice (some ⟨b, off, none⟩) n cap) (.int .i64 m) (.pointer (some ⟨b, off + m * 51, none⟩)), .load 55 b (off + m * 51) (.agg C)]) (n := 2) (by kernel_rfl) (by kernel_rfl) ⟨qez (fun _ h => h.1) rfl isAgg119, qez (fun _ h => h.1) rfl isAgg23, kZz hmn, wHz (fun _ h => h.2) underlying55 (by kernel_rfl) (qfz hz), trivial⟩ ?_
    refine qrz (i := 7) (fuel := 1) (f := 130) (vs := [.agg C]) (d := some 27) (by kernel_rfl) (by kernel_rfl) (by kernel_rfl) call130 (xfz hC0) ?_
    rintro e W2 ⟨rfl, hk2⟩
    have hS2 : Blk W2 B #[.slice (some ⟨b, off, none⟩) n cap, .func (.func 130) #[] #[]] 121 ∧ W2.rangeAt b (off + m * 51) C.toList := ⟨hS.1.next hk2, qHz hS.2 (hk2.block b hbb1)⟩
    refine ⟨_, rfl, hS2, ?_⟩
    have hb2 := hb1.trans (hk2.mono (by have := hb1.size; have := hBh.out; omega))
    refine qmz (by kernel_rfl) (fun _ _ _ _ _ h => h) hS2 [(9, some (.bool true))] (l' := #[tt, tt, tt, tt, tt, tt, tt, tt, tt, tt]) (a' := { tmps := #[.agg #[.slice (some ⟨b, off, none⟩) n cap, .func (.func 130) #[] #[]], .int .u64 i, .pointer (some ⟨B, 0, none⟩), undef, .int .i64 0, .int .i64 lo, .int .i64 hi, .int .i64 m, .pointer (some ⟨B, 0, none⟩), .slice (some ⟨b, off, none⟩) n cap, .int .i64 n, .int .i64 lo, .int .i64 hi, .bool true, .int .i64 lo, .int .i64 hi, .int .i64 lo, .int .i64 (↑hi - ↑lo), .int .i64 ((↑hi - ↑lo) / 2), .int .i64 m, .pointer (some ⟨B, 1, none⟩), .func (.func 130) #[] #[], .pointer (some ⟨B, 0, none⟩), .slice (some ⟨b, off, none⟩) n cap, .int .i64 m, .pointer (some ⟨b, off + m * 51, none⟩), .agg C, .int .u64 (oat X m).id, .int .u64 i, .bool true, u30, u31, u32, undef], defers := [] }) (obs := [.test .lss 22 (.tmp 27) (.tmp 28) (.int .u64 (oat X m).id) (.int .u64 i) (.bool true)]) (n := 0) (by kernel_rfl) (by kernel_rfl) ⟨qJz (fun _ => wnz _ _ _ _ _ _) hd, trivial⟩ ?_
    refine wpAnyH_done (by kernel_rfl) ?_ _
    have hbk3 := hS2.1
    clear hS hS2 hC0 hb1 hbb1 hk2
    go_wp2
    go_roundw
    case rel => exact ⟨m + 1, hi, by omega, hhn, by go_num, rfl, hlo2, hhi, hbk3, hb2⟩
    case measure => simp [intOf]; omega
   ·have hd : Hid (¬ (oat X m).id < i) := hxi
    have hhi2 : Hid (∀ j, m ≤ j → j < n → i ≤ (oat X j).id) := by
     refine (?_ : ∀ j, m ≤ j → j < n → i ≤ (oat X j).id)
     intro j hj hjn
     rcases Nat.lt_or_ge m j with q | q
     ·have hl := hn.out
      have := List.pairwise_iff_getElem.1 hsH.out m j (by omega) (by omega) q
      rw [← qMz (by omega), ← qMz (by omega)] at this
      omega
     ·obtain rfl : j = m := by omega
      omega
    clear hxi
    go_wp2
    refine PgM.region_out (S := fun W => Blk W B #[.slice (some ⟨b, off, none⟩) n cap, .func (.func 130) #[] #[]] 121 ∧ W.rangeAt b (off + m * 51) C.toList) hmx ⟨hbk.next (brz _ _).drew, qHz hr ((brz _ wr).drew.block b hbb)⟩ (fun hS => ?_)
    have hkd := (brz wr.heap.size wr).drew
    have hC0 := hC.next hkd
    have hb1 := hb.trans (hkd.mono hbs)
    have hbb1 : b < wr.drew.heap.size := ltz hbb hkd.size
    generalize wr.drew = W1 at hS hC0 hb1 hbb1 ⊢
    clear hkd
    refine qGz (by kernel_rfl) (fun _ _ _ _ _ h => h) hS [(0, none), (1, some (.func (.func 130) #[] #[])), (2, none), (3, some (.slice (some ⟨b, off, none⟩) n cap)), (4, none), (5, some (.pointer (some ⟨b, off + m * 51, none⟩))), (6, some (.agg C)), (8, none)] (obs := [.load 119 B 1 (.func (.func 130) #[] #[]), .load 23 B 0 (.slice (some ⟨b, off, none⟩) n cap), .ia 23 (.slice (some ⟨b, off, none⟩) n cap) (.int .i64 m) (.pointer (some ⟨b, off + m * 51, none⟩)), .load 55 b (off + m * 51) (.agg C)]) (n := 2) (by kernel_rfl) (by kernel_rfl) ⟨qez (fun _ h => h.1) rfl isAgg119, qez (fun _ h => h.1) rfl isAgg23, kZz hmn, wHz (fun _ h => h.2) underlying55 (by kernel_rfl) (qfz hz), trivial⟩ ?_
    refine qrz (i := 7) (fuel := 1) (f := 130) (vs := [.agg C]) (d := some 27) (by kernel_rfl) (by kernel_rfl) (by kernel_rfl) call130 (xfz hC0) ?_
    rintro e W2 ⟨rfl, hk2⟩
    have hS2 : Blk W2 B #[.slice (some ⟨b, off, none⟩) n cap, .func (.func 130) #[] #[]] 121 ∧ W2.rangeAt b (off + m * 51) C.toList := ⟨hS.1.next hk2, qHz hS.2 (hk2.block b hbb1)⟩
    refine ⟨_, rfl, hS2, ?_⟩
    have hb2 := hb1.trans (hk2.mono (by have := hb1.size; have := hBh.out; omega))
    refine qmz (by kernel_rfl) (fun _ _ _ _ _ h => h) hS2 [(9, some (.bool false))] (l' := #[tt, tt, tt, tt, tt, tt, tt, tt, tt, tt]) (a' := { tmps := #[.agg #[.slice (some ⟨b, off, none⟩) n cap, .func (.func 130) #[] #[]], .int .u64 i, .pointer (some ⟨B, 0, none⟩), undef, .int .i64 0, .int .i64 lo, .int .i64 hi, .int .i64 m, .pointer (some ⟨B, 0, none⟩), .slice (some ⟨b, off, none⟩) n cap, .int .i64 n, .int .i64 lo, .int .i64 hi, .bool true, .int .i64 lo, .int .i64 hi, .int .i64 lo, .int .i64 (↑hi - ↑lo), .int .i64 d, .int .i64 m, .pointer (some ⟨B, 1, none⟩), .func (.func 130) #[] #[], .pointer (some ⟨B, 0, none⟩), .slice (some ⟨b, off, none⟩) n cap, .int .i64 m, .pointer (some ⟨b, off + m * 51, none⟩), .agg C, .int .u64 (oat X m).id, .int .u64 i, .bool false, u30, u31, u32, undef], defers := [] }) (obs := [.test .lss 22 (.tmp 27) (.tmp 28) (.int .u64 (oat X m).id) (.int .u64 i) (.bool false)]) (n := 0) (by kernel_rfl) (by kernel_rfl) ⟨q2z (fun _ => wnz _ _ _ _ _ _) (by refine (?_ : ¬ (oat X m).id < i); have := hd.out; omega), trivial⟩ ?_
    refine wpAnyH_done (by kernel_rfl) ?_ _
    have hbk3 := hS2.1
    clear hS hS2 hC0 hb1 hbb1 hk2
    go_wp2
    go_roundw
    case rel => exact ⟨lo, m, by omega, by omega, rfl, rfl, hlo, hhi2, hbk3, hb2⟩
    case measure => simp [intOf]; omega
  ·obtain rfl : lo = hi := by omega
   have hr : Hid (ahd X i = lo) := ahd_of (by rw [hn.out]; exact hhn) hlo.out (fun j h1 h2 => hhi.out j h1 (by rw [← hn.out]; exact h2))
   go_wp2
   go_ret
   exact ⟨by rw [hr.out]; rfl, by rw [hBh.out]; exact hb⟩
theorem x1z {i : Int} (h : Obs w ao n cap X) (hs : Srt X) (hn16 : n ≤ 4096) : Calls prog 81 #[.agg #[.slice ao n cap, .func (.func 130) #[] #[]], .int .u64 i] w fun e w' => e = .returned (.tuple #[.int .i64 (ahd X i : Nat), .int .i64 (fin X i : Nat)]) ∧ Below w.heap.size w w' := by
 have hmx : prog.follows .mixedOrders = true := by kernel_rfl
 have hn : Hid (X.length = n) := h.1
 have hsH : Hid (Srt X) := hs
 have hle : ahd X i ≤ n := by rw [← hn.out]; exact k9z X i
 have hah := fun (W : World) (hk : Below w.heap.size w W) => gkz (i := i) (qwz h hk) hs hn16
 have c0 : (#[.slice ao n cap, .func (.func 130) #[] #[]] : Array Value)[0]? = some (.slice ao n cap) := rfl
 have c1 : (#[.slice ao n cap, .func (.func 130) #[] #[]] : Array Value)[1]? = some (.func (.func 130) #[] #[]) := rfl
 have hzG : (prog.info? 121).map (·.size) = some (#[.slice ao n cap, .func (.func 130) #[] #[]] : Array Value).size := by kernel_rfl
 obtain ⟨G, hG⟩ : ∃ G : Array Value, G = #[.slice ao n cap, .func (.func 130) #[] #[]] := ⟨_, rfl⟩
 rw [← hG] at c0 c1 hzG
 rw [← hG] at hah ⊢
 clear hG
 obtain ⟨k, hke⟩ : ∃ k, Hid (ahd X i = k) := ⟨_, rfl⟩
 rw [hke.out] at hah hle
 clear hs
 go_enter func81, ntmps81
 go_wp2_with (first
  | (with_reducible refine qcz rfl _ _ rfl G rfl ?_; intro B W hB hb hk)
  | (with_reducible refine qlz rfl _ _ rfl B rfl _ hb _ underlying121 rfl hzG ?_)
  | (go_at_call 131; (with_reducible refine (hah _ hk).mono ?_); rintro e w1 ⟨rfl, hb1⟩; replace hb := hb.next hb1; replace hk := btz hk hb1))
 clear hah hB hb1
 by_cases hkn : k < n
 ·have hkn1 : Hid ((k : Int) < n) := by show _ < _; omega
  obtain ⟨b, off, C, rfl, hbb, hC, hr⟩ := w3z (qwz h hk) hkn
  have hz := hC.size
  refine PgM.region_out (S := fun W => Blk W B G 121 ∧ W.rangeAt b (off + k * 51) C.toList) hmx ⟨hb.next (brz _ _).drew, qHz hr ((brz _ w1).drew.block b hbb)⟩ (fun hS => ?_)
  have hkd := (brz w1.heap.size w1).drew
  have hC0 := hC.next hkd
  replace hk := btz hk hkd
  have hbb1 : b < w1.drew.heap.size := ltz hbb hkd.size
  generalize w1.drew = W1 at hS hC0 hk hbb1 ⊢
  clear hkd hb
  refine qGz (by kernel_rfl) (fun _ _ _ _ _ h => h) hS [(0, none), (1, none), (2, some (.slice (some ⟨b, off, none⟩) n cap)), (3, some (.int .i64 n)), (4, some (.bool true)), (5, none), (6, none), (7, some (.func (.func 130) #[] #[])), (8, none), (9, some (.slice (some ⟨b, off, none⟩) n cap)), (10, none), (11, some (.pointer (some ⟨b, off + k * 51, none⟩))), (12, some (.agg C)), (14, none)] (obs := [.load 23 B 0 (.slice (some ⟨b, off, none⟩) n cap), .ln 23 3 (.slice (some ⟨b, off, none⟩) n cap) (.int .i64 n), .test .lss 3 (.tmp 10) (.tmp 13) (.int .i64 k) (.int .i64 n) (.bool true), .load 119 B 1 (.func (.func 130) #[] #[]), .load 23 B 0 (.slice (some ⟨b, off, none⟩) n cap), .ia 23 (.slice (some ⟨b, off, none⟩) n cap) (.int .i64 k) (.pointer (some ⟨b, off + k * 51, none⟩)), .load 55 b (off + k * 51) (.agg C)]) (n := 3) (by kernel_rfl) (by kernel_rfl) ⟨qez (fun _ h => h.1) c0 isAgg23, ob_ln, qJz (fun _ => wnz _ _ _ _ _ _) hkn1, qez (fun _ h => h.1) c1 isAgg119, qez (fun _ h => h.1) c0 isAgg23, kZz hkn, wHz (fun _ h => h.2) underlying55 (by kernel_rfl) (qfz hz), trivial⟩ ?_
  refine qrz (i := 13) (fuel := 2) (f := 130) (vs := [.agg C]) (d := some 23) (by kernel_rfl) (by kernel_rfl) (by kernel_rfl) call130 (xfz hC0) ?_
  rintro e W2 ⟨rfl, hk2⟩
  have hS2 : Blk W2 B G 121 ∧ W2.rangeAt b (off + k * 51) C.toList := ⟨hS.1.next hk2, qHz hS.2 (hk2.block b hbb1)⟩
  refine ⟨_, rfl, hS2, ?_⟩
  replace hk := btz hk hk2
  by_cases hxi : (oat X k).id = i
  ·have hd : Hid ((oat X k).id = i) := hxi
   refine qmz (by kernel_rfl) (fun _ _ _ _ _ h => h) hS2 [(15, some (.bool true)), (16, none)] (l' := #[tt, tt, tt, tt, tt, tt, tt, tt, tt, tt, tt, tt, tt, tt, tt, tt, tt]) (a' := { tmps := #[.agg G, .int .u64 i, .pointer (some ⟨B, 0, none⟩), undef, .int .i64 0, .int .i64 0, .int .i64 k, .agg G, .int .u64 i, .int .i64 k, .int .i64 k, .pointer (some ⟨B, 0, none⟩), .slice (some ⟨b, off, none⟩) n cap, .int .i64 n, .bool true, .bool true, .pointer (some ⟨B, 1, none⟩), .func (.func 130) #[] #[], .pointer (some ⟨B, 0, none⟩), .slice (some ⟨b, off, none⟩) n cap, .int .i64 k, .pointer (some ⟨b, off + k * 51, none⟩), .agg C, .int .u64 (oat X k).id, .int .u64 i, .bool true, .bool true, ud, ud, ud, ud, undef], defers := [] }) (obs := [.test .eql 22 (.tmp 23) (.tmp 24) (.int .u64 (oat X k).id) (.int .u64 i) (.bool true)]) (n := 0) (by kernel_rfl) (by kernel_rfl) ⟨qJz (fun _ => qtz _ _ _ _ _ _) hd, trivial⟩ ?_
   refine wpAnyH_done (by kernel_rfl) ?_ _
   clear hS hS2 hC0 hbb1 hk2
   go_wp2
   go_ret2
   have hf : fin X i = k + 1 := by unfold fin; rw [jAz hsH.out (by rw [hke.out, hn.out]; exact hkn) (by rw [hke.out]; exact hxi), hke.out]; rfl
   refine ⟨?_, hk⟩
   rw [hf, hke.out]
   go_num
  ·have hd : Hid (¬ (oat X k).id = i) := hxi
   refine qmz (by kernel_rfl) (fun _ _ _ _ _ h => h) hS2 [(15, some (.bool false)), (16, none)] (l' := #[tt, tt, tt, tt, tt, tt, tt, tt, tt, tt, tt, tt, tt, tt, tt, tt, tt]) (a' := { tmps := #[.agg G, .int .u64 i, .pointer (some ⟨B, 0, none⟩), undef, .int .i64 0, .int .i64 0, .int .i64 k, .agg G, .int .u64 i, .int .i64 k, .int .i64 k, .pointer (some ⟨B, 0, none⟩), .slice (some ⟨b, off, none⟩) n cap, .int .i64 n, .bool true, .bool true, .pointer (some ⟨B, 1, none⟩), .func (.func 130) #[] #[], .pointer (some ⟨B, 0, none⟩), .slice (some ⟨b, off, none⟩) n cap, .int .i64 k, .pointer (some ⟨b, off + k * 51, none⟩), .agg C, .int .u64 (oat X k).id, .int .u64 i, .bool false, .bool false, ud, ud, ud, ud, undef], defers := [] }) (obs := [.test .eql 22 (.tmp 23) (.tmp 24) (.int .u64 (oat X k).id) (.int .u64 i) (.bool false)]) (n := 0) (by kernel_rfl) (by kernel_rfl) ⟨q2z (fun _ => qtz _ _ _ _ _ _) hd, trivial⟩ ?_
   refine wpAnyH_done (by kernel_rfl) ?_ _
   clear hS hS2 hC0 hbb1 hk2
   go_wp2
   go_ret2
   have hf : fin X i = k := by unfold fin; rw [wJz hsH.out (by rw [hke.out]; exact fun q => hxi q.2), hke.out]; rfl
   refine ⟨?_, hk⟩
   rw [hf, hke.out]; rfl
 ·have hkn1 : Hid (¬ (k : Int) < n) := by show ¬ _; omega
  refine PgM.region_out (S := fun W => Blk W B G 121) hmx (hb.next (brz _ _).drew) (fun hS => ?_)
  have hkd := (brz w1.heap.size w1).drew
  replace hk := btz hk hkd
  generalize w1.drew = W1 at hS hk ⊢
  clear hkd hb
  refine qmz (by kernel_rfl) (fun _ _ _ _ _ h => h) hS [(0, none), (1, none), (2, some (.slice ao n cap)), (3, some (.int .i64 n)), (4, some (.bool false)), (5, none), (6, none), (7, none), (8, none), (9, none), (10, none), (11, none), (12, none), (13, none), (14, none), (15, none), (16, none)] (l' := #[tt, tt, tt, tt, tt, tt, tt, tt, tt, tt, tt, tt, tt, tt, tt, tt, tt]) (a' := { tmps := #[.agg G, .int .u64 i, .pointer (some ⟨B, 0, none⟩), undef, .int .i64 0, .int .i64 0, .int .i64 k, .agg G, .int .u64 i, .int .i64 k, .int .i64 k, .pointer (some ⟨B, 0, none⟩), .slice ao n cap, .int .i64 n, .bool false, .bool false, ud, ud, ud, ud, ud, ud, ud, ud, ud, undef, .bool false, ud, ud, ud, ud, undef], defers := [] }) (obs := [.load 23 B 0 (.slice ao n cap), .ln 23 3 (.slice ao n cap) (.int .i64 n), .test .lss 3 (.tmp 10) (.tmp 13) (.int .i64 k) (.int .i64 n) (.bool false)]) (n := 0) (by kernel_rfl) (by kernel_rfl) ⟨qez (fun _ h => h) c0 isAgg23, ob_ln, q2z (fun _ => wnz _ _ _ _ _ _) hkn1, trivial⟩ ?_
  refine wpAnyH_done (by kernel_rfl) ?_ _
  clear hS
  go_wp2
  go_ret2
  have hf : fin X i = k := by unfold fin; rw [wJz hsH.out (by rw [hke.out, hn.out]; exact fun q => hkn q.1), hke.out]; rfl
  refine ⟨?_, hk⟩
  rw [hf, hke.out]; rfl
theorem kRz {fn : Func} {p u : Tmp} (h : fn.results = #[.cell p 55, .tmp u]) {tmps : Array Value} {B : Nat} {C : Array Value} {v : Value} (hp : tmps.getD p undef = .pointer (some ⟨B, 0, none⟩)) (hu : tmps.getD u undef = v) (hB : Blk w B C 55) (hs : C.size = 51) : (results fn tmps).run prog w = .ok (.tuple #[.agg C, v]) w := by
 rw [results_cell_tmp h, hp, hu]
 have := run_loadVar_mid (P := prog) w B 0 55 C.toList _ hB.range0 underlying55 rfl (by simpa using qfz hs)
 rw [Array.toArray_toList] at this
 simp [asAddr, this, Result.andThen]
theorem yHz : prog.built 55 [] = some zC := by kernel_rfl
def q3z (X : List Ob) : Prop := ∀ x ∈ X, Small x
theorem bDz {t ke ro : Int} {i : Int} (h : Obs w ao n cap X) (hs : Srt X) (hn16 : n ≤ 4096) (hsm : q3z X) : Calls prog 48 #[.agg #[.int .i64 t, .int .u64 ke, .int .u64 ro, .slice ao n cap], .int .u64 i] w fun e w' => ∃ C', e = .returned (.tuple #[.agg C', .bool (fnd X i).isSome]) ∧ ObD (New w w') w' C' ((fnd X i).getD zOb) ∧ Below w.heap.size w w' ∧ ∃ M, LbV (fun b => New w w' b ∧ b < M) w' C'[2]? ((fnd X i).getD zOb).label ∧ (∃ ao n cap, C'[6]? = some (.slice ao n cap) ∧ w'.ownsRow M 22 1 (.slice ao n cap) n (qNz ((fnd X i).getD zOb).data)) ∧ w.heap.size ≤ M := by
 have hn : Hid (X.length = n) := h.1
 have hsH : Hid (Srt X) := hs
 have hsmH : Hid (q3z X) := hsm
 have hle : ahd X i ≤ n := by rw [← hn.out]; exact k9z X i
 have ga3 := isAgg23
 have hwh := fun (W : World) (hk : Below w.heap.size w W) => x1z (i := i) (qwz h hk) hs hn16
 have c3 : (#[.int .i64 t, .int .u64 ke, .int .u64 ro, .slice ao n cap] : Array Value)[3]? = some (.slice ao n cap) := rfl
 have hzG : (prog.info? 25).map (·.size) = some (#[.int .i64 t, .int .u64 ke, .int .u64 ro, .slice ao n cap] : Array Value).size := by kernel_rfl
 obtain ⟨G, hG⟩ : ∃ G : Array Value, G = #[.int .i64 t, .int .u64 ke, .int .u64 ro, .slice ao n cap] := ⟨_, rfl⟩
 rw [← hG] at c3 hzG
 rw [← hG]
 clear hG
 obtain ⟨k, hke⟩ : ∃ k, Hid (ahd X i = k) := ⟨_, rfl⟩
 obtain ⟨f, hfe⟩ : ∃ f, Hid (fin X i = f) := ⟨_, rfl⟩
 rw [hke.out, hfe.out] at hwh
 rw [hke.out] at hle
 clear hs hsm
 by_cases hf : (fnd X i).isSome = true
 obtain ⟨x, hx⟩ := Option.isSome_iff_exists.1 hf
 have hq : ahd X i < X.length ∧ (oat X (ahd X i)).id = i := Classical.byContradiction fun q => by rw [wJz hsH.out q] at hx; cases hx
 have hxx : x = oat X k := by rw [jAz hsH.out hq.1 hq.2] at hx; rw [← hke.out]; injection hx with e; exact e.symm
 have hkn : k < n := by have := hq.1; rw [hke.out, hn.out] at this; exact this
 have hfk : Hid (f = k + 1) := by have := hfe.out; unfold fin at this; rw [if_pos hf, hke.out] at this; exact this.symm
 have hfi : ((k : Int) == (f : Int)) = false := by have := hfk.out; rw [beq_eq_false_iff_ne]; omega
 have hxs : Small (oat X k) := hsmH.out _ (wxz (by rw [hn.out]; exact hkn))
 rw [hx]
 simp only [Option.isSome_some, Option.getD_some]
 rw [hxx]
 clear hx hxx hq hf
 rotate_left
 have hx : fnd X i = none := by cases hq : fnd X i with | none => rfl | some x => rw [hq] at hf; exact absurd rfl hf
 have hfk : Hid (f = k) := by have := hfe.out; unfold fin at this; rw [if_neg hf, hke.out] at this; exact this.symm
 obtain rfl : f = k := hfk.out
 rw [hx]
 simp only [Option.isSome_none, Option.getD_none]
 clear hx hf
 rotate_left
 all_goals go_enter func48, ntmps48
 all_goals go_wp2_with (first
  | go_skip
  | (with_reducible refine qcz rfl _ _ rfl G rfl ?_; intro B W hB hb hk)
  | ((with_reducible refine qdz rfl _ rfl zC qsz ?_); intro R W1 hB1 hR hk1; replace hb := hb.next hk1; replace hk := btz hk hk1)
  | (with_reducible refine qlz rfl _ _ rfl B rfl _ hb _ underlying25 rfl hzG ?_)
  | (go_at_call 80; (with_reducible refine (xez c3).mono ?_); rintro e w1 ⟨rfl, hb1⟩; replace hb := hb.next hb1; replace hR := hR.next hb1; replace hk := btz hk hb1)
  | (go_at_call 81; (with_reducible refine (hwh _ hk).mono ?_); rintro e w2 ⟨rfl, hb2⟩; replace hb := hb.next hb2; replace hR := hR.next hb2; replace hk := btz hk hb2; obtain ⟨b, off, C, rfl, hbb, hC, hr⟩ := w3z (qwz h hk) hkn; have hkn' : (k : Int) < n := (by omega); have hz := hC.size)
  | (go_at_call 81; (with_reducible refine (hwh _ hk).mono ?_); rintro e w2 ⟨rfl, hb2⟩; replace hb := hb.next hb2; replace hR := hR.next hb2; replace hk := btz hk hb2)
  | ((with_reducible refine qyz rfl _ [] rfl zC ?hf ?_); (case hf => exact yHz))
  | ((with_reducible refine qbz rfl _ _ _ rfl R rfl zC rfl zC hR (qfz qoz) rfl (zC_d (fun _ => True) w).one ?_); intro W4 hR4 o4)
  | (with_reducible refine qaz (by kernel_rfl) _ _ rfl B _ rfl _ _ hb _ (by assumption) (by assumption) ?_)
  | (with_reducible refine qxz (by kernel_rfl) 55 _ rfl b _ rfl C hr _ underlying55 (by kernel_rfl) (qfz hz) ?_)
  | (go_at_call 82; (with_reducible refine (kjz hC hxs).mono ?_); rintro e w3 ⟨C', rfl, hC', hb3, M, hM2, ⟨am, nm, cm, e6, hM6⟩, hMw⟩; replace hR := hR.next hb3; replace hk := btz hk hb3)
  | ((with_reducible refine qbz rfl _ _ _ rfl R rfl C' rfl zC hR (qfz hC'.size) (qoz.trans hC'.size.symm) hC'.one ?_); intro W4 hR4 o4))
 ·have hRl : w.heap.size ≤ R ∧ R < w2.heap.size := by have := hB.out; have := hB1.out; have := hb1.size; have := hb2.size; omega
  refine bodyPost_ret (v := .tuple #[.agg C', .bool true]) (kRz results48 rfl rfl hR4 hC'.size) rfl ?_
  have hnw : w.heap.size ≤ w2.heap.size := by omega
  have hnn : ∀ b, New w2 w3 b → New w W4 b := fun b hb => ⟨Nat.le_trans hnw hb.1, by rw [o4.size]; exact hb.2⟩
  exact ⟨C', rfl, (hC'.laterK fun b hb => o4.block b (by have := hb.1; omega)).wide hnn, o4.below _ _ hRl.1 hk, M, (LbV.laterK hM2 fun b hb => o4.block b (by have := hb.1.1; omega)).wide fun b hb => ⟨hnn b hb.1, hb.2⟩, ⟨am, nm, cm, e6, xqz hM6 fun b hb _ => o4.block b (by omega)⟩, Nat.le_trans hnw hMw⟩
 ·have hRl : w.heap.size ≤ R := by have := hB.out; have := hB1.out; omega
  refine bodyPost_ret (v := .tuple #[.agg zC, .bool false]) (kRz results48 rfl rfl hR4 qoz) rfl ?_
  exact ⟨zC, rfl, zC_d _ _, o4.below _ _ hRl hk, w.heap.size, LbV.zero _ _, ⟨none, 0, 0, rfl, World.ownsRow_nil _ _ _ _⟩, lrz _⟩
end
end Go.Proofs.YtloghnpfplljgaaGreat
