/-
 PROVED HERE: objects . What is asked stands at each.
-/
import Derived.Test.YtchgingkmkhbhaaGreatRows
import Derived.WalkKit
import Derived.ProofKit
import Derived.OpenShut
import Derived.Below
import Derived.Deep.Slices
import Derived.Deep.SlicePairs
import Derived.Deep.DeepCutAuto
import Derived.Deep.OwnRows
import Derived.Lib.AppendZerosOnto
import Derived.Great.BuildSlice
import Derived.Laws.ResultCell
import Derived.RangeFuncNested
import Derived.Test.YtchgingkmkhbhaaGreatZ1
import Derived.Test.YtchgingkmkhbhaaGreatZ4
import Derived.Test.YtchgingkmkhbhaaGreatZ5
namespace Go.Proofs.YtchgingkmkhbhaaGreat
set_option maxRecDepth 100000
set_option maxHeartbeats 8000000
set_option linter.unusedVariables false
open Go.Proofs.Tryz
section
open Go.ChangeShapes Go.WideShapes Go.ChangeAt Go.RowKit
section
variable {H : Type} {enc : TypeId × Value → H} {w : World} {m : Nat} {y : DataW H × List MemPlace}
theorem kgz {cs : List Value} {o : Nat} (h : o < cs.length) : (cs.drop o).take 1 = [cs[o]] := by
 rw [List.drop_eq_getElem_cons h]; rfl
theorem w7z {cs : List Value} {o : Nat} {t : TypeId} {k : IntKind} (ho : o < cs.length) (hc : prog.cellsOf t = 1) (hu : prog.underlying t = some (.int k)) (h : DataW.trod enc prog w 0 (fun _ => true) true m t ((cs.drop o).take (prog.cellsOf t)) = some y) : ∃ n, cs[o]? = some (.int k n) := by
 rw [hc, kgz ho] at h
 obtain ⟨n, e, _, _⟩ := DataW.trod_int hu h
 simp at e
 exact ⟨n, by rw [List.getElem?_eq_getElem ho, e]⟩
theorem f_bool {cs : List Value} {o : Nat} (ho : o < cs.length) (h : DataW.trod enc prog w 0 (fun _ => true) true m 4 ((cs.drop o).take (prog.cellsOf 4)) = some y) : ∃ n, cs[o]? = some (.bool n) := by
 rw [show prog.cellsOf 4 = 1 from by kernel_rfl, kgz ho] at h
 obtain ⟨n, e, _⟩ := DataW.trod_bool underlying4 h
 simp at e
 exact ⟨n, by rw [List.getElem?_eq_getElem ho, e]⟩
theorem jEz {cs : List Value} {o : Nat} {t e : TypeId} (ho : o < cs.length) (hc : prog.cellsOf t = 1) (hu : prog.underlying t = some (.slice e)) (h : DataW.trod enc prog w 0 (fun _ => true) true m t ((cs.drop o).take (prog.cellsOf t)) = some y) : ∃ a n c, cs[o]? = some (.slice a n c) ∧ DataW.Trod enc prog w 0 (fun _ => true) true t (.slice a n c) y.1 y.2 := by
 rw [hc, kgz ho] at h
 rcases Go.Deep.open_slice hu h with ⟨e, _⟩ | ⟨a, len, cap', m', n', D, Pl, e, _⟩
 ·simp at e
  exact ⟨none, 0, 0, by rw [List.getElem?_eq_getElem ho, e], ⟨m, by rw [e] at h; exact h⟩⟩
 ·simp at e
  exact ⟨some a, len, cap', by rw [List.getElem?_eq_getElem ho, e], ⟨m, by rw [e] at h; exact h⟩⟩
theorem gJz {cs : List Value} {o : Nat} (ho : o < cs.length) (h : DataW.trod enc prog w 0 (fun _ => true) true m 27 ((cs.drop o).take (prog.cellsOf 27)) = some y) : ∃ L, LbV (LtN w) w cs[o]? L := by
 obtain ⟨a, n, c, e, hT⟩ := jEz ho (by kernel_rfl) underlying27 h
 obtain ⟨L, hL⟩ := vWz hT
 exact ⟨L, a, n, c, e, hL⟩
theorem f_map {cs : List Value} {o : Nat} (ho : o < cs.length) (h : DataW.trod enc prog w 0 (fun _ => true) true m 29 ((cs.drop o).take (prog.cellsOf 29)) = some y) : ∃ L, MpV (LtN w) w cs[o]? L := by
 obtain ⟨a, n, c, e, hT⟩ := jEz ho (by kernel_rfl) underlying29 h
 obtain ⟨L, hL⟩ := PgM.mps_of_trod hT
 exact ⟨L, a, n, c, e, hL⟩
theorem ulz {ao : Option Addr} {n cap : Nat} {d : DataW H} {ps : List MemPlace} (h : DataW.Trod enc prog w 0 (fun _ => true) true 28 (.slice ao n cap) d ps) : ∃ L, CtD (LtN w) w ao n cap L := by
 obtain ⟨fuel, hf⟩ := h
 have c1 : prog.cellsOf 22 = 1 := by kernel_rfl
 rcases Go.Deep.open_slice underlying28 hf with ⟨e, _⟩ | ⟨a, len, cap', m, n', D, Pl, e, hb, hl, hm, hmm, hdd, hx⟩
 ·simp [Value.cells] at e
  obtain ⟨rfl, rfl, rfl⟩ := e
  exact ⟨[], CtD.nil _ _⟩
 ·simp [Value.cells] at e
  obtain ⟨rfl, rfl, rfl⟩ := e
  have hmc : m = cap := by rw [hmm]; rfl
  have key : ∀ i, ∃ x : Int, i < n → w.cell? (a.add i) = some (.int .u64 x) := by
   intro i
   by_cases hi : i < n
   ·obtain ⟨cs, h1, h2⟩ := hx i (by omega)
    rw [c1, Nat.mul_one] at h1
    obtain ⟨_, hlen, hcell⟩ := World.cells?_some h1
    obtain ⟨x0, rfl⟩ : ∃ x0, cs = [x0] := by
     match cs, hlen with
     | [x0], _ => exact ⟨x0, rfl⟩
    obtain ⟨z, e, _, _⟩ := DataW.trod_int underlying22 h2
    simp at e
    have := hcell 0 (by omega)
    rw [show (a.add i).add 0 = a.add i by simp [Addr.add]] at this
    exact ⟨z, fun _ => by rw [this, e]; rfl⟩
   ·exact ⟨0, fun h => absurd h hi⟩
  refine ⟨(List.range n).map fun i => Classical.choose (key i), by simp, hl, ⟨by unfold maxLen at hm; omega, fun e => by cases e⟩, fun hn => ?_⟩
  obtain ⟨v0, z⟩ : ∃ v0, w.cell? (a.add 0) = some v0 := ⟨_, Classical.choose_spec (key 0) hn⟩
  rw [show a.add 0 = a by simp [Addr.add]] at z
  obtain ⟨hea, hadd⟩ := PgM.spotK z
  refine ⟨a.block, a.off, by rw [← hea], World.block_lt_of_cell? w _ z, fun i hi => ?_⟩
  have hg : ((List.range n).map fun i => Classical.choose (key i)).getD i 0 = Classical.choose (key i) := by
   rw [List.getD_eq_getElem?_getD, List.getElem?_eq_getElem (by simpa using hi)]; simp
  rw [hg, ← hadd]
  exact Classical.choose_spec (key i) hi
theorem f_ct {cs : List Value} {o : Nat} (ho : o < cs.length) (h : DataW.trod enc prog w 0 (fun _ => true) true m 28 ((cs.drop o).take (prog.cellsOf 28)) = some y) : ∃ L, CtV (LtN w) w cs[o]? L := by
 obtain ⟨a, n, c, e, hT⟩ := jEz ho (by kernel_rfl) underlying28 h
 obtain ⟨L, hL⟩ := ulz hT
 exact ⟨L, a, n, c, e, hL⟩
theorem w0z {cs : List Value} {o n i : Nat} (hi : i < n) : ((cs.drop o).take n)[i]? = cs[o + i]? := by
 rw [List.getElem?_take, if_pos hi, List.getElem?_drop]
theorem xez {cs : List Value} (h : DataW.trod enc prog w 0 (fun _ => true) true m 32 cs = some y) : ∃ a b, cs[0]? = some (.int .u64 a) ∧ cs[1]? = some (.int .u64 b) := by
 obtain ⟨xs, m', _, _, hl, hx, hg⟩ := DataW.trod_struct underlying32 h
 rw [show prog.cellsOf 32 = 2 from by kernel_rfl] at hl
 obtain ⟨y0, y1, rfl⟩ : ∃ y0 y1, xs = [y0, y1] := by
  match xs, hx with
  | [y0, y1], _ => exact ⟨y0, y1, rfl⟩
 obtain ⟨a, ea⟩ := w7z (t := 22) (o := 0) (y := y0) (by rw [hl]; omega) (by kernel_rfl) underlying22 (hg 0 _ rfl)
 obtain ⟨b, eb⟩ := w7z (t := 22) (o := 1) (y := y1) (by rw [hl]; omega) (by kernel_rfl) underlying22 (hg 1 _ rfl)
 exact ⟨a, b, ea, eb⟩
theorem jiz {cs : List Value} (h : DataW.trod enc prog w 0 (fun _ => true) true m 36 cs = some y) : ∃ a b, cs[0]? = some (.int .u64 a) ∧ cs[1]? = some (.int .u64 b) := by
 obtain ⟨xs, m', _, _, hl, hx, hg⟩ := DataW.trod_struct underlying36 h
 rw [show prog.cellsOf 36 = 2 from by kernel_rfl] at hl
 obtain ⟨y0, y1, rfl⟩ : ∃ y0 y1, xs = [y0, y1] := by
  match xs, hx with
  | [y0, y1], _ => exact ⟨y0, y1, rfl⟩
 obtain ⟨a, ea⟩ := w7z (t := 22) (o := 0) (y := y0) (by rw [hl]; omega) (by kernel_rfl) underlying22 (hg 0 _ rfl)
 obtain ⟨b, eb⟩ := w7z (t := 22) (o := 1) (y := y1) (by rw [hl]; omega) (by kernel_rfl) underlying22 (hg 1 _ rfl)
 exact ⟨a, b, ea, eb⟩
theorem jhz {cs : List Value} (h : DataW.trod enc prog w 0 (fun _ => true) true m 34 cs = some y) : ∃ a b c d e, cs[0]? = some (.int .u64 a) ∧ cs[1]? = some (.int .u64 b) ∧ cs[2]? = some (.int .u64 c) ∧ cs[3]? = some (.int .u64 d) ∧ cs[4]? = some (.bool e) := by
 obtain ⟨xs, m', _, _, hl, hx, hg⟩ := DataW.trod_struct underlying34 h
 rw [show prog.cellsOf 34 = 5 from by kernel_rfl] at hl
 obtain ⟨y0, y1, y2, y3, rfl⟩ : ∃ y0 y1 y2 y3, xs = [y0, y1, y2, y3] := by
  match xs, hx with
  | [y0, y1, y2, y3], _ => exact ⟨y0, y1, y2, y3, rfl⟩
 have t0 : DataW.trod enc prog w 0 (fun _ => true) true m' 32 ((cs.drop 0).take (prog.cellsOf 32)) = some y0 := hg 0 _ rfl
 rw [show prog.cellsOf 32 = 2 from by kernel_rfl] at t0
 obtain ⟨a, b, ea, eb⟩ := xez t0
 rw [w0z (by omega)] at ea eb
 obtain ⟨c, ec⟩ := w7z (t := 22) (o := 2) (y := y1) (by rw [hl]; omega) (by kernel_rfl) underlying22 (hg 1 _ rfl)
 obtain ⟨d, ed⟩ := w7z (t := 22) (o := 3) (y := y2) (by rw [hl]; omega) (by kernel_rfl) underlying22 (hg 2 _ rfl)
 obtain ⟨e, ee⟩ := f_bool (o := 4) (y := y3) (by rw [hl]; omega) (hg 3 _ rfl)
 exact ⟨a, b, c, d, e, ea, eb, ec, ed, ee⟩
theorem jqz {cs : List Value} (h : DataW.trod enc prog w 0 (fun _ => true) true m 30 cs = some y) : ∃ l : List Int, l.length = 16 ∧ ∀ i, i < 16 → cs[i]? = some (.int .u64 (l.getD i 0)) := by
 obtain ⟨xs, m', _, _, hl, hx, hg⟩ := DataW.trod_array underlying30 h
 rw [show prog.cellsOf 30 = 16 from by kernel_rfl] at hl
 have key : ∀ i, ∃ n : Int, i < 16 → cs[i]? = some (.int .u64 n) := by
  intro i
  by_cases hi : i < 16
  ·have q := hg i hi
   rw [List.getElem?_eq_getElem (by omega), show prog.cellsOf 22 = 1 from by kernel_rfl, Nat.mul_one] at q
   obtain ⟨n, e⟩ := w7z (t := 22) (o := i) (by rw [hl]; omega) (by kernel_rfl) underlying22 (by rw [show prog.cellsOf 22 = 1 from by kernel_rfl]; exact q)
   exact ⟨n, fun _ => e⟩
  ·exact ⟨0, fun h => absurd h hi⟩
 refine ⟨(List.range 16).map fun i => Classical.choose (key i), by simp, fun i hi => ?_⟩
 have hg : ((List.range 16).map fun i => Classical.choose (key i)).getD i 0 = Classical.choose (key i) := by
  rw [List.getD_eq_getElem?_getD, List.getElem?_eq_getElem (by simpa using hi)]; simp
 rw [hg]
 exact Classical.choose_spec (key i) hi
theorem jxz {cs : List Value} (h : DataW.trod enc prog w 0 (fun _ => true) true m 37 cs = some y) : ∃ a b c d, LbV (LtN w) w cs[0]? a ∧ LbV (LtN w) w cs[1]? b ∧ LbV (LtN w) w cs[2]? c ∧ LbV (LtN w) w cs[3]? d := by
 obtain ⟨xs, m', _, _, hl, hx, hg⟩ := DataW.trod_array underlying37 h
 rw [show prog.cellsOf 37 = 4 from by kernel_rfl] at hl
 have key : ∀ i, i < 4 → ∃ L, LbV (LtN w) w cs[i]? L := by
  intro i hi
  have q := hg i hi
  rw [List.getElem?_eq_getElem (by omega), show prog.cellsOf 27 = 1 from by kernel_rfl, Nat.mul_one] at q
  exact gJz (o := i) (by rw [hl]; omega) (by rw [show prog.cellsOf 27 = 1 from by kernel_rfl]; exact q)
 obtain ⟨a, ea⟩ := key 0 (by omega)
 obtain ⟨b, eb⟩ := key 1 (by omega)
 obtain ⟨c, ec⟩ := key 2 (by omega)
 obtain ⟨d, ed⟩ := key 3 (by omega)
 exact ⟨a, b, c, d, ea, eb, ec, ed⟩
theorem vDz {cs : List Value} (h : DataW.trod enc prog w 0 (fun _ => true) true m 39 cs = some y) : ∃ t, ThF (LtN w) w (fun i => cs[i]?) t := by
 obtain ⟨xs, m', _, _, hl, hx, hg⟩ := DataW.trod_struct underlying39 h
 rw [show prog.cellsOf 39 = 35 from by kernel_rfl] at hl
 obtain ⟨y0, y1, y2, y3, y4, y5, y6, y7, y8, y9, y10, rfl⟩ : ∃ y0 y1 y2 y3 y4 y5 y6 y7 y8 y9 y10, xs = [y0, y1, y2, y3, y4, y5, y6, y7, y8, y9, y10] := by
  match xs, hx with
  | [y0, y1, y2, y3, y4, y5, y6, y7, y8, y9, y10], _ => exact ⟨y0, y1, y2, y3, y4, y5, y6, y7, y8, y9, y10, rfl⟩
 have t0 : DataW.trod enc prog w 0 (fun _ => true) true m' 30 ((cs.drop 0).take (prog.cellsOf 30)) = some y0 := hg 0 _ rfl
 rw [show prog.cellsOf 30 = 16 from by kernel_rfl] at t0
 obtain ⟨regs, hr, er⟩ := jqz t0
 have t1 : DataW.trod enc prog w 0 (fun _ => true) true m' 22 ((cs.drop 16).take (prog.cellsOf 22)) = some y1 := hg 1 _ rfl
 obtain ⟨pc, epc⟩ := w7z (o := 16) (by rw [hl]; omega) (by kernel_rfl) underlying22 t1
 have t2 : DataW.trod enc prog w 0 (fun _ => true) true m' 27 ((cs.drop 17).take (prog.cellsOf 27)) = some y2 := hg 2 _ rfl
 obtain ⟨clear, eclear⟩ := gJz (o := 17) (by rw [hl]; omega) t2
 have t3 : DataW.trod enc prog w 0 (fun _ => true) true m' 32 ((cs.drop 18).take (prog.cellsOf 32)) = some y3 := hg 3 _ rfl
 rw [show prog.cellsOf 32 = 2 from by kernel_rfl] at t3
 obtain ⟨space1, space2, espace1, espace2⟩ := xez t3
 rw [w0z (by omega)] at espace1 espace2
 have t4 : DataW.trod enc prog w 0 (fun _ => true) true m' 22 ((cs.drop 20).take (prog.cellsOf 22)) = some y4 := hg 4 _ rfl
 obtain ⟨handler, ehandler⟩ := w7z (o := 20) (by rw [hl]; omega) (by kernel_rfl) underlying22 t4
 have t5 : DataW.trod enc prog w 0 (fun _ => true) true m' 22 ((cs.drop 21).take (prog.cellsOf 22)) = some y5 := hg 5 _ rfl
 obtain ⟨vector, evector⟩ := w7z (o := 21) (by rw [hl]; omega) (by kernel_rfl) underlying22 t5
 have t6 : DataW.trod enc prog w 0 (fun _ => true) true m' 3 ((cs.drop 22).take (prog.cellsOf 3)) = some y6 := hg 6 _ rfl
 obtain ⟨state, estate⟩ := w7z (o := 22) (by rw [hl]; omega) (by kernel_rfl) underlying3 t6
 have t7 : DataW.trod enc prog w 0 (fun _ => true) true m' 34 ((cs.drop 23).take (prog.cellsOf 34)) = some y7 := hg 7 _ rfl
 rw [show prog.cellsOf 34 = 5 from by kernel_rfl] at t7
 obtain ⟨wa, wb, wc, wd, we, ewa, ewb, ewc, ewd, ewe⟩ := jhz t7
 rw [w0z (by omega)] at ewa ewb ewc ewd ewe
 have t8 : DataW.trod enc prog w 0 (fun _ => true) true m' 28 ((cs.drop 28).take (prog.cellsOf 28)) = some y8 := hg 8 _ rfl
 obtain ⟨alerts, ealerts⟩ := f_ct (o := 28) (by rw [hl]; omega) t8
 have t9 : DataW.trod enc prog w 0 (fun _ => true) true m' 36 ((cs.drop 29).take (prog.cellsOf 36)) = some y9 := hg 9 _ rfl
 rw [show prog.cellsOf 36 = 2 from by kernel_rfl] at t9
 obtain ⟨span1, span2, espan1, espan2⟩ := jiz t9
 rw [w0z (by omega)] at espan1 espan2
 have t10 : DataW.trod enc prog w 0 (fun _ => true) true m' 37 ((cs.drop 31).take (prog.cellsOf 37)) = some y10 := hg 10 _ rfl
 rw [show prog.cellsOf 37 = 4 from by kernel_rfl] at t10
 obtain ⟨la, lb, lc, ld, ela, elb, elc, eld⟩ := jxz t10
 rw [w0z (by omega)] at ela elb elc eld
 refine ⟨⟨regs, pc, clear, space1, space2, handler, vector, state, wa, wb, wc, wd, we, alerts, span1, span2, la, lb, lc, ld⟩, hr, fun i hi => ?_, epc, eclear, espace1, espace2, ehandler, evector, estate, ewa, ewb, ewc, ewd, ewe, ealerts, espan1, espan2, ela, elb, elc, eld⟩
 have := er i hi
 rw [w0z hi, Nat.zero_add] at this
 exact this
theorem vYz {cs : List Value} (h : DataW.trod enc prog w 0 (fun _ => true) true m 41 cs = some y) : ∃ t, GtF (LtN w) w (fun i => cs[i]?) t := by
 obtain ⟨xs, m', _, _, hl, hx, hg⟩ := DataW.trod_struct underlying41 h
 rw [show prog.cellsOf 41 = 6 from by kernel_rfl] at hl
 obtain ⟨y0, y1, y2, y3, y4, rfl⟩ : ∃ y0 y1 y2 y3 y4, xs = [y0, y1, y2, y3, y4] := by
  match xs, hx with
  | [y0, y1, y2, y3, y4], _ => exact ⟨y0, y1, y2, y3, y4, rfl⟩
 have t0 : DataW.trod enc prog w 0 (fun _ => true) true m' 27 ((cs.drop 0).take (prog.cellsOf 27)) = some y0 := hg 0 _ rfl
 obtain ⟨grant, egrant⟩ := gJz (o := 0) (by rw [hl]; omega) t0
 have t1 : DataW.trod enc prog w 0 (fun _ => true) true m' 27 ((cs.drop 1).take (prog.cellsOf 27)) = some y1 := hg 1 _ rfl
 obtain ⟨clear, eclear⟩ := gJz (o := 1) (by rw [hl]; omega) t1
 have t2 : DataW.trod enc prog w 0 (fun _ => true) true m' 32 ((cs.drop 2).take (prog.cellsOf 32)) = some y2 := hg 2 _ rfl
 rw [show prog.cellsOf 32 = 2 from by kernel_rfl] at t2
 obtain ⟨space1, space2, espace1, espace2⟩ := xez t2
 rw [w0z (by omega)] at espace1 espace2
 have t3 : DataW.trod enc prog w 0 (fun _ => true) true m' 22 ((cs.drop 4).take (prog.cellsOf 22)) = some y3 := hg 3 _ rfl
 obtain ⟨pc, epc⟩ := w7z (o := 4) (by rw [hl]; omega) (by kernel_rfl) underlying22 t3
 have t4 : DataW.trod enc prog w 0 (fun _ => true) true m' 22 ((cs.drop 5).take (prog.cellsOf 22)) = some y4 := hg 4 _ rfl
 obtain ⟨arg, earg⟩ := w7z (o := 5) (by rw [hl]; omega) (by kernel_rfl) underlying22 t4
 exact ⟨⟨grant, clear, space1, space2, pc, arg⟩, egrant, eclear, espace1, espace2, epc, earg⟩
theorem ThF.ones {f : Nat → Option Value} {t : Th} (h : ThF (LtN w) w f t) {i : Nat} (hi : i < 35) {v : Value} (e : f i = some v) : v.oneCell' = true := by
 by_cases h16 : i < 16
 ·rw [h.regs i h16] at e; cases e; rfl
 ·obtain rfl | rfl | rfl | rfl | rfl | rfl | rfl | rfl | rfl | rfl | rfl | rfl | rfl | rfl | rfl | rfl | rfl | rfl | rfl : i = 16 ∨ i = 17 ∨ i = 18 ∨ i = 19 ∨ i = 20 ∨ i = 21 ∨ i = 22 ∨ i = 23 ∨ i = 24 ∨ i = 25 ∨ i = 26 ∨ i = 27 ∨ i = 28 ∨ i = 29 ∨ i = 30 ∨ i = 31 ∨ i = 32 ∨ i = 33 ∨ i = 34 := by omega
  ·(rw [h.pc] at e; cases e; rfl)
  ·(obtain ⟨_, _, _, q, _⟩ := h.clear; rw [q] at e; cases e; rfl)
  ·(rw [h.sc] at e; cases e; rfl)
  ·(rw [h.si] at e; cases e; rfl)
  ·(rw [h.handler] at e; cases e; rfl)
  ·(rw [h.vector] at e; cases e; rfl)
  ·(rw [h.state] at e; cases e; rfl)
  ·(rw [h.wc] at e; cases e; rfl)
  ·(rw [h.wi] at e; cases e; rfl)
  ·(rw [h.wx] at e; cases e; rfl)
  ·(rw [h.wv] at e; cases e; rfl)
  ·(rw [h.wd] at e; cases e; rfl)
  ·(obtain ⟨_, _, _, q, _⟩ := h.alerts; rw [q] at e; cases e; rfl)
  ·(rw [h.lo] at e; cases e; rfl)
  ·(rw [h.hi] at e; cases e; rfl)
  ·(obtain ⟨_, _, _, q, _⟩ := h.l0; rw [q] at e; cases e; rfl)
  ·(obtain ⟨_, _, _, q, _⟩ := h.l1; rw [q] at e; cases e; rfl)
  ·(obtain ⟨_, _, _, q, _⟩ := h.l2; rw [q] at e; cases e; rfl)
  ·(obtain ⟨_, _, _, q, _⟩ := h.l3; rw [q] at e; cases e; rfl)
theorem GtF.ones {f : Nat → Option Value} {t : Gt} (h : GtF (LtN w) w f t) {i : Nat} (hi : i < 6) {v : Value} (e : f i = some v) : v.oneCell' = true := by
 obtain rfl | rfl | rfl | rfl | rfl | rfl : i = 0 ∨ i = 1 ∨ i = 2 ∨ i = 3 ∨ i = 4 ∨ i = 5 := by omega
 ·(obtain ⟨_, _, _, q, _⟩ := h.grant; rw [q] at e; cases e; rfl)
 ·(obtain ⟨_, _, _, q, _⟩ := h.clear; rw [q] at e; cases e; rfl)
 ·(rw [h.sc] at e; cases e; rfl)
 ·(rw [h.si] at e; cases e; rfl)
 ·(rw [h.pc] at e; cases e; rfl)
 ·(rw [h.arg] at e; cases e; rfl)
theorem kCz {cs : List Value} (h : DataW.trod enc prog w 0 (fun _ => true) true m 43 cs = some y) : ∃ x, ObD (LtN w) w cs.toArray x := by
 obtain ⟨xs, m', _, _, hl, hx, hg⟩ := DataW.trod_struct underlying43 h
 rw [show prog.cellsOf 43 = 51 from by kernel_rfl] at hl
 obtain ⟨y0, y1, y2, y3, y4, y5, y6, y7, y8, y9, y10, y11, rfl⟩ : ∃ y0 y1 y2 y3 y4 y5 y6 y7 y8 y9 y10 y11, xs = [y0, y1, y2, y3, y4, y5, y6, y7, y8, y9, y10, y11] := by
  match xs, hx with
  | [y0, y1, y2, y3, y4, y5, y6, y7, y8, y9, y10, y11], _ => exact ⟨y0, y1, y2, y3, y4, y5, y6, y7, y8, y9, y10, y11, rfl⟩
 have t0 : DataW.trod enc prog w 0 (fun _ => true) true m' 22 ((cs.drop 0).take (prog.cellsOf 22)) = some y0 := hg 0 _ rfl
 obtain ⟨id, eid⟩ := w7z (o := 0) (by rw [hl]; omega) (by kernel_rfl) underlying22 t0
 have t1 : DataW.trod enc prog w 0 (fun _ => true) true m' 3 ((cs.drop 1).take (prog.cellsOf 3)) = some y1 := hg 1 _ rfl
 obtain ⟨kind, ekind⟩ := w7z (o := 1) (by rw [hl]; omega) (by kernel_rfl) underlying3 t1
 have t2 : DataW.trod enc prog w 0 (fun _ => true) true m' 27 ((cs.drop 2).take (prog.cellsOf 27)) = some y2 := hg 2 _ rfl
 obtain ⟨label, elabel⟩ := gJz (o := 2) (by rw [hl]; omega) t2
 have t3 : DataW.trod enc prog w 0 (fun _ => true) true m' 3 ((cs.drop 3).take (prog.cellsOf 3)) = some y3 := hg 3 _ rfl
 obtain ⟨quota, equota⟩ := w7z (o := 3) (by rw [hl]; omega) (by kernel_rfl) underlying3 t3
 have t4 : DataW.trod enc prog w 0 (fun _ => true) true m' 4 ((cs.drop 4).take (prog.cellsOf 4)) = some y4 := hg 4 _ rfl
 obtain ⟨fixed, efixed⟩ := f_bool (o := 4) (by rw [hl]; omega) t4
 have t5 : DataW.trod enc prog w 0 (fun _ => true) true m' 28 ((cs.drop 5).take (prog.cellsOf 28)) = some y5 := hg 5 _ rfl
 obtain ⟨links, elinks⟩ := f_ct (o := 5) (by rw [hl]; omega) t5
 have t6 : DataW.trod enc prog w 0 (fun _ => true) true m' 28 ((cs.drop 6).take (prog.cellsOf 28)) = some y6 := hg 6 _ rfl
 obtain ⟨data, edata⟩ := f_ct (o := 6) (by rw [hl]; omega) t6
 have t7 : DataW.trod enc prog w 0 (fun _ => true) true m' 29 ((cs.drop 7).take (prog.cellsOf 29)) = some y7 := hg 7 _ rfl
 obtain ⟨maps, emaps⟩ := f_map (o := 7) (by rw [hl]; omega) t7
 have t8 : DataW.trod enc prog w 0 (fun _ => true) true m' 39 ((cs.drop 8).take (prog.cellsOf 39)) = some y8 := hg 8 _ rfl
 rw [show prog.cellsOf 39 = 35 from by kernel_rfl] at t8
 obtain ⟨th, eth⟩ := vDz t8
 have t9 : DataW.trod enc prog w 0 (fun _ => true) true m' 41 ((cs.drop 43).take (prog.cellsOf 41)) = some y9 := hg 9 _ rfl
 rw [show prog.cellsOf 41 = 6 from by kernel_rfl] at t9
 obtain ⟨gt, egt⟩ := vYz t9
 have t10 : DataW.trod enc prog w 0 (fun _ => true) true m' 28 ((cs.drop 49).take (prog.cellsOf 28)) = some y10 := hg 10 _ rfl
 obtain ⟨inn, einn⟩ := f_ct (o := 49) (by rw [hl]; omega) t10
 have t11 : DataW.trod enc prog w 0 (fun _ => true) true m' 28 ((cs.drop 50).take (prog.cellsOf 28)) = some y11 := hg 11 _ rfl
 obtain ⟨out, eout⟩ := f_ct (o := 50) (by rw [hl]; omega) t11
 have eth' : ThF (LtN w) w (fun i => cs[8 + i]?) th := eth.congr fun i hi => w0z hi
 have egt' : GtF (LtN w) w (fun i => cs[43 + i]?) gt := egt.congr fun i hi => w0z hi
 refine ⟨⟨id, kind, label, quota, fixed, links, data, maps, th, gt, inn, out⟩, by simpa using hl, ?_, by simpa using eid, by simpa using ekind, by simpa using elabel, by simpa using equota, by simpa using efixed, by simpa using elinks, by simpa using edata, by simpa using emaps, by simpa using eth', by simpa using egt', by simpa using einn, by simpa using eout⟩
 refine jPz fun j v e => ?_
 have e' : cs[j]? = some v := by simpa using e
 have hj : j < 51 := by rw [← hl]; exact (List.getElem?_eq_some_iff.1 e').1
 by_cases h8 : 8 ≤ j ∧ j < 43
 ·obtain ⟨i, rfl⟩ : ∃ i, j = 8 + i := ⟨j - 8, by omega⟩
  exact eth'.ones (i := i) (by omega) e'
 ·by_cases h43 : 43 ≤ j ∧ j < 49
  ·obtain ⟨i, rfl⟩ : ∃ i, j = 43 + i := ⟨j - 43, by omega⟩
   exact egt'.ones (i := i) (by omega) e'
  ·obtain rfl | rfl | rfl | rfl | rfl | rfl | rfl | rfl | rfl | rfl : j = 0 ∨ j = 1 ∨ j = 2 ∨ j = 3 ∨ j = 4 ∨ j = 5 ∨ j = 6 ∨ j = 7 ∨ j = 49 ∨ j = 50 := by omega
   ·(rw [eid] at e'; cases e'; rfl)
   ·(rw [ekind] at e'; cases e'; rfl)
   ·(obtain ⟨_, _, _, q, _⟩ := elabel; rw [q] at e'; cases e'; rfl)
   ·(rw [equota] at e'; cases e'; rfl)
   ·(rw [efixed] at e'; cases e'; rfl)
   ·(obtain ⟨_, _, _, q, _⟩ := elinks; rw [q] at e'; cases e'; rfl)
   ·(obtain ⟨_, _, _, q, _⟩ := edata; rw [q] at e'; cases e'; rfl)
   ·(obtain ⟨_, _, _, q, _⟩ := emaps; rw [q] at e'; cases e'; rfl)
   ·(obtain ⟨_, _, _, q, _⟩ := einn; rw [q] at e'; cases e'; rfl)
   ·(obtain ⟨_, _, _, q, _⟩ := eout; rw [q] at e'; cases e'; rfl)
theorem vUz {base : Nat} {v : Value} {d : DataW H} {ps : List MemPlace} (hv : Value.okWide prog w .any base 43 v)
  (h : DataW.Trod enc prog w 0 (fun _ => true) true 43 v d ps) : ∃ C x, v = .agg C ∧ ObD (LtN w) w C x := by
 unfold Value.okWide at hv
 rw [underlying43] at hv
 obtain ⟨cs, rfl, hs, _⟩ := hv
 obtain ⟨fuel, hf⟩ := h
 obtain ⟨x, hx⟩ := kCz (cs := cs.toList) (m := fuel) hf
 exact ⟨cs, x, rfl, by simpa using hx⟩
end
end
section
open Go.RowKit Go.Shelf
attribute [local go_sem] Oper.semAt_some
section
variable {P : Program} {ops : Array Oper} {rest : List Oper} {op : Oper} {a : Act} {Q : Exit → Act → World → Prop} {w : World}
theorem qRz (hw : Region.wanted op (yielded ops a.tmps) = true) (t : TypeId) (parts : List (Nat × Operand)) (ho : op.op = .build t parts.toArray) (cells : Array Value) (hf : P.built t (parts.map fun p => (p.1, a.eval p.2)) = some cells)
  (h : wpList P ops Q rest (a.put op.dst (.agg cells)) w) : wpList P ops Q (op :: rest) a w := by
 have hf' : P.built t (parts.toArray.map fun (i, x) => (i, a.eval x)).toList = some cells := by simpa using hf
 exact wZz hw (wp_build t parts.toArray ho (by rw [hf']; rfl) (by rw [hf']; exact h))
end
end
section
variable {x : Ob}
theorem alo_th (h : aloO x = x) (hk : ¬ x.kind = 4) : x.th = zTh := by
 have e : (aloO x).th = zTh := by
  unfold aloO
  by_cases h1 : x.kind = 1
  ·rw [if_pos h1]
  rw [if_neg h1]
  by_cases h2 : x.kind = 2
  ·rw [if_pos h2]
  rw [if_neg h2]
  by_cases h3 : x.kind = 3
  ·rw [if_pos h3]
  rw [if_neg h3, if_neg hk]
  by_cases h5 : x.kind = 5
  ·rw [if_pos h5]
  rw [if_neg h5]
  by_cases h6 : x.kind = 6
  ·rw [if_pos h6]
  rw [if_neg h6]; rfl
 rw [h] at e; exact e
theorem alo_gt (h : aloO x = x) (hk : ¬ x.kind = 5) : x.gt = zGt := by
 have e : (aloO x).gt = zGt := by
  unfold aloO
  by_cases h1 : x.kind = 1
  ·rw [if_pos h1]
  rw [if_neg h1]
  by_cases h2 : x.kind = 2
  ·rw [if_pos h2]
  rw [if_neg h2]
  by_cases h3 : x.kind = 3
  ·rw [if_pos h3]
  rw [if_neg h3]
  by_cases h4 : x.kind = 4
  ·rw [if_pos h4]
  rw [if_neg h4, if_neg hk]
  by_cases h6 : x.kind = 6
  ·rw [if_pos h6]
  rw [if_neg h6]; rfl
 rw [h] at e; exact e
theorem yNz (h : aloO x = x) (hk : ¬ x.kind = 1) : x.data = [] := by
 have e : (aloO x).data = [] := by
  unfold aloO
  rw [if_neg hk]
  by_cases h2 : x.kind = 2
  ·rw [if_pos h2]
  rw [if_neg h2]
  by_cases h3 : x.kind = 3
  ·rw [if_pos h3]
  rw [if_neg h3]
  by_cases h4 : x.kind = 4
  ·rw [if_pos h4]
  rw [if_neg h4]
  by_cases h5 : x.kind = 5
  ·rw [if_pos h5]
  rw [if_neg h5]
  by_cases h6 : x.kind = 6
  ·rw [if_pos h6]
  rw [if_neg h6]; rfl
 rw [h] at e; exact e
theorem pag_eq (hs : qUz x = true) : pagO x = pagN x := by
 unfold pagO
 by_cases h1 : x.kind = 1
 ·rw [if_pos h1]
 ·rw [if_neg h1]; unfold pagN; rw [yNz ((q8z x).1 (qtz.1 hs).2.2) h1]; decide
end
section
open Go.RowKit Go.Shelf
attribute [local go_sem] Oper.semAt_some
section
variable {ops : Array Oper} {Q : Exit → Act → World → Prop} {S : World → Prop} {w : World} {m : Nat} {a : Act} {l : Array Bool}
theorem share (n : Nat) (l' : Array Bool) (F : Act → World → Prop) (hF : ∀ A W, F A W → wpAnyH prog .any ops Q S n l' A W) (h : (∀ A W, F A W → wpAnyH prog .any ops Q S n l' A W) → wpAnyH prog .any ops Q S m l a w) : wpAnyH prog .any ops Q S m l a w := h hF
theorem wYz {i : Nat} {ty : TypeId} {z : Array Value} {d : Option Tmp} {K : Act → World → Prop} (hi : (ops[i]?).bind (fun o => v2z ops o a) = some (ty, d)) (hz : ∀ w, (zeroValue ty).run prog w = .ok (.agg z) w)
  (h : ∀ B W, Hid (w.heap.size = B ∧ W.heap.size = B + 1) → Blk W B z ty → Below w.heap.size w W → K (a.put d (.pointer (some ⟨B, 0, none⟩))) W) : wpOp prog ops Q i K a w := by
 cases ho : ops[i]? with
 | none => rw [ho] at hi; cases hi
 | some o =>
  rw [ho] at hi
  have hi' : v2z ops o a = _ := hi
  unfold v2z at hi'
  split at hi'
  ·rename_i hw
   split at hi'
   ·rename_i t hop
    cases hi'
    unfold wpOp
    simp only [ho, hw, if_true]
    left
    unfold Oper.wp execOp
    simp only [hop, Instr.alloc, hz, newVar, newRow, newObj, Sem.run_bind, Value.cells, Result.andThen_ok]
    exact h _ _ ⟨rfl, by simp⟩ (Blk.new w z ty) ((brz _ w).alloc (lrz _) _)
   ·cases hi'
  ·cases hi'
theorem wqz {i : Nat} {ty : TypeId} {B off : Nat} {v : Value} {d : Option Tmp} {W : World} {K : Act → World → Prop} (hi : (ops[i]?).bind (fun o => vEz ops o a) = some (ty, B, off, v, d)) (hr : (storeVar ty ⟨B, off, none⟩ v).run prog w = .ok () W)
  (h : K (a.put d undef) W) : wpOp prog ops Q i K a w := by
 cases ho : ops[i]? with
 | none => rw [ho] at hi; cases hi
 | some o =>
  rw [ho] at hi
  have hi' : vEz ops o a = _ := hi
  unfold vEz at hi'
  split at hi'
  ·rename_i hw
   split at hi'
   ·rename_i t x y hop
    split at hi'
    ·rename_i b o' hx
     cases hi'
     unfold wpOp
     simp only [ho, hw, if_true]
     left
     unfold Oper.wp execOp
     simp only [hop, hx, Instr.storeAt, Instr.sureAddr, Sem.run_bind, Sem.run_pure, Result.andThen_ok, hr]
     exact h
    ·cases hi'
   ·cases hi'
  ·cases hi'
theorem xOz {i j : Nat} {n : Nat} (hm : m = n + 1) (hr : Region.ready .any ops l = [i, j]) (h : wpOp prog ops Q i (fun a' w' => S w' ∧ wpAnyH prog .any ops Q S n (l.setIfInBounds i true) a' w') a w) (h' : wpOp prog ops Q j (fun a' w' => S w' ∧ wpAnyH prog .any ops Q S n (l.setIfInBounds j true) a' w') a w) : wpAnyH prog .any ops Q S m l a w := by
 subst hm
 refine wpAnyH_all hr (by simp) ?_
 intro k hk
 rw [List.mem_cons, List.mem_singleton] at hk
 rcases hk with rfl | rfl
 ·exact h
 ·exact h'
theorem qBz {i : Nat} {n : Nat} (hm : m = n + 1) (hr : Region.ready .any ops l = [i]) (h : wpOp prog ops Q i (fun a' w' => S w' ∧ wpAnyH prog .any ops Q S n (l.setIfInBounds i true) a' w') a w) : wpAnyH prog .any ops Q S m l a w := by
 subst hm
 refine wpAnyH_all hr (by simp) ?_
 intro k hk
 obtain rfl : k = i := by simpa using hk
 exact h
end
end
section
open Go.ChangeShapes Go.WideShapes Go.ChangeAt Go.RowKit Go.Shelf
attribute [local go_sem] Oper.semAt_some
def oat (l : List Ob) (i : Nat) : Ob := l.getD i zOb
def ObsD (E D : Nat → Prop) (w : World) (ao : Option Addr) (n cap : Nat) (l : List Ob) : Prop :=
 l.length = n ∧ n ≤ cap ∧ (cap ≤ 9223372036854775807 ∧ (ao = none → cap = 0)) ∧
 (0 < n → ∃ b off, ao = some ⟨b, off, none⟩ ∧ E b ∧ ∀ i, i < n → ∃ C, ObD D w C (oat l i) ∧ w.rangeAt b (off + i * 51) C.toList)
theorem qmz {w w' : World} {b o : Nat} {cs : List Value} (h : w.rangeAt b o cs) (k : w'.heap[b]? = w.heap[b]?) : w'.rangeAt b o cs := fun j v hv => (World.cell?_of_block (w := w) (a := ⟨b, o + j, none⟩) k).trans (h j v hv)
section
variable {E E' D D' : Nat → Prop} {w w' : World} {ao : Option Addr} {n cap : Nat} {l : List Ob}
theorem ObsD.laterK (h : ObsD E D w ao n cap l) (k : ∀ b, D b → w'.heap[b]? = w.heap[b]?) (k' : ∀ b, E b → w'.heap[b]? = w.heap[b]?) : ObsD E D w' ao n cap l := by
 obtain ⟨h1, h2, h3, h4⟩ := h
 refine ⟨h1, h2, h3, fun hn => ?_⟩
 obtain ⟨b, off, e, hb, hc⟩ := h4 hn
 refine ⟨b, off, e, hb, fun i hi => ?_⟩
 obtain ⟨C, hC, hr⟩ := hc i hi
 exact ⟨C, hC.laterK k, qmz hr (k' b hb)⟩
theorem ObsD.wide (h : ObsD E D w ao n cap l) (k : ∀ b, D b → D' b) (k' : ∀ b, E b → E' b) : ObsD E' D' w ao n cap l := by
 obtain ⟨h1, h2, h3, h4⟩ := h
 refine ⟨h1, h2, h3, fun hn => ?_⟩
 obtain ⟨b, off, e, hb, hc⟩ := h4 hn
 refine ⟨b, off, e, k' b hb, fun i hi => ?_⟩
 obtain ⟨C, hC, hr⟩ := hc i hi
 exact ⟨C, hC.wide k, hr⟩
theorem ObsD.nil (E D : Nat → Prop) (w : World) : ObsD E D w none 0 0 [] := ⟨rfl, lrz _, ⟨by omega, fun _ => rfl⟩, fun h => absurd h (by omega)⟩
end
abbrev Obs (w : World) (ao : Option Addr) (n cap : Nat) (l : List Ob) : Prop := ObsD (LtN w) (LtN w) w ao n cap l
theorem qqz {w w' : World} {ao : Option Addr} {n cap : Nat} {l : List Ob} (h : Obs w ao n cap l) (k : Below w.heap.size w w') : Obs w' ao n cap l :=
 (ObsD.laterK h (fun b hb => k.block b hb) (fun b hb => k.block b hb)).wide (fun b hb => ltz hb k.size) (fun b hb => ltz hb k.size)
theorem wHz {w : World} {ao : Option Addr} {n cap : Nat} {l : List Ob} (h : Obs w ao n cap l) {i : Nat} (hi : i < n) : ∃ b off C, ao = some ⟨b, off, none⟩ ∧ b < w.heap.size ∧ ObD (LtN w) w C (oat l i) ∧ w.rangeAt b (off + i * 51) C.toList := by
 obtain ⟨b, off, e, hb, hc⟩ := h.2.2.2 (by omega)
 obtain ⟨C, hC, hr⟩ := hc i hi
 exact ⟨b, off, C, e, hb, hC, hr⟩
section
variable {P : Program} {ops : Array Oper} {rest : List Oper} {op : Oper} {a : Act} {Q : Exit → Act → World → Prop} {w : World}
theorem qGz (hw : Region.wanted op (yielded ops a.tmps) = true) (ty : TypeId) (x : Operand) (ho : op.op = .load ty x) (b o : Nat) (hx : a.eval x = .pointer (some ⟨b, o, none⟩)) (C : Array Value) (hr : w.rangeAt b o C.toList) (d : TypeDesc)
  (hu : P.underlying ty = some d) (hd : d.isRow = true) (hi : (P.info? ty).map (·.size) = some C.size) (h : wpList P ops Q rest (a.put op.dst (.agg C)) w) : wpList P ops Q (op :: rest) a w := by
 refine q9z hw ?_ h
 have := run_loadVar_mid (P := P) w b o ty C.toList d hr hu hd (by simpa using hi)
 rw [Array.toArray_toList] at this
 unfold execOp
 simp [ho, hx, Instr.loadAt, Instr.sureAddr, this]
end
theorem wnz {S : World → Prop} {P : Program} {ty : TypeId} {b o : Nat} {C : Array Value} (hr : ∀ w, S w → w.rangeAt b o C.toList) {d : TypeDesc} (hu : P.underlying ty = some d) (hd : d.isRow = true) (hi : (P.info? ty).map (·.size) = some C.size) : Obl.holds P S (.load ty b o (.agg C)) := fun w hS => by
 have := run_loadVar_mid (P := P) w b o ty C.toList d (hr w hS) hu hd (by simpa using hi)
 rw [Array.toArray_toList] at this
 exact this
end
section
open Go.RowKit Go.Shelf
attribute [local go_sem] Oper.semAt_some
variable {l : List Ob}
theorem qKz {i : Nat} (h : i < l.length) : oat l i = l[i] := by unfold oat; rw [List.getD_eq_getElem?_getD, List.getElem?_eq_getElem h]; rfl
theorem wbz {i : Nat} (h : i < l.length) : oat l i ∈ l := by rw [qKz h]; exact List.getElem_mem h
theorem oats_ext {l m : List Ob} (h : l.length = m.length) (k : ∀ i, i < l.length → oat l i = oat m i) : l = m := by
 apply List.ext_getElem h
 intro i h1 h2
 have := k i h1
 rwa [qKz h1, qKz h2] at this
variable {ao : Option Addr} {w : World} {n cap : Nat} {X : List Ob}
theorem ujz (h : Obs w ao n cap X) : Asks 88 #[.slice ao n cap, .func (.func 89) #[] #[]] (∀ i, i < X.length → qUz (oat X i) = true) w := by
 have hn : Hid (X.length = n) := h.1
 have hnc := h.2.1
 have hcm := h.2.2.1.1
 unfold Asks
 go_enter func88, ntmps88
 go_wp2
 go_loopw [9] (fun i wr => ∃ k : Nat, k ≤ n ∧ i = .int .i64 k ∧ Hid (∀ j, j < k → qUz (oat X j) = true) ∧ Below w.heap.size w wr) (fun i _ => n - (intOf i).toNat)
 case atStart => exact ⟨0, Nat.zero_le _, rfl, fun j hj => absurd hj (by omega), brz _ _⟩
 case round =>
  obtain ⟨k, hk, rfl, hal, hb⟩ := hrel
  have hbs := hb.size
  by_cases hkn : k < n
  ·obtain ⟨b, off, C, rfl, hbb, hC, hr⟩ := wHz (qqz h hb) hkn
   have hkn' : (k : Int) < n := by omega
   have hz := hC.size
   go_wp2_with (first
    | (with_reducible refine qGz (by kernel_rfl) 43 _ rfl b _ rfl C hr _ underlying43 (by kernel_rfl) (qez hz) ?_)
    | ((with_reducible refine qfz rfl _ rfl zC qzz ?_); intro R W1 hB1 hR1 hk1)
    | ((with_reducible refine qbz rfl _ _ _ rfl R rfl C rfl zC hR1 (qez hz) (qoz.trans hz.symm) hC.one ?_); intro W2 hR2 o2; have k2 := o2.below wr.heap.size wr (by have := hB1.out.1; omega) hk1)
    | (with_reducible refine qlz rfl _ _ rfl R rfl _ hR2 _ underlying43 rfl (qez hz) ?_)
    | (go_at_call 89; (with_reducible refine (uGz (hC.next k2)).on ?_ ?_) <;> (intro w3 hq hb3; have k3 := hb.trans ((btz k2 hb3).mono hbs))))
   ·go_roundw
    case rel => exact ⟨k + 1, by omega, by go_num, wzz hal.out hq.out, k3⟩
    case measure => simp [intOf]; omega
   ·go_ret
    exact qkz hq k3 (fun e => e k (by rw [hn.out]; exact hkn))
  ·obtain rfl : k = n := by omega
   go_wp2
   go_ret
   exact qrz (fun i hi => hal.out i (by rw [hn.out] at hi; exact hi)) hb
theorem whz {C : Array Value} {x : Ob} (h : ObD (LtN w) w C x) : Calls prog 101 #[.agg C] w fun e w' => e = .returned (.int .u64 x.id) ∧ Below w.heap.size w w' := by
 have c0 := h.id
 have ga1 := isAgg22
 go_enter func101, ntmps101
 go_wp2_with (first
  | (with_reducible refine qcz rfl _ _ rfl C rfl ?_; intro B W hB hb hk)
  | (with_reducible refine qaz (by kernel_rfl) _ _ rfl B _ rfl _ _ hb _ (by assumption) (by assumption) ?_))
 go_ret
 exact ⟨rfl, hk⟩
theorem jBz : idsB l = true ↔ ∀ i, i + 1 < l.length → (oat l i).id < (oat l (i + 1)).id := by
 unfold idsB
 rw [kAz]
 refine ⟨fun h i hi => ?_, fun h i hi => ?_⟩
 ·have := h i (by rw [List.length_map]; exact hi)
  rw [List.getD_eq_getElem?_getD, List.getD_eq_getElem?_getD, List.getElem?_map, List.getElem?_map, List.getElem?_eq_getElem (by omega), List.getElem?_eq_getElem hi] at this
  rw [qKz (by omega), qKz hi]
  exact this
 ·rw [List.length_map] at hi
  have := h i hi
  rw [qKz (by omega), qKz hi] at this
  rw [List.getD_eq_getElem?_getD, List.getD_eq_getElem?_getD, List.getElem?_map, List.getElem?_map, List.getElem?_eq_getElem (by omega), List.getElem?_eq_getElem hi]
  exact this
theorem wDz {S : World → Prop} {b off i n cap : Nat} (hi : i < n) : Obl.holds prog S (.ia 23 (.slice (some ⟨b, off, none⟩) n cap) (.int .i64 i) (.pointer (some ⟨b, off + i * 51, none⟩))) := fun w hS => by
 have hi' : (i : Int) < n := by omega
 go_simp
theorem x4z {S : World → Prop} {x y : Operand} {k j : Nat} (hj : Hid (k = j + 1)) (hw : IntKind.i64.wrap ((k : Int) - 1) = (j : Int)) : Obl.holds prog S (.test .sub 3 x y (.int .i64 k) (.int .i64 1) (.int .i64 j)) := fun w hS => by
 go_simp
theorem y2z (h : Obs w ao n cap X) : Asks 87 #[.agg #[.slice ao n cap, .func (.func 101) #[] #[]]] (idsB X = true) w := by
 have hmx : prog.follows .mixedOrders = true := by kernel_rfl
 have hn : Hid (X.length = n) := h.1
 have hnc := h.2.1
 have hcm := h.2.2.1.1
 unfold Asks
 go_enter func87, ntmps87
 go_wp2
 have hA := (brz w.heap.size w).alloc (lrz _) (.cells #[.slice ao n cap, .func (.func 101) #[] #[]] 108)
 have hBk := Blk.new w #[.slice ao n cap, .func (.func 101) #[] #[]] 108
 generalize w.alloc (.cells #[.slice ao n cap, .func (.func 101) #[] #[]] 108) = W0 at hA hBk ⊢
 obtain ⟨B, hB⟩ : ∃ B, w.heap.size = B := ⟨_, rfl⟩
 have hBh : Hid (w.heap.size = B) := hB
 rw [hB] at hBk hA ⊢
 clear hB
 go_loopw [3] (fun i wr => ∃ k : Nat, 1 ≤ k ∧ (k ≤ n ∨ k = 1) ∧ i = .int .i64 k ∧ Hid (∀ j, j + 1 < k → (oat X j).id < (oat X (j + 1)).id) ∧ Blk wr B #[.slice ao n cap, .func (.func 101) #[] #[]] 108 ∧ Below B w wr) (fun i _ => n - (intOf i).toNat)
 case atStart => exact ⟨1, lrz _, .inr rfl, rfl, fun j hj => absurd hj (by omega), hBk, hA⟩
 case round =>
  obtain ⟨k, hk1, hkn1, rfl, hal, hbk, hb⟩ := hrel
  have e0 := (hbk.cell 0).trans (show _ = some (.slice ao n cap) from rfl)
  have e1 := (hbk.cell 1).trans (show _ = some (.func (.func 101) #[] #[]) from rfl)
  by_cases hkn : k < n
  ·obtain ⟨j, hj⟩ : ∃ j, Hid (k = j + 1) := ⟨k - 1, by show _ = _; omega⟩
   have hw : IntKind.i64.wrap ((k : Int) - 1) = (j : Int) := by have := hj.out; rw [IntKind.wrap_i64]; omega
   have hjn : j < n := by have := hj.out; omega
   have hkn' : (k : Int) < n := by omega
   have hbs : B ≤ wr.heap.size := by have := hb.size; have := hBh.out; omega
   have hbw : Below w.heap.size w wr := by rw [hBh.out]; exact hb
   obtain ⟨b, off, C, rfl, hbb, hC, hr⟩ := wHz (qqz h hbw) hjn
   obtain ⟨b', off', C', e', hbb', hC', hr'⟩ := wHz (qqz h hbw) hkn
   cases e'
   have hz := hC.size
   have hz' := hC'.size
   by_cases hxy : (oat X j).id < (oat X k).id
   ·have hal2 : Hid (∀ i, i + 1 < k + 1 → (oat X i).id < (oat X (i + 1)).id) := by
     refine (?_ : ∀ i, i + 1 < k + 1 → (oat X i).id < (oat X (i + 1)).id)
     intro i hi
     rcases Nat.lt_or_ge (i + 1) k with h | h
     ·exact hal.out i h
     ·have hij : i = j := by have := hj.out; omega
      rw [hij, ← hj.out]; exact hxy
    have hd : Hid (¬ (oat X k).id ≤ (oat X j).id) := by show ¬ _; omega
    go_wp2
    refine PgM.region_out (S := fun W => Blk W B #[.slice (some ⟨b, off, none⟩) n cap, .func (.func 101) #[] #[]] 108 ∧ W.rangeAt b (off + j * 51) C.toList ∧ W.rangeAt b (off + k * 51) C'.toList) hmx ⟨hbk.next (brz _ _).drew, qmz hr ((brz _ wr).drew.block b hbb), qmz hr' ((brz _ wr).drew.block b hbb)⟩ (fun hS => ?_)
    have hkd := (brz wr.heap.size wr).drew
    have hC0 := hC.next hkd
    have hC0' := hC'.next hkd
    have hb1 := hb.trans (hkd.mono hbs)
    have hbb1 : b < wr.drew.heap.size := ltz hbb hkd.size
    generalize wr.drew = W1 at hS hC0 hC0' hb1 hbb1 ⊢
    clear hkd
    refine qvz (by kernel_rfl) (fun _ _ _ _ _ h => h) hS [(0, none), (1, some (.func (.func 101) #[] #[])), (2, none), (3, some (.slice (some ⟨b, off, none⟩) n cap)), (4, none), (5, some (.int .i64 j)), (6, some (.pointer (some ⟨b, off + j * 51, none⟩))), (7, some (.agg C)), (9, none), (10, some (.func (.func 101) #[] #[])), (11, none), (12, some (.slice (some ⟨b, off, none⟩) n cap)), (13, none), (14, some (.pointer (some ⟨b, off + k * 51, none⟩))), (15, some (.agg C'))] (obs := [.load 106 B 1 (.func (.func 101) #[] #[]), .load 23 B 0 (.slice (some ⟨b, off, none⟩) n cap), .test .sub 3 (.tmp 15) (.const (.int .i64 1)) (.int .i64 k) (.int .i64 1) (.int .i64 j), .ia 23 (.slice (some ⟨b, off, none⟩) n cap) (.int .i64 j) (.pointer (some ⟨b, off + j * 51, none⟩)), .load 43 b (off + j * 51) (.agg C), .load 106 B 1 (.func (.func 101) #[] #[]), .load 23 B 0 (.slice (some ⟨b, off, none⟩) n cap), .ia 23 (.slice (some ⟨b, off, none⟩) n cap) (.int .i64 k) (.pointer (some ⟨b, off + k * 51, none⟩)), .load 43 b (off + k * 51) (.agg C')]) (n := 3) (by kernel_rfl) (by kernel_rfl) ⟨qhz (fun _ h => h.1) rfl isAgg106, qhz (fun _ h => h.1) rfl isAgg23, x4z hj hw, wDz hjn, wnz (fun _ h => h.2.1) underlying43 (by kernel_rfl) (qez hz), qhz (fun _ h => h.1) rfl isAgg106, qhz (fun _ h => h.1) rfl isAgg23, wDz hkn, wnz (fun _ h => h.2.2) underlying43 (by kernel_rfl) (qez hz'), trivial⟩ ?_
    refine qnz (i := 8) (fuel := 2) (f := 101) (vs := [.agg C]) (d := some 19) (by kernel_rfl) (by kernel_rfl) (by kernel_rfl) call101 (whz hC0) ?_
    rintro e W2 ⟨rfl, hk2⟩
    have hS2 : Blk W2 B #[.slice (some ⟨b, off, none⟩) n cap, .func (.func 101) #[] #[]] 108 ∧ W2.rangeAt b (off + j * 51) C.toList ∧ W2.rangeAt b (off + k * 51) C'.toList := ⟨hS.1.next hk2, qmz hS.2.1 (hk2.block b hbb1), qmz hS.2.2 (hk2.block b hbb1)⟩
    refine ⟨_, rfl, hS2, ?_⟩
    have hb2 := hb1.trans (hk2.mono (by have := hb1.size; have := hBh.out; omega))
    refine qnz (i := 16) (fuel := 1) (f := 101) (vs := [.agg C']) (d := some 27) (by kernel_rfl) (by kernel_rfl) (by kernel_rfl) call101 (whz (hC0'.next hk2)) ?_
    rintro e W3 ⟨rfl, hk3⟩
    have hbb2 := ltz hbb1 hk2.size
    have hS3 : Blk W3 B #[.slice (some ⟨b, off, none⟩) n cap, .func (.func 101) #[] #[]] 108 ∧ W3.rangeAt b (off + j * 51) C.toList ∧ W3.rangeAt b (off + k * 51) C'.toList := ⟨hS2.1.next hk3, qmz hS2.2.1 (hk3.block b hbb2), qmz hS2.2.2 (hk3.block b hbb2)⟩
    refine ⟨_, rfl, hS3, ?_⟩
    have hb3 := hb2.trans (hk3.mono (by have := hb2.size; have := hBh.out; omega))
    refine qjz (by kernel_rfl) (fun _ _ _ _ _ h => h) hS3 [(17, some (.bool false))] (l' := #[tt, tt, tt, tt, tt, tt, tt, tt, tt, tt, tt, tt, tt, tt, tt, tt, tt, tt]) (a' := { tmps := #[.agg #[.slice (some ⟨b, off, none⟩) n cap, .func (.func 101) #[] #[]], .pointer (some ⟨B, 0, none⟩), u2, .int .i64 k, .int .i64 k, .pointer (some ⟨B, 0, none⟩), .slice (some ⟨b, off, none⟩) n cap, .int .i64 n, .bool true, u9, u10, .pointer (some ⟨B, 1, none⟩), .func (.func 101) #[] #[], .pointer (some ⟨B, 0, none⟩), .slice (some ⟨b, off, none⟩) n cap, .int .i64 k, .int .i64 j, .pointer (some ⟨b, off + j * 51, none⟩), .agg C, .int .u64 (oat X j).id, .pointer (some ⟨B, 1, none⟩), .func (.func 101) #[] #[], .pointer (some ⟨B, 0, none⟩), .slice (some ⟨b, off, none⟩) n cap, .int .i64 k, .pointer (some ⟨b, off + k * 51, none⟩), .agg C', .int .u64 (oat X k).id, .bool false], defers := [] }) (obs := [.test .geq 22 (.tmp 19) (.tmp 27) (.int .u64 (oat X j).id) (.int .u64 (oat X k).id) (.bool false)]) (n := 0) (by kernel_rfl) (by kernel_rfl) ⟨qVz (fun _ => wuz _ _ _ _ _ _) (by refine (?_ : ¬ (oat X k).id ≤ (oat X j).id); have := hd.out; omega), trivial⟩ ?_
    refine wpAnyH_done (by kernel_rfl) ?_ _
    have hbk3 := hS3.1
    clear hS hS2 hS3 hC0 hC0' hb1 hb2 hbb1 hbb2 hk2 hk3
    go_wp2
    go_roundw
    case rel => exact ⟨k + 1, by omega, .inl (by omega), by go_num, hal2, hbk3, hb3⟩
    case measure => simp [intOf]; omega
   ·have hq : Hid (¬ idsB X = true) := by
     refine (?_ : ¬ idsB X = true)
     intro e
     have := jBz.1 e j (by rw [hn.out, ← hj.out]; exact hkn)
     rw [← hj.out] at this
     exact hxy this
    have hd : Hid ((oat X k).id ≤ (oat X j).id) := by show _ ≤ _; omega
    go_wp2
    refine PgM.region_out (S := fun W => Blk W B #[.slice (some ⟨b, off, none⟩) n cap, .func (.func 101) #[] #[]] 108 ∧ W.rangeAt b (off + j * 51) C.toList ∧ W.rangeAt b (off + k * 51) C'.toList) hmx ⟨hbk.next (brz _ _).drew, qmz hr ((brz _ wr).drew.block b hbb), qmz hr' ((brz _ wr).drew.block b hbb)⟩ (fun hS => ?_)
    have hkd := (brz wr.heap.size wr).drew
    have hC0 := hC.next hkd
    have hC0' := hC'.next hkd
    have hb1 := hb.trans (hkd.mono hbs)
    have hbb1 : b < wr.drew.heap.size := ltz hbb hkd.size
    generalize wr.drew = W1 at hS hC0 hC0' hb1 hbb1 ⊢
    clear hkd
    refine qvz (by kernel_rfl) (fun _ _ _ _ _ h => h) hS [(0, none), (1, some (.func (.func 101) #[] #[])), (2, none), (3, some (.slice (some ⟨b, off, none⟩) n cap)), (4, none), (5, some (.int .i64 j)), (6, some (.pointer (some ⟨b, off + j * 51, none⟩))), (7, some (.agg C)), (9, none), (10, some (.func (.func 101) #[] #[])), (11, none), (12, some (.slice (some ⟨b, off, none⟩) n cap)), (13, none), (14, some (.pointer (some ⟨b, off + k * 51, none⟩))), (15, some (.agg C'))] (obs := [.load 106 B 1 (.func (.func 101) #[] #[]), .load 23 B 0 (.slice (some ⟨b, off, none⟩) n cap), .test .sub 3 (.tmp 15) (.const (.int .i64 1)) (.int .i64 k) (.int .i64 1) (.int .i64 j), .ia 23 (.slice (some ⟨b, off, none⟩) n cap) (.int .i64 j) (.pointer (some ⟨b, off + j * 51, none⟩)), .load 43 b (off + j * 51) (.agg C), .load 106 B 1 (.func (.func 101) #[] #[]), .load 23 B 0 (.slice (some ⟨b, off, none⟩) n cap), .ia 23 (.slice (some ⟨b, off, none⟩) n cap) (.int .i64 k) (.pointer (some ⟨b, off + k * 51, none⟩)), .load 43 b (off + k * 51) (.agg C')]) (n := 3) (by kernel_rfl) (by kernel_rfl) ⟨qhz (fun _ h => h.1) rfl isAgg106, qhz (fun _ h => h.1) rfl isAgg23, x4z hj hw, wDz hjn, wnz (fun _ h => h.2.1) underlying43 (by kernel_rfl) (qez hz), qhz (fun _ h => h.1) rfl isAgg106, qhz (fun _ h => h.1) rfl isAgg23, wDz hkn, wnz (fun _ h => h.2.2) underlying43 (by kernel_rfl) (qez hz'), trivial⟩ ?_
    refine qnz (i := 8) (fuel := 2) (f := 101) (vs := [.agg C]) (d := some 19) (by kernel_rfl) (by kernel_rfl) (by kernel_rfl) call101 (whz hC0) ?_
    rintro e W2 ⟨rfl, hk2⟩
    have hS2 : Blk W2 B #[.slice (some ⟨b, off, none⟩) n cap, .func (.func 101) #[] #[]] 108 ∧ W2.rangeAt b (off + j * 51) C.toList ∧ W2.rangeAt b (off + k * 51) C'.toList := ⟨hS.1.next hk2, qmz hS.2.1 (hk2.block b hbb1), qmz hS.2.2 (hk2.block b hbb1)⟩
    refine ⟨_, rfl, hS2, ?_⟩
    have hb2 := hb1.trans (hk2.mono (by have := hb1.size; have := hBh.out; omega))
    refine qnz (i := 16) (fuel := 1) (f := 101) (vs := [.agg C']) (d := some 27) (by kernel_rfl) (by kernel_rfl) (by kernel_rfl) call101 (whz (hC0'.next hk2)) ?_
    rintro e W3 ⟨rfl, hk3⟩
    have hbb2 := ltz hbb1 hk2.size
    have hS3 : Blk W3 B #[.slice (some ⟨b, off, none⟩) n cap, .func (.func 101) #[] #[]] 108 ∧ W3.rangeAt b (off + j * 51) C.toList ∧ W3.rangeAt b (off + k * 51) C'.toList := ⟨hS2.1.next hk3, qmz hS2.2.1 (hk3.block b hbb2), qmz hS2.2.2 (hk3.block b hbb2)⟩
    refine ⟨_, rfl, hS3, ?_⟩
    have hb3 := hb2.trans (hk3.mono (by have := hb2.size; have := hBh.out; omega))
    refine qjz (by kernel_rfl) (fun _ _ _ _ _ h => h) hS3 [(17, some (.bool true))] (l' := #[tt, tt, tt, tt, tt, tt, tt, tt, tt, tt, tt, tt, tt, tt, tt, tt, tt, tt]) (a' := { tmps := #[.agg #[.slice (some ⟨b, off, none⟩) n cap, .func (.func 101) #[] #[]], .pointer (some ⟨B, 0, none⟩), u2, .int .i64 k, .int .i64 k, .pointer (some ⟨B, 0, none⟩), .slice (some ⟨b, off, none⟩) n cap, .int .i64 n, .bool true, u9, u10, .pointer (some ⟨B, 1, none⟩), .func (.func 101) #[] #[], .pointer (some ⟨B, 0, none⟩), .slice (some ⟨b, off, none⟩) n cap, .int .i64 k, .int .i64 j, .pointer (some ⟨b, off + j * 51, none⟩), .agg C, .int .u64 (oat X j).id, .pointer (some ⟨B, 1, none⟩), .func (.func 101) #[] #[], .pointer (some ⟨B, 0, none⟩), .slice (some ⟨b, off, none⟩) n cap, .int .i64 k, .pointer (some ⟨b, off + k * 51, none⟩), .agg C', .int .u64 (oat X k).id, .bool true], defers := [] }) (obs := [.test .geq 22 (.tmp 19) (.tmp 27) (.int .u64 (oat X j).id) (.int .u64 (oat X k).id) (.bool true)]) (n := 0) (by kernel_rfl) (by kernel_rfl) ⟨qEz (fun _ => wuz _ _ _ _ _ _) hd, trivial⟩ ?_
    refine wpAnyH_done (by kernel_rfl) ?_ _
    have hbk3 := hS3.1
    clear hS hS2 hS3 hC0 hC0' hb1 hb2 hbb1 hbb2 hk2 hk3
    go_wp2
    go_ret
    exact qkz hq (by rw [hBh.out]; exact hb3) id
  ·have hkn' : ¬ (k : Int) < n := by omega
   go_wp2
   go_ret
   exact qrz (jBz.2 fun i hi => hal.out i (by rw [hn.out] at hi; omega)) (by rw [hBh.out]; exact hb)
theorem xfz {G : Array Value} (c3 : G[3]? = some (.slice ao n cap)) : Calls prog 70 #[.agg G] w fun e w' => e = .returned (.agg #[.slice ao n cap, .func (.func 101) #[] #[]]) ∧ Below w.heap.size w w' := by
 go_enter func70, ntmps70
 go_wp2_with (first
  | (with_reducible refine qcz rfl _ _ rfl G rfl ?_; intro B W hB hb hk; have q6 := fun o => cellLater ((hb.cell 3).trans c3) o))
 refine bodyPost_ret (v := .agg #[.slice ao n cap, .func (.func 101) #[] #[]]) (by simp [results, Tryz.f70, go_sem]) rfl ?_
 exact ⟨rfl, hk.alloc hk.size _⟩
theorem woz {t ke ro : Int} : fitW ⟨t, ke, ro, X⟩ = true ↔ 0 ≤ t ∧ t ≤ 1099511627776 ∧ X.length ≤ 1024 ∧ idsB X = true ∧ ∀ i, i < X.length → qUz (oat X i) = true := by
 unfold fitW
 simp only [Bool.and_eq_true, decide_eq_true_iff, List.all_eq_true]
 refine ⟨fun h => ⟨h.1, h.2.1, h.2.2.1, h.2.2.2.1, fun i hi => h.2.2.2.2 _ (wbz hi)⟩, fun h => ⟨h.1, h.2.1, h.2.2.1, h.2.2.2.1, fun x hx => ?_⟩⟩
 obtain ⟨i, hi, rfl⟩ := List.getElem_of_mem hx
 have := h.2.2.2.2 i hi
 rw [qKz hi] at this
 exact this
theorem fit_w {t ke ro : Int} (h : Obs w ao n cap X) : Asks 57 #[.agg #[.int .i64 t, .int .u64 ke, .int .u64 ro, .slice ao n cap]] (fitW ⟨t, ke, ro, X⟩ = true) w := by
 have hn : Hid (X.length = n) := h.1
 have ga1 := isAgg22
 have ga2 := isAgg3
 have ga3 := isAgg23
 have c0 : (#[.int .i64 t, .int .u64 ke, .int .u64 ro, .slice ao n cap] : Array Value)[0]? = some (.int .i64 t) := rfl
 have c3 : (#[.int .i64 t, .int .u64 ke, .int .u64 ro, .slice ao n cap] : Array Value)[3]? = some (.slice ao n cap) := rfl
 have hz : (prog.info? 25).map (·.size) = some (#[.int .i64 t, .int .u64 ke, .int .u64 ro, .slice ao n cap] : Array Value).size := by kernel_rfl
 obtain ⟨G, hG⟩ : ∃ G : Array Value, G = #[.int .i64 t, .int .u64 ke, .int .u64 ro, .slice ao n cap] := ⟨_, rfl⟩
 rw [← hG] at c0 c3 hz
 rw [← hG]
 clear hG
 unfold Asks
 go_enter func57, ntmps57
 go_wp2_with (first
  | go_skip
  | (with_reducible refine qcz rfl _ _ rfl G rfl ?_; intro B W hB hb hk)
  | (with_reducible refine qaz (by kernel_rfl) _ _ rfl B _ rfl _ _ hb _ (by assumption) (by assumption) ?_)
  | (with_reducible refine qdz (by kernel_rfl) 25 _ rfl B rfl G hb _ underlying25 (by kernel_rfl) hz ?_)
  | ((with_reducible refine qgz (by kernel_rfl) .geq _ _ _ _ rfl _ _ rfl rfl (wuz _ _ _ _ _ _) ?_ ?_) <;> intro hq)
  | ((with_reducible refine qgz (by kernel_rfl) .leq _ _ _ _ rfl _ _ rfl rfl (wfz _ _ _ _ _ _) ?_ ?_) <;> intro hq)
  | (go_at_call 70; (with_reducible refine (xfz c3).mono ?_); rintro e w1 ⟨rfl, hb1⟩; replace hb := hb.next hb1; replace hk := btz hk hb1)
  | (go_at_call 87; (with_reducible refine (y2z (qqz h hk)).on ?_ ?_) <;> (intro w2 hq hb2; replace hb := hb.next hb2; replace hk := btz hk hb2))
  | (go_at_call 88; (with_reducible refine (ujz (qqz h hk)).on ?_ ?_) <;> (intro w3 hq hb3; replace hk := btz hk hb3)))
 all_goals go_ret
 all_goals first
  | (have a1 : 0 ≤ t := Hid.out (by assumption); have a2 : t ≤ 1099511627776 := Hid.out (by assumption); have a3 : (n : Int) ≤ 1024 := Hid.out (by assumption); have a4 : idsB X = true := Hid.out (by assumption); have a5 : ∀ i, i < X.length → qUz (oat X i) = true := Hid.out (by assumption); exact qrz (woz.2 ⟨a1, a2, by rw [hn.out]; omega, a4, a5⟩) hk)
  | (have hl : t < 0 := Hid.out (by assumption); refine ⟨false, rfl, ⟨fun e => absurd e Bool.false_ne_true, fun e => ?_⟩, hk⟩; exfalso; have := (woz.1 e).1; omega)
  | (have hl : 1099511627776 < t := Hid.out (by assumption); refine ⟨false, rfl, ⟨fun e => absurd e Bool.false_ne_true, fun e => ?_⟩, hk⟩; exfalso; have := (woz.1 e).2.1; omega)
  | (have hl : 1024 < (n : Int) := Hid.out (by assumption); refine ⟨false, rfl, ⟨fun e => absurd e Bool.false_ne_true, fun e => ?_⟩, hk⟩; exfalso; have := (woz.1 e).2.2.1; rw [hn.out] at this; omega)
  | (have hl : ¬ idsB X = true := Hid.out (by assumption); refine ⟨false, rfl, ⟨fun e => absurd e Bool.false_ne_true, fun e => ?_⟩, hk⟩; exact absurd (woz.1 e).2.2.2.1 hl)
  | (have hl : ¬ ∀ i, i < X.length → qUz (oat X i) = true := Hid.out (by assumption); refine ⟨false, rfl, ⟨fun e => absurd e Bool.false_ne_true, fun e => ?_⟩, hk⟩; exact absurd (woz.1 e).2.2.2.2 hl)
  | fail
end
section
def puR (l : List Ob) (o : Ob) : List Ob := lowL l o.id ++ o :: higL l o.id
variable {l : List Ob} {i : Int} {x : Ob}
theorem xXz : x ∈ lowL l i ↔ x ∈ l ∧ x.id < i := by unfold lowL; simp
theorem kDz : x ∈ higL l i ↔ x ∈ l ∧ i < x.id := by unfold higL; simp
theorem ghz {o x : Ob} : x ∈ puR l o ↔ x = o ∨ (x ∈ l ∧ x.id ≠ o.id) := by
 unfold puR
 rw [List.mem_append, List.mem_cons, xXz, kDz]
 constructor
 ·rintro (⟨h, k⟩ | h | ⟨h, k⟩)
  ·exact .inr ⟨h, by omega⟩
  ·exact .inl h
  ·exact .inr ⟨h, by omega⟩
 ·rintro (h | ⟨h, k⟩)
  ·exact .inr (.inl h)
  ·rcases Int.lt_or_gt_of_ne k with q | q
   ·exact .inl ⟨h, q⟩
   ·exact .inr (.inr ⟨h, q⟩)
theorem mem_drp : x ∈ drpL l i ↔ x ∈ l ∧ x.id ≠ i := by
 unfold drpL
 rw [List.mem_append, xXz, kDz]
 constructor
 ·rintro (⟨h, k⟩ | ⟨h, k⟩) <;> exact ⟨h, by omega⟩
 ·rintro ⟨h, k⟩
  rcases Int.lt_or_gt_of_ne k with q | q
  ·exact .inl ⟨h, q⟩
  ·exact .inr ⟨h, q⟩
theorem uCz (h : Srt l) (i : Int) : Srt (lowL l i) := h.filter _
theorem uDz (h : Srt l) (i : Int) : Srt (higL l i) := h.filter _
theorem vFz (h : Srt l) (o : Ob) : Srt (puR l o) := by
 unfold puR Srt
 rw [List.pairwise_append, List.pairwise_cons]
 refine ⟨uCz h _, ⟨fun x hx => (kDz.1 hx).2, uDz h _⟩, fun x hx y hy => ?_⟩
 have hx' := (xXz.1 hx).2
 rcases List.mem_cons.1 hy with rfl | hy
 ·exact hx'
 ·have := (kDz.1 hy).2; omega
theorem srt_drp (h : Srt l) (i : Int) : Srt (drpL l i) := by
 unfold drpL Srt
 rw [List.pairwise_append]
 refine ⟨uCz h _, uDz h _, fun x hx y hy => ?_⟩
 have hx' := (xXz.1 hx).2
 have := (kDz.1 hy).2; omega
theorem srt_uniq (h : Srt l) {x y : Ob} (hx : x ∈ l) (hy : y ∈ l) (e : x.id = y.id) : x = y := by
 induction l with
 | nil => cases hx
 | cons z r ih =>
  obtain ⟨h1, h2⟩ := List.pairwise_cons.1 h
  rcases List.mem_cons.1 hx with rfl | hx
  ·rcases List.mem_cons.1 hy with rfl | hy
   ·rfl
   ·have := h1 y hy; omega
  ·rcases List.mem_cons.1 hy with q | hy
   ·have := h1 x hx; rw [q] at e; omega
   ·exact ih h2 hx hy
theorem uEz {l m : List Ob} (h : Srt l) (k : Srt m) (e : ∀ x, x ∈ l ↔ x ∈ m) : l = m := by
 induction l generalizing m with
 | nil =>
  cases m with
  | nil => rfl
  | cons y r => exact absurd ((e y).2 (List.mem_cons_self ..)) (by simp)
 | cons x r ih =>
  cases m with
  | nil => exact absurd ((e x).1 (List.mem_cons_self ..)) (by simp)
  | cons y s =>
   obtain ⟨h1, h2⟩ := List.pairwise_cons.1 h
   obtain ⟨k1, k2⟩ := List.pairwise_cons.1 k
   have hxy : x = y := by
    rcases List.mem_cons.1 ((e x).1 (List.mem_cons_self ..)) with q | q
    ·exact q
    ·rcases List.mem_cons.1 ((e y).2 (List.mem_cons_self ..)) with p | p
     ·exact p.symm
     ·have := k1 x q; have := h1 y p; omega
   subst hxy
   congr 1
   refine ih h2 k2 fun z => ⟨fun hz => ?_, fun hz => ?_⟩
   ·rcases List.mem_cons.1 ((e z).1 (List.mem_cons_of_mem _ hz)) with q | q
    ·have := h1 z hz; rw [q] at this; omega
    ·exact q
   ·rcases List.mem_cons.1 ((e z).2 (List.mem_cons_of_mem _ hz)) with q | q
    ·have := k1 z hz; rw [q] at this; omega
    ·exact q
theorem kkz (h : Srt l) : fnd l i = some x ↔ x ∈ l ∧ x.id = i := by
 unfold fnd
 constructor
 ·intro e
  have h1 := List.mem_of_find?_eq_some e
  have h2 := List.find?_some e
  exact ⟨h1, by simpa using h2⟩
 ·rintro ⟨hx, e⟩
  cases hf : l.find? fun x => decide (x.id = i) with
  | none =>
   have := List.find?_eq_none.1 hf x hx
   simp [e] at this
  | some y =>
   have h1 := List.mem_of_find?_eq_some hf
   have h2 : y.id = i := by have := List.find?_some hf; simpa using this
   rw [srt_uniq h hx h1 (by rw [e, h2])]
theorem klz : fnd l i = none ↔ ∀ x ∈ l, x.id ≠ i := by
 unfold fnd; rw [List.find?_eq_none]; simp
theorem drp_none (h : Srt l) (e : fnd l i = none) : drpL l i = l := by
 refine uEz (srt_drp h i) h fun y => ?_
 rw [mem_drp]
 exact ⟨fun q => q.1, fun q => ⟨q, klz.1 e y q⟩⟩
theorem goz (l : List Ob) (i : Int) : (lowL l i).length + (higL l i).length ≤ l.length := by
 unfold lowL higL
 induction l with
 | nil => simp
 | cons x r ih =>
  simp only [List.filter_cons, List.length_cons]
  by_cases h1 : x.id < i
  ·rw [if_pos (by simpa using h1), if_neg (by simp; omega)]; simp only [List.length_cons]; omega
  ·by_cases h2 : i < x.id
   ·rw [if_neg (by simpa using h1), if_pos (by simpa using h2)]; simp only [List.length_cons]; omega
   ·rw [if_neg (by simpa using h1), if_neg (by simpa using h2)]; omega
theorem vRz (l : List Ob) (o : Ob) : (puR l o).length ≤ l.length + 1 := by
 have := goz l o.id
 unfold puR; simp only [List.length_append, List.length_cons]; omega
theorem jfz (l : List Ob) (i : Int) : ahd l i ≤ l.length := by unfold ahd lowL; exact List.length_filter_le ..
theorem khz (h : Srt l) (i : Int) : lowL l i = l.take (ahd l i) := by
 unfold ahd lowL
 induction l with
 | nil => rfl
 | cons x r ih =>
  obtain ⟨h1, h2⟩ := List.pairwise_cons.1 h
  by_cases hx : x.id < i
  ·rw [List.filter_cons_of_pos (by simpa using hx)]
   rw [List.length_cons, List.take_succ_cons, ← ih h2]
  ·have : r.filter (fun x => decide (x.id < i)) = [] := by
    rw [List.filter_eq_nil_iff]
    intro y hy
    have := h1 y hy
    simp; omega
   rw [List.filter_cons_of_neg (by simpa using hx), this]; rfl
theorem ahd_of {k : Nat} (hk : k ≤ l.length) (h1 : ∀ j, j < k → (oat l j).id < i) (h2 : ∀ j, k ≤ j → j < l.length → i ≤ (oat l j).id) : ahd l i = k := by
 have e1 : lowL (l.take k) i = l.take k := by
  unfold lowL
  rw [List.filter_eq_self]
  intro x hx
  obtain ⟨j, hj, rfl⟩ := List.getElem_of_mem hx
  have hj' : j < k := by simp at hj; omega
  have := h1 j hj'
  rw [qKz (by simp at hj; omega)] at this
  simpa using this
 have e2 : lowL (l.drop k) i = [] := by
  unfold lowL
  rw [List.filter_eq_nil_iff]
  intro x hx
  obtain ⟨j, hj, rfl⟩ := List.getElem_of_mem hx
  have := h2 (k + j) (by omega) (by simp at hj; omega)
  rw [qKz (by simp at hj; omega)] at this
  simpa using this
 have e : lowL l i = l.take k := by
  conv => lhs; rw [← List.take_append_drop k l]
  unfold lowL at e1 e2 ⊢
  rw [List.filter_append, e1, e2, List.append_nil]
 unfold ahd
 rw [e]; simp [hk]
theorem ahd_lt (h : Srt l) {j : Nat} (hj : j < ahd l i) : (oat l j).id < i := by
 have hl := jfz l i
 have hm : oat l j ∈ lowL l i := by
  rw [khz h, qKz (by omega)]
  exact List.mem_take_iff_getElem.2 ⟨j, by omega, rfl⟩
 exact (xXz.1 hm).2
theorem gXz (h : Srt l) {j : Nat} (hj : ahd l i ≤ j) (hl : j < l.length) : i ≤ (oat l j).id := by
 rcases Int.lt_or_le (oat l j).id i with q | q
 ·exfalso
  have hm : oat l j ∈ lowL l i := xXz.2 ⟨wbz hl, q⟩
  rw [khz h] at hm
  obtain ⟨k, hk, e⟩ := List.getElem_of_mem hm
  have hk' : k < ahd l i ∧ k < l.length := by simp at hk; omega
  rw [List.getElem_take, qKz hl] at e
  have hs := List.pairwise_iff_getElem.1 h k j (by omega) hl (by omega)
  rw [e] at hs
  omega
 ·exact q
def fin (l : List Ob) (i : Int) : Nat := if (fnd l i).isSome then ahd l i + 1 else ahd l i
theorem voz (h : Srt l) (hl : ahd l i < l.length) (e : (oat l (ahd l i)).id = i) : fnd l i = some (oat l (ahd l i)) := (kkz h).2 ⟨wbz hl, e⟩
theorem w5z (h : Srt l) (k : ¬ (ahd l i < l.length ∧ (oat l (ahd l i)).id = i)) : fnd l i = none := by
 rw [klz]
 intro x hx e
 obtain ⟨j, hj, rfl⟩ := List.getElem_of_mem hx
 rw [← qKz hj] at e
 have h1 : ahd l i ≤ j := by
  rcases Nat.lt_or_ge j (ahd l i) with q | q
  ·have := ahd_lt h q; omega
  ·exact q
 have hlt : ahd l i < l.length := by omega
 rcases Nat.lt_or_ge (ahd l i) j with q | q
 ·have hs := List.pairwise_iff_getElem.1 h _ j hlt hj q
  have := gXz h (lrz (ahd l i)) hlt
  rw [qKz hlt] at this
  rw [qKz hj] at e
  omega
 ·have : ahd l i = j := by omega
  exact k ⟨hlt, by rw [this]; exact e⟩
theorem fin_le (h : Srt l) (i : Int) : fin l i ≤ l.length := by
 unfold fin
 by_cases q : ahd l i < l.length ∧ (oat l (ahd l i)).id = i
 ·split <;> omega
 ·rw [w5z h q]; exact jfz l i
theorem yzz (h : Srt l) (i : Int) : higL l i = l.drop (fin l i) := by
 have key : higL l i = higL (l.drop (fin l i)) i := by
  conv => lhs; rw [← List.take_append_drop (fin l i) l]
  unfold higL
  rw [List.filter_append]
  have : (l.take (fin l i)).filter (fun x => decide (i < x.id)) = [] := by
   rw [List.filter_eq_nil_iff]
   intro x hx
   obtain ⟨j, hj, rfl⟩ := List.getElem_of_mem hx
   have hj' : j < fin l i ∧ j < l.length := by simp at hj; omega
   rw [List.getElem_take, ← qKz hj'.2]
   rcases Nat.lt_or_ge j (ahd l i) with q | q
   ·have := ahd_lt h q; simp; omega
   ·unfold fin at hj'
    by_cases q2 : ahd l i < l.length ∧ (oat l (ahd l i)).id = i
    ·rw [voz h q2.1 q2.2] at hj'
     have : j = ahd l i := by simp at hj'; omega
     rw [this, q2.2]; simp
    ·rw [w5z h q2] at hj'; simp at hj'; omega
  rw [this, List.nil_append]
 rw [key]
 unfold higL
 rw [List.filter_eq_self]
 intro x hx
 obtain ⟨j, hj, rfl⟩ := List.getElem_of_mem hx
 rw [List.getElem_drop, ← qKz (by simp at hj; omega)]
 have hl : fin l i + j < l.length := by simp at hj; omega
 have hf : ahd l i ≤ fin l i := by unfold fin; split <;> omega
 have := gXz h (i := i) (j := fin l i + j) (by omega) hl
 simp only [decide_eq_true_iff]
 rcases Int.lt_or_eq_of_le this with q | q
 ·exact q
 ·exfalso
  have hs := (kkz h (i := i)).2 ⟨wbz hl, q.symm⟩
  have he : fin l i = ahd l i + 1 := by unfold fin; rw [hs]; rfl
  have hlt : ahd l i < fin l i + j := by omega
  have hp := List.pairwise_iff_getElem.1 h _ _ (by omega) hl hlt
  have h0 := gXz h (i := i) (lrz (ahd l i)) (by omega)
  rw [qKz (by omega)] at h0
  rw [qKz hl] at q
  omega
theorem u5z (h : Srt l) (o : Ob) : l.take (ahd l o.id) ++ [o] ++ l.drop (fin l o.id) = puR l o := by
 unfold puR; rw [khz h, yzz h]; simp
theorem u6z (h : Srt l) (i : Int) : l.take (ahd l i) ++ [] ++ l.drop (fin l i) = drpL l i := by
 unfold drpL; rw [khz h, yzz h]; simp
end
section
open Go.RowKit Go.Shelf
attribute [local go_sem] Oper.semAt_some
def RowO (D : Nat → Prop) (w : World) : List Ob → List Value → Prop
 | [], cs => cs = []
 | x :: l, cs => ∃ (C : Array Value) (r : List Value), cs = C.toList ++ r ∧ ObD D w C x ∧ RowO D w l r
section
variable {E E' D D' : Nat → Prop} {w w' : World} {ao : Option Addr} {n cap : Nat} {l m : List Ob} {cs ds : List Value}
theorem RowO.len : ∀ {l : List Ob} {cs : List Value}, RowO D w l cs → cs.length = l.length * 51
 | [], cs, h => by cases h; rfl
 | x :: l, cs, ⟨C, r, e, hC, hr⟩ => by
  have := RowO.len hr
  rw [e, List.length_append, this, Array.length_toList, hC.size, List.length_cons]; omega
theorem RowO.one : ∀ {l : List Ob} {cs : List Value}, RowO D w l cs → ∀ u ∈ cs, u.oneCell' = true
 | [], cs, h, u, hu => by cases h; cases hu
 | x :: l, cs, ⟨C, r, e, hC, hr⟩, u, hu => by
  rw [e, List.mem_append] at hu
  rcases hu with q | q
  ·have := hC.one
   rw [Array.all_eq_true_iff_forall_mem] at this
   exact this u (Array.mem_toList_iff.1 q)
  ·exact RowO.one hr u q
theorem RowO.app : ∀ {l : List Ob} {cs : List Value}, RowO D w l cs → RowO D w m ds → RowO D w (l ++ m) (cs ++ ds)
 | [], cs, h, k => by cases h; exact k
 | x :: l, cs, ⟨C, r, e, hC, hr⟩, k => ⟨C, r ++ ds, by rw [e, List.append_assoc], hC, RowO.app hr k⟩
theorem RowO.laterK : ∀ {l : List Ob} {cs : List Value}, RowO D w l cs → (∀ b, D b → w'.heap[b]? = w.heap[b]?) → RowO D w' l cs
 | [], cs, h, k => h
 | x :: l, cs, ⟨C, r, e, hC, hr⟩, k => ⟨C, r, e, hC.laterK k, RowO.laterK hr k⟩
theorem RowO.wide : ∀ {l : List Ob} {cs : List Value}, RowO D w l cs → (∀ b, D b → D' b) → RowO D' w l cs
 | [], cs, h, k => h
 | x :: l, cs, ⟨C, r, e, hC, hr⟩, k => ⟨C, r, e, hC.wide k, RowO.wide hr k⟩
theorem RowO.at : ∀ {l : List Ob} {cs : List Value}, RowO D w l cs → ∀ i, i < l.length → ∃ C, ObD D w C (oat l i) ∧ ∀ j v, C[j]? = some v → cs[i * 51 + j]? = some v
 | [], cs, h, i, hi => absurd hi (by simp)
 | x :: l, cs, ⟨C, r, e, hC, hr⟩, 0, hi => ⟨C, hC, fun j v hv => by
   have hj : j < C.size := (Array.getElem?_eq_some_iff.1 hv).1
   rw [e, Nat.zero_mul, Nat.zero_add, List.getElem?_append_left (by simpa using hj)]
   simpa using hv⟩
 | x :: l, cs, ⟨C, r, e, hC, hr⟩, i + 1, hi => by
  obtain ⟨C', h1, h2⟩ := RowO.at hr i (by simpa using hi)
  refine ⟨C', h1, fun j v hv => ?_⟩
  have hz := hC.size
  rw [e, List.getElem?_append_right (by simp; omega)]
  rw [show (i + 1) * 51 + j - C.toList.length = i * 51 + j by simp; omega]
  exact h2 j v hv
theorem RowO.single {C : Array Value} {x : Ob} (h : ObD D w C x) : RowO D w [x] C.toList := ⟨C, [], by simp, h, rfl⟩
theorem u1z {b o : Nat} {xs ys : List Value} (h : w.rangeAt b o xs) (k : w.rangeAt b (o + xs.length) ys) : w.rangeAt b o (xs ++ ys) := fun j v hv => by
 rcases Nat.lt_or_ge j xs.length with q | q
 ·rw [List.getElem?_append_left q] at hv; exact h j v hv
 ·rw [List.getElem?_append_right q] at hv
  have := k _ v hv
  rwa [show o + xs.length + (j - xs.length) = o + j by omega] at this
theorem x7z {b : Nat} : ∀ (l : List Ob) (off : Nat), (∀ i, i < l.length → ∃ C, ObD D w C (oat l i) ∧ w.rangeAt b (off + i * 51) C.toList) → ∃ cs, RowO D w l cs ∧ w.rangeAt b off cs
 | [], off, _ => ⟨[], rfl, fun j v hv => by simp at hv⟩
 | x :: l, off, h => by
  obtain ⟨C, hC, hr⟩ := h 0 (by simp)
  obtain ⟨cs, h1, h2⟩ := x7z l (off + 51) (fun i hi => by
   obtain ⟨C', a, b⟩ := h (i + 1) (by simpa using hi)
   exact ⟨C', a, by rwa [show off + 51 + i * 51 = off + (i + 1) * 51 by omega]⟩)
  have hz := hC.size
  refine ⟨C.toList ++ cs, ⟨C, cs, rfl, hC, h1⟩, u1z (by simpa using hr) ?_⟩
  rw [Array.length_toList, hz]; exact h2
theorem ObsD.rows (h : ObsD E D w ao n cap l) : ∃ cs, RowO D w l cs ∧ RowC 51 E w ao n cap cs := by
 obtain ⟨h1, h2, h3, h4⟩ := h
 rcases Nat.eq_zero_or_pos n with h0 | h0
 ·have hl : l = [] := List.eq_nil_of_length_eq_zero (by omega)
  subst hl
  exact ⟨[], rfl, by rw [h0]; rfl, h2, h3, fun hn => absurd hn (by omega)⟩
 ·obtain ⟨b, off, e, hb, hc⟩ := h4 h0
  obtain ⟨cs, k1, k2⟩ := x7z l off (fun i hi => hc i (by omega))
  exact ⟨cs, k1, by rw [k1.len, h1], h2, h3, fun _ => ⟨b, off, e, hb, k2⟩⟩
theorem RowC.obs (h : RowC 51 E w ao n cap cs) (k : RowO D w l cs) : ObsD E D w ao n cap l := by
 obtain ⟨h1, h2, h3, h4⟩ := h
 have hl : l.length = n := by have := k.len; omega
 refine ⟨hl, h2, h3, fun hn => ?_⟩
 obtain ⟨b, off, e, hb, hr⟩ := h4 hn
 refine ⟨b, off, e, hb, fun i hi => ?_⟩
 obtain ⟨C, c1, c2⟩ := k.at i (by omega)
 refine ⟨C, c1, fun j v hv => ?_⟩
 have := hr _ v (c2 j v (by simpa using hv))
 rwa [show off + (i * 51 + j) = off + i * 51 + j by omega] at this
theorem oat_take {i k : Nat} (h : i < k) : oat (l.take k) i = oat l i := by
 unfold oat; rw [List.getD_eq_getElem?_getD, List.getD_eq_getElem?_getD, List.getElem?_take, if_pos h]
theorem oat_drop {i k : Nat} : oat (l.drop k) i = oat l (k + i) := by
 unfold oat; rw [List.getD_eq_getElem?_getD, List.getD_eq_getElem?_getD, List.getElem?_drop]
theorem ObsD.to {k : Nat} (h : ObsD E D w ao n cap l) (hk : k ≤ n) : ObsD E D w ao k cap (l.take k) := by
 obtain ⟨h1, h2, h3, h4⟩ := h
 refine ⟨by rw [List.length_take]; omega, by omega, h3, fun hn => ?_⟩
 obtain ⟨b, off, e, hb, hc⟩ := h4 (by omega)
 refine ⟨b, off, e, hb, fun i hi => ?_⟩
 rw [oat_take hi]
 exact hc i (by omega)
theorem j1z {k : Nat} (hk : k ≤ n) (hn : n ≤ cap) (W : World) : (Instr.sliceAt 23 (.slice ao n cap) none (some (.int .i64 (k : Int))) none).run prog W = .ok (.slice ao k cap) W := by
 have h2 : k ≤ cap := by omega
 unfold Instr.sliceAt Instr.slice Instr.sliceBounds
 simp [go_sem, run_underlying underlying23, Result.andThen, h2]
theorem vJz {k : Nat} (h : ObsD E D w ao n cap l) (hk : k ≤ n) : ∃ a', ObsD E D w a' (n - k) (cap - k) (l.drop k) ∧ (∀ W, (Instr.sliceAt 23 (.slice ao n cap) (some (.int .i64 (k : Int))) none none).run prog W = .ok (.slice a' (n - k) (cap - k)) W) := by
 cases ao with
 | none =>
  have h0 := h.2.2.1.2 rfl
  have hn := h.2.1
  obtain rfl : n = 0 := by omega
  obtain rfl : k = 0 := by omega
  subst h0
  refine ⟨none, by simpa using h, fun W => ?_⟩
  unfold Instr.sliceAt Instr.slice Instr.sliceBounds
  simp [go_sem, run_underlying underlying23, Result.andThen]
 | some a =>
  have hn := h.2.1
  by_cases hc : cap = k
  ·have hkn : k = n := by omega
   refine ⟨some a, ?_, fun W => ?_⟩
   ·obtain ⟨h1, h2, h3, h4⟩ := h
    exact ⟨by rw [List.length_drop]; omega, by omega, ⟨by omega, fun e => by cases e⟩, fun hz => by omega⟩
   ·subst hc
    unfold Instr.sliceAt Instr.slice Instr.sliceBounds
    simp [go_sem, run_underlying underlying23, Result.andThen, hk]
  ·refine ⟨some (a.add (k * 51)), ?_, fun W => ?_⟩
   ·obtain ⟨h1, h2, h3, h4⟩ := h
    refine ⟨by rw [List.length_drop]; omega, by omega, ⟨by omega, fun e => by cases e⟩, fun hz => ?_⟩
    obtain ⟨b, off, e, hb, hx⟩ := h4 (by omega)
    cases e
    refine ⟨b, off + k * 51, ?_, hb, fun i hi => ?_⟩
    ·unfold Addr.add
     split
     ·rename_i h0; rw [h0]; rfl
     ·rfl
    ·rw [oat_drop, show off + k * 51 + i * 51 = off + (k + i) * 51 by omega]
     exact hx _ (by omega)
   ·unfold Instr.sliceAt Instr.slice Instr.sliceBounds
    simp [go_sem, run_underlying underlying23, Result.andThen, hk, hc]
end
theorem jzz : (prog.info? 43).map (fun i => (i.zero, i.size, i.bytes)) = some (some (.agg zC), 51, 632) := by kernel_rfl
theorem run_bs1 {C : Array Value} (hz : C.size = 51) (w : World) : (Instr.buildSlice 23 1 #[(0, .agg C)]).run prog w = .ok (.slice (some ⟨w.heap.size, 0, none⟩) 1 1) (w.alloc (.cells C 43)) := by
 obtain ⟨i0, hi, hz0, hz1, hz2⟩ := info_parts jzz
 refine run_buildSlice w _ _ 1 _ C i0 _ underlying23 hi hz0 (by rw [hz1]; omega) (by rw [hz1]; omega) ?_
 rw [hz1]
 have := Great.fill_whole (s := 51) (by omega) [.agg C] ((Array.range (1 * 51)).map ((Value.agg zC).cells[· % (Value.agg zC).cells.size]!)) (by simp [Value.cells, hz]) (by simp)
 simpa [Value.cells] using this
variable {ao : Option Addr} {n cap : Nat}
theorem RowC.next {k : Nat} {w w' : World} {cs : List Value} (h : RowC k (LtN w) w ao n cap cs) (q : Below w.heap.size w w') : RowC k (LtN w') w' ao n cap cs := by
 obtain ⟨h1, h2, h3, h4⟩ := h
 refine ⟨h1, h2, h3, fun hn => ?_⟩
 obtain ⟨b, off, e, hb, hr⟩ := h4 hn
 exact ⟨b, off, e, ltz hb q.size, qmz hr (q.block b hb)⟩
variable {w : World}
theorem xuz {base : Nat} {e : TypeId} {k : Nat} {v : Value} {n : Nat} {xs : List Value} (h : w.ownsRow base e k v n xs) : ∀ j, v.ownBlock = some j → base ≤ j := by
 intro j hj
 rcases h.2 with ⟨rfl, _⟩ | ⟨g, c, cur, rfl, hb, _⟩
 ·cases hj
 ·cases hj; exact hb
def psum (f : Nat → Nat) : Nat → Nat
 | 0 => 0
 | i + 1 => psum f i + f i
def pcat (f : Nat → List Value) : Nat → List Value
 | 0 => []
 | i + 1 => pcat f i ++ f i
theorem xHz (f : Nat → Nat) {i j : Nat} (h : i ≤ j) : psum f i ≤ psum f j := by
 induction h with
 | refl => exact lrz _
 | step _ ih => exact Nat.le_trans ih (Nat.le_add_right _ _)
theorem grow_any {N : Nat} (hN : N < 4294967296) : Calls prog 129 #[.slice none 0 0, .int .i64 (N : Int)] w fun e w' => ∃ v, e = .returned v ∧ w'.ownsRow w.heap.size 43 51 v 0 [] ∧ Below w.heap.size w w' := by
 have h1 : ¬ ((N : Int) < 0) := by omega
 rcases Nat.eq_zero_or_pos N with h0 | h0
 ·subst h0
  go_enter func129, ntmps129
  go_wp2
  go_ret
  exact ⟨_, rfl, World.ownsRow_nil _ _ _ _, brz _ _⟩
 ·obtain ⟨i0, hi, hz0, hz1, hz2⟩ := info_parts jzz
  have hG := grownCap_ge w (0 + N) 0 43
  have hG63 := grownCap_le_maxLen w (0 + N) 0 43 (by unfold maxLen; omega)
  have hrz : ∀ ty, (Builtin.append_ #[23, 3] ty #[.slice none 0 0, .int .i64 (N : Int)]).run prog w = .ok (.slice (some ⟨w.heap.size, 0, none⟩) (0 + N) (grownCap w (0 + N) 0 43)) (w.drew.alloc (.cells (([] : List Value).toArray ++ Builtin.zeroCells (Value.agg zC).cells N ++ Builtin.zeroCells (Value.agg zC).cells (grownCap w (0 + N) 0 43 - (0 + N))) 43)) := fun ty =>
   Lib.run_append_grow_zeros w 23 3 ty 43 i0 (.agg zC) .i64 .i64 underlying23 underlying3 hi hz0 none 0 0 [] (run_firstCells_none w.drew i0.size 0 0 0) N h0 (by omega) (by omega) (by omega) (by rw [hz2]; omega) (by rw [hz2]; exact growslice_fits (by omega) (by omega))
  obtain ⟨G, hGe⟩ : ∃ G, G = grownCap w (0 + N) 0 43 := ⟨_, rfl⟩
  rw [← hGe] at hrz hG hG63
  obtain ⟨cur, hcur⟩ : ∃ cur, cur = (([] : List Value).toArray ++ Builtin.zeroCells (Value.agg zC).cells N ++ Builtin.zeroCells (Value.agg zC).cells (G - (0 + N))) := ⟨_, rfl⟩
  have hcs : cur.size = G * 51 := by
   rw [hcur]
   have hzz : (Value.agg zC).cells.size = 51 := qoz
   simp [Builtin.zeroCells, hzz]
   omega
  rw [← hcur] at hrz
  have hbl : (w.drew.alloc (.cells cur 43)).heap[w.heap.size]? = some (.cells cur 43 (0, 0)) := heap_alloc_new w.drew _
  have hbe : Below w.heap.size w (w.drew.alloc (.cells cur 43)) := ((brz w.heap.size w).drew).alloc (lrz _) _
  have hG63' : G ≤ 9223372036854775807 := by unfold maxLen at hG63; omega
  clear hGe hcur
  generalize w.drew.alloc (.cells cur 43) = W1 at hrz hbl hbe
  go_enter func129, ntmps129
  go_wp2_with (at_builtin; refine Lib.wpList_append_run _ rfl _ _ _ _ rfl _ _ rfl rfl _ _ (hrz _) ?_)
  go_ret
  refine ⟨_, rfl, ⟨rfl, .inr ⟨w.heap.size, G, cur, rfl, lrz _, hbl, Nat.zero_le _, hG63, hcs, ?_⟩⟩, hbe⟩
  simp
theorem umz {Bq m : Nat} {Cq : Array Value} {af : Nat → Option Addr} {nf cf : Nat → Nat} {sf : Nat → List Value} (hb : Blk w Bq Cq 23) (hc : ∀ i, i < m → Cq[i]? = some (.slice (af i) (nf i) (cf i))) (hr : ∀ i, i < m → RowC 51 (LtN w) w (af i) (nf i) (cf i) (sf i)) (h1 : ∀ i, i < m → ∀ u ∈ sf i, u.oneCell' = true) (hm : m < 4294967296) (hN : psum nf m < 4294967296) :
  Calls prog 103 #[.slice (some ⟨Bq, 0, none⟩) m m] w fun e w' => ∃ v, e = .returned v ∧ w'.ownsRow w.heap.size 43 51 v (psum nf m) (pcat sf m) ∧ Below w.heap.size w w' := by
 have ga3 := isAgg23
 go_enter func103, ntmps103
 go_wp2
 go_loopw [3, 11] (fun s i wr => ∃ k : Nat, k ≤ m ∧ i = .int .i64 k ∧ s = .int .i64 (psum nf k : Nat) ∧ Blk wr Bq Cq 23 ∧ Below w.heap.size w wr) (fun _ i _ => m - (intOf i).toNat)
 case atStart => exact ⟨0, Nat.zero_le _, rfl, rfl, hb, brz _ _⟩
 case round =>
  obtain ⟨k, hk, rfl, rfl, hbk, hbw⟩ := hrel
  by_cases hkm : k < m
  ·have hkm' : (k : Int) < m := by omega
   have hcell := (hbk.cell k).trans (hc k hkm)
   have hps : psum nf k + nf k < 4294967296 := Nat.lt_of_le_of_lt (xHz nf (show k + 1 ≤ m from hkm)) hN
   have hns : ¬ ((psum nf k + nf k : Nat) : Int) < 0 := by omega
   go_wp2
   go_roundw
   case rel => exact ⟨k + 1, hkm, by go_num, by rw [show psum nf (k + 1) = psum nf k + nf k from rfl]; go_num, hbk, hbw⟩
   case measure => simp [intOf]; omega
  ·obtain rfl : k = m := by omega
   go_wp2_with (first
    | (go_at_call 129; (with_reducible refine (grow_any hN).mono ?_); rintro e w1 ⟨v0, rfl, hown0, hb1⟩))
   have hbk1 := hbk.next hb1
   have hbw1 := btz hbw hb1
   have hown1 : w1.ownsRow w.heap.size 43 51 v0 0 [] := by
    refine ⟨hown0.1, ?_⟩
    rcases hown0.2 with q | ⟨g, c, cur, q1, q2, q3⟩
    ·exact .inl q
    ·exact .inr ⟨g, c, cur, q1, Nat.le_trans hbw.size q2, q3⟩
   clear hown0
   go_loopw [6, 27] (fun v i wr => ∃ j : Nat, j ≤ k ∧ i = .int .i64 j ∧ wr.ownsRow w.heap.size 43 51 v (psum nf j) (pcat sf j) ∧ Blk wr Bq Cq 23 ∧ Below w.heap.size w wr) (fun _ i _ => k - (intOf i).toNat)
   case atStart => exact ⟨0, Nat.zero_le _, rfl, hown1, hbk1, hbw1⟩
   case round =>
    obtain ⟨j, hj, rfl, hown, hbk2, hbw2⟩ := hrel
    by_cases hjm : j < k
    ·have hjm' : (j : Int) < k := by omega
     have hcell := (hbk2.cell j).trans (hc j hjm)
     have hps : psum nf j + nf j < 4294967296 := Nat.lt_of_le_of_lt (xHz nf (show j + 1 ≤ k from hjm)) hN
     have hrj := (hr j hjm).next hbw2
     have h1j := h1 j hjm
     go_wp2_with (at_builtin; refine qwz jzz underlying23 qoz (by omega) rfl _ _ rfl w.heap.size _ (psum nf j) (pcat sf j) rfl hown _ _ _ _ (sf j) rfl hrj h1j (by unfold maxLen; omega) (by omega) hbw2.size ?_; intro v' w2 hown' hgrow)
     go_roundw
     case rel =>
      have hbw3 : Below w.heap.size w w2 := hbw2.grown hgrow hbw2.size (xuz hown)
      have hbk3 : Blk w2 Bq Cq 23 := (hbw3.block Bq hb.lt).trans hb
      exact ⟨j + 1, hjm, by go_num, hown', hbk3, hbw3⟩
     case measure => simp [intOf]; omega
    ·obtain rfl : j = k := by omega
     go_wp2
     go_ret
     exact ⟨_, rfl, hown, hbw2⟩
theorem ob_ln {S : World → Prop} : Obl.holds prog S (.ln 23 3 (.slice ao n cap) (.int .i64 n)) := fun w hS => by
 go_simp
theorem uqz {X : List Ob} {i : Int} (h : Obs w ao n cap X) (hs : Srt X) (hn16 : n ≤ 4096) : Calls prog 102 #[.agg #[.slice ao n cap, .func (.func 101) #[] #[]], .int .u64 i] w fun e w' => e = .returned (.int .i64 (ahd X i : Nat)) ∧ Below w.heap.size w w' := by
 have hmx : prog.follows .mixedOrders = true := by kernel_rfl
 have hn : Hid (X.length = n) := h.1
 have hnc := h.2.1
 have hcm := h.2.2.1.1
 have hsH : Hid (Srt X) := hs
 clear hs
 go_enter func102, ntmps102
 go_wp2
 have hA := (brz w.heap.size w).alloc (lrz _) (.cells #[.slice ao n cap, .func (.func 101) #[] #[]] 108)
 have hBk := Blk.new w #[.slice ao n cap, .func (.func 101) #[] #[]] 108
 generalize w.alloc (.cells #[.slice ao n cap, .func (.func 101) #[] #[]] 108) = W0 at hA hBk ⊢
 obtain ⟨B, hB⟩ : ∃ B, w.heap.size = B := ⟨_, rfl⟩
 have hBh : Hid (w.heap.size = B) := hB
 rw [hB] at hBk hA ⊢
 clear hB
 refine PgM.region_out (S := fun W => Blk W B #[.slice ao n cap, .func (.func 101) #[] #[]] 108) hmx (hBk.next (brz _ _).drew) (fun hS => ?_)
 replace hA := hA.trans ((brz W0.heap.size W0).drew.mono (by have := hA.size; have := hBh.out; omega))
 generalize W0.drew = W1 at hS hA ⊢
 clear hBk
 refine qjz (by kernel_rfl) (fun _ _ _ _ _ h => h) hS [(0, none), (1, some (.slice ao n cap)), (2, some (.int .i64 n)), (3, none), (4, none)] (l' := #[tt, tt, tt, tt, tt]) (a' := { tmps := #[.agg #[.slice ao n cap, .func (.func 101) #[] #[]], .int .u64 i, .pointer (some ⟨B, 0, none⟩), undef, .int .i64 0, .int .i64 0, .int .i64 n, undef, .pointer (some ⟨B, 0, none⟩), .slice ao n cap, .int .i64 n, undef, undef, undef, undef, undef, undef, undef, undef, undef, undef, undef, undef, undef, undef, undef, undef, undef, undef, undef, undef, undef, undef, undef], defers := [] }) (obs := [.load 23 B 0 (.slice ao n cap), .ln 23 3 (.slice ao n cap) (.int .i64 n)]) (n := 0) (by kernel_rfl) (by kernel_rfl) ⟨qhz (fun _ h => h) rfl isAgg23, ob_ln, trivial⟩ ?_
 refine wpAnyH_done (by kernel_rfl) ?_ _
 go_wp2
 go_loopw [5, 6] (fun vl vh wr => ∃ lo hi : Nat, lo ≤ hi ∧ hi ≤ n ∧ vl = .int .i64 lo ∧ vh = .int .i64 hi ∧ Hid (∀ j, j < lo → (oat X j).id < i) ∧ Hid (∀ j, hi ≤ j → j < n → i ≤ (oat X j).id) ∧ Blk wr B #[.slice ao n cap, .func (.func 101) #[] #[]] 108 ∧ Below B w wr) (fun vl vh _ => (intOf vh).toNat - (intOf vl).toNat)
 case atStart => exact ⟨0, n, Nat.zero_le _, lrz _, rfl, rfl, fun j hj => absurd hj (by omega), fun j h1 h2 => absurd h2 (by omega), hS, hA⟩
 case round =>
  clear hS hA
  obtain ⟨lo, hi, hlh, hhn, rfl, rfl, hlo, hhi, hbk, hb⟩ := hrel
  by_cases hlt : lo < hi
  ·obtain ⟨d, hd⟩ : ∃ d : Nat, d = (hi - lo) / 2 := ⟨_, rfl⟩
   have hdi : ((hi : Int) - lo) / 2 = d := by omega
   obtain ⟨m, hm⟩ : ∃ m : Nat, m = lo + d := ⟨_, rfl⟩
   have hmi : (lo : Int) + d = m := by omega
   have hmn : m < n := by omega
   have hm1 : lo ≤ m := by omega
   have hm2 : m < hi := by omega
   have hbs : B ≤ wr.heap.size := by have := hb.size; have := hBh.out; omega
   have hbw : Below w.heap.size w wr := by rw [hBh.out]; exact hb
   obtain ⟨b, off, C, rfl, hbb, hC, hr⟩ := wHz (qqz h hbw) hmn
   have hz := hC.size
   clear hd hm
   by_cases hxi : (oat X m).id < i
   ·have hd : Hid ((oat X m).id < i) := hxi
    have hlo2 : Hid (∀ j, j < m + 1 → (oat X j).id < i) := by
     refine (?_ : ∀ j, j < m + 1 → (oat X j).id < i)
     intro j hj
     rcases Nat.lt_or_ge j m with q | q
     ·have hl := hn.out
      have := List.pairwise_iff_getElem.1 hsH.out j m (by omega) (by omega) q
      rw [← qKz (by omega), ← qKz (by omega)] at this
      omega
     ·obtain rfl : j = m := by omega
      exact hxi
    clear hxi
    go_wp2
    refine PgM.region_out (S := fun W => Blk W B #[.slice (some ⟨b, off, none⟩) n cap, .func (.func 101) #[] #[]] 108 ∧ W.rangeAt b (off + m * 51) C.toList) hmx ⟨hbk.next (brz _ _).drew, qmz hr ((brz _ wr).drew.block b hbb)⟩ (fun hS => ?_)
    have hkd := (brz wr.heap.size wr).drew
    have hC0 := hC.next hkd
    have hb1 := hb.trans (hkd.mono hbs)
    have hbb1 : b < wr.drew.heap.size := ltz hbb hkd.size
    generalize wr.drew = W1 at hS hC0 hb1 hbb1 ⊢
    clear hkd
    refine qvz (by kernel_rfl) (fun _ _ _ _ _ h => h) hS [(0, none), (1, some (.func (.func 101) #[] #[])), (2, none), (3, some (.slice (some ⟨b, off, none⟩) n cap)), (4, none), (5, some (.pointer (some ⟨b, off + m * 51, none⟩))), (6, some (.agg C)), (8, none)] (obs := [.load 106 B 1 (.func (.func 101) #[] #[]), .load 23 B 0 (.slice (some ⟨b, off, none⟩) n cap), .ia 23 (.slice (some ⟨b, off, none⟩) n cap) (.int .i64 m) (.pointer (some ⟨b, off + m * 51, none⟩)), .load 43 b (off + m * 51) (.agg C)]) (n := 2) (by kernel_rfl) (by kernel_rfl) ⟨qhz (fun _ h => h.1) rfl isAgg106, qhz (fun _ h => h.1) rfl isAgg23, wDz hmn, wnz (fun _ h => h.2) underlying43 (by kernel_rfl) (qez hz), trivial⟩ ?_
    refine qnz (i := 7) (fuel := 1) (f := 101) (vs := [.agg C]) (d := some 27) (by kernel_rfl) (by kernel_rfl) (by kernel_rfl) call101 (whz hC0) ?_
    rintro e W2 ⟨rfl, hk2⟩
    have hS2 : Blk W2 B #[.slice (some ⟨b, off, none⟩) n cap, .func (.func 101) #[] #[]] 108 ∧ W2.rangeAt b (off + m * 51) C.toList := ⟨hS.1.next hk2, qmz hS.2 (hk2.block b hbb1)⟩
    refine ⟨_, rfl, hS2, ?_⟩
    have hb2 := hb1.trans (hk2.mono (by have := hb1.size; have := hBh.out; omega))
    refine qjz (by kernel_rfl) (fun _ _ _ _ _ h => h) hS2 [(9, some (.bool true))] (l' := #[tt, tt, tt, tt, tt, tt, tt, tt, tt, tt]) (a' := { tmps := #[.agg #[.slice (some ⟨b, off, none⟩) n cap, .func (.func 101) #[] #[]], .int .u64 i, .pointer (some ⟨B, 0, none⟩), undef, .int .i64 0, .int .i64 lo, .int .i64 hi, .int .i64 m, .pointer (some ⟨B, 0, none⟩), .slice (some ⟨b, off, none⟩) n cap, .int .i64 n, .int .i64 lo, .int .i64 hi, .bool true, .int .i64 lo, .int .i64 hi, .int .i64 lo, .int .i64 (↑hi - ↑lo), .int .i64 ((↑hi - ↑lo) / 2), .int .i64 m, .pointer (some ⟨B, 1, none⟩), .func (.func 101) #[] #[], .pointer (some ⟨B, 0, none⟩), .slice (some ⟨b, off, none⟩) n cap, .int .i64 m, .pointer (some ⟨b, off + m * 51, none⟩), .agg C, .int .u64 (oat X m).id, .int .u64 i, .bool true, u30, u31, u32, undef], defers := [] }) (obs := [.test .lss 22 (.tmp 27) (.tmp 28) (.int .u64 (oat X m).id) (.int .u64 i) (.bool true)]) (n := 0) (by kernel_rfl) (by kernel_rfl) ⟨qEz (fun _ => wez _ _ _ _ _ _) hd, trivial⟩ ?_
    refine wpAnyH_done (by kernel_rfl) ?_ _
    have hbk3 := hS2.1
    clear hS hS2 hC0 hb1 hbb1 hk2
    go_wp2
    go_roundw
    case rel => exact ⟨m + 1, hi, by omega, hhn, by go_num, rfl, hlo2, hhi, hbk3, hb2⟩
    case measure => simp [intOf]; omega
   ·have hd : Hid (¬ (oat X m).id < i) := hxi
    have hhi2 : Hid (∀ j, m ≤ j → j < n → i ≤ (oat X j).id) := by
     refine (?_ : ∀ j, m ≤ j → j < n → i ≤ (oat X j).id)
     intro j hj hjn
     rcases Nat.lt_or_ge m j with q | q
     ·have hl := hn.out
      have := List.pairwise_iff_getElem.1 hsH.out m j (by omega) (by omega) q
      rw [← qKz (by omega), ← qKz (by omega)] at this
      omega
     ·obtain rfl : j = m := by omega
      omega
    clear hxi
    go_wp2
    refine PgM.region_out (S := fun W => Blk W B #[.slice (some ⟨b, off, none⟩) n cap, .func (.func 101) #[] #[]] 108 ∧ W.rangeAt b (off + m * 51) C.toList) hmx ⟨hbk.next (brz _ _).drew, qmz hr ((brz _ wr).drew.block b hbb)⟩ (fun hS => ?_)
    have hkd := (brz wr.heap.size wr).drew
    have hC0 := hC.next hkd
    have hb1 := hb.trans (hkd.mono hbs)
    have hbb1 : b < wr.drew.heap.size := ltz hbb hkd.size
    generalize wr.drew = W1 at hS hC0 hb1 hbb1 ⊢
    clear hkd
    refine qvz (by kernel_rfl) (fun _ _ _ _ _ h => h) hS [(0, none), (1, some (.func (.func 101) #[] #[])), (2, none), (3, some (.slice (some ⟨b, off, none⟩) n cap)), (4, none), (5, some (.pointer (some ⟨b, off + m * 51, none⟩))), (6, some (.agg C)), (8, none)] (obs := [.load 106 B 1 (.func (.func 101) #[] #[]), .load 23 B 0 (.slice (some ⟨b, off, none⟩) n cap), .ia 23 (.slice (some ⟨b, off, none⟩) n cap) (.int .i64 m) (.pointer (some ⟨b, off + m * 51, none⟩)), .load 43 b (off + m * 51) (.agg C)]) (n := 2) (by kernel_rfl) (by kernel_rfl) ⟨qhz (fun _ h => h.1) rfl isAgg106, qhz (fun _ h => h.1) rfl isAgg23, wDz hmn, wnz (fun _ h => h.2) underlying43 (by kernel_rfl) (qez hz), trivial⟩ ?_
    refine qnz (i := 7) (fuel := 1) (f := 101) (vs := [.agg C]) (d := some 27) (by kernel_rfl) (by kernel_rfl) (by kernel_rfl) call101 (whz hC0) ?_
    rintro e W2 ⟨rfl, hk2⟩
    have hS2 : Blk W2 B #[.slice (some ⟨b, off, none⟩) n cap, .func (.func 101) #[] #[]] 108 ∧ W2.rangeAt b (off + m * 51) C.toList := ⟨hS.1.next hk2, qmz hS.2 (hk2.block b hbb1)⟩
    refine ⟨_, rfl, hS2, ?_⟩
    have hb2 := hb1.trans (hk2.mono (by have := hb1.size; have := hBh.out; omega))
    refine qjz (by kernel_rfl) (fun _ _ _ _ _ h => h) hS2 [(9, some (.bool false))] (l' := #[tt, tt, tt, tt, tt, tt, tt, tt, tt, tt]) (a' := { tmps := #[.agg #[.slice (some ⟨b, off, none⟩) n cap, .func (.func 101) #[] #[]], .int .u64 i, .pointer (some ⟨B, 0, none⟩), undef, .int .i64 0, .int .i64 lo, .int .i64 hi, .int .i64 m, .pointer (some ⟨B, 0, none⟩), .slice (some ⟨b, off, none⟩) n cap, .int .i64 n, .int .i64 lo, .int .i64 hi, .bool true, .int .i64 lo, .int .i64 hi, .int .i64 lo, .int .i64 (↑hi - ↑lo), .int .i64 d, .int .i64 m, .pointer (some ⟨B, 1, none⟩), .func (.func 101) #[] #[], .pointer (some ⟨B, 0, none⟩), .slice (some ⟨b, off, none⟩) n cap, .int .i64 m, .pointer (some ⟨b, off + m * 51, none⟩), .agg C, .int .u64 (oat X m).id, .int .u64 i, .bool false, u30, u31, u32, undef], defers := [] }) (obs := [.test .lss 22 (.tmp 27) (.tmp 28) (.int .u64 (oat X m).id) (.int .u64 i) (.bool false)]) (n := 0) (by kernel_rfl) (by kernel_rfl) ⟨qVz (fun _ => wez _ _ _ _ _ _) (by refine (?_ : ¬ (oat X m).id < i); have := hd.out; omega), trivial⟩ ?_
    refine wpAnyH_done (by kernel_rfl) ?_ _
    have hbk3 := hS2.1
    clear hS hS2 hC0 hb1 hbb1 hk2
    go_wp2
    go_roundw
    case rel => exact ⟨lo, m, by omega, by omega, rfl, rfl, hlo, hhi2, hbk3, hb2⟩
    case measure => simp [intOf]; omega
  ·obtain rfl : lo = hi := by omega
   have hr : Hid (ahd X i = lo) := ahd_of (by rw [hn.out]; exact hhn) hlo.out (fun j h1 h2 => hhi.out j h1 (by rw [← hn.out]; exact h2))
   go_wp2
   go_ret
   exact ⟨by rw [hr.out]; rfl, by rw [hBh.out]; exact hb⟩
theorem kYz {X : List Ob} {i : Int} (h : Obs w ao n cap X) (hs : Srt X) (hn16 : n ≤ 4096) : Calls prog 71 #[.agg #[.slice ao n cap, .func (.func 101) #[] #[]], .int .u64 i] w fun e w' => e = .returned (.tuple #[.int .i64 (ahd X i : Nat), .int .i64 (fin X i : Nat)]) ∧ Below w.heap.size w w' := by
 have hmx : prog.follows .mixedOrders = true := by kernel_rfl
 have hn : Hid (X.length = n) := h.1
 have hsH : Hid (Srt X) := hs
 have hle : ahd X i ≤ n := by rw [← hn.out]; exact jfz X i
 have hah := fun (W : World) (hk : Below w.heap.size w W) => uqz (i := i) (qqz h hk) hs hn16
 have c0 : (#[.slice ao n cap, .func (.func 101) #[] #[]] : Array Value)[0]? = some (.slice ao n cap) := rfl
 have c1 : (#[.slice ao n cap, .func (.func 101) #[] #[]] : Array Value)[1]? = some (.func (.func 101) #[] #[]) := rfl
 have hzG : (prog.info? 108).map (·.size) = some (#[.slice ao n cap, .func (.func 101) #[] #[]] : Array Value).size := by kernel_rfl
 obtain ⟨G, hG⟩ : ∃ G : Array Value, G = #[.slice ao n cap, .func (.func 101) #[] #[]] := ⟨_, rfl⟩
 rw [← hG] at c0 c1 hzG
 rw [← hG] at hah ⊢
 clear hG
 obtain ⟨k, hke⟩ : ∃ k, Hid (ahd X i = k) := ⟨_, rfl⟩
 rw [hke.out] at hah hle
 clear hs
 go_enter func71, ntmps71
 go_wp2_with (first
  | (with_reducible refine qcz rfl _ _ rfl G rfl ?_; intro B W hB hb hk)
  | (with_reducible refine qlz rfl _ _ rfl B rfl _ hb _ underlying108 rfl hzG ?_)
  | (go_at_call 102; (with_reducible refine (hah _ hk).mono ?_); rintro e w1 ⟨rfl, hb1⟩; replace hb := hb.next hb1; replace hk := btz hk hb1))
 clear hah hB hb1
 by_cases hkn : k < n
 ·have hkn1 : Hid ((k : Int) < n) := by show _ < _; omega
  obtain ⟨b, off, C, rfl, hbb, hC, hr⟩ := wHz (qqz h hk) hkn
  have hz := hC.size
  refine PgM.region_out (S := fun W => Blk W B G 108 ∧ W.rangeAt b (off + k * 51) C.toList) hmx ⟨hb.next (brz _ _).drew, qmz hr ((brz _ w1).drew.block b hbb)⟩ (fun hS => ?_)
  have hkd := (brz w1.heap.size w1).drew
  have hC0 := hC.next hkd
  replace hk := btz hk hkd
  have hbb1 : b < w1.drew.heap.size := ltz hbb hkd.size
  generalize w1.drew = W1 at hS hC0 hk hbb1 ⊢
  clear hkd hb
  refine qvz (by kernel_rfl) (fun _ _ _ _ _ h => h) hS [(0, none), (1, none), (2, some (.slice (some ⟨b, off, none⟩) n cap)), (3, some (.int .i64 n)), (4, some (.bool true)), (5, none), (6, none), (7, some (.func (.func 101) #[] #[])), (8, none), (9, some (.slice (some ⟨b, off, none⟩) n cap)), (10, none), (11, some (.pointer (some ⟨b, off + k * 51, none⟩))), (12, some (.agg C)), (14, none)] (obs := [.load 23 B 0 (.slice (some ⟨b, off, none⟩) n cap), .ln 23 3 (.slice (some ⟨b, off, none⟩) n cap) (.int .i64 n), .test .lss 3 (.tmp 10) (.tmp 13) (.int .i64 k) (.int .i64 n) (.bool true), .load 106 B 1 (.func (.func 101) #[] #[]), .load 23 B 0 (.slice (some ⟨b, off, none⟩) n cap), .ia 23 (.slice (some ⟨b, off, none⟩) n cap) (.int .i64 k) (.pointer (some ⟨b, off + k * 51, none⟩)), .load 43 b (off + k * 51) (.agg C)]) (n := 3) (by kernel_rfl) (by kernel_rfl) ⟨qhz (fun _ h => h.1) c0 isAgg23, ob_ln, qEz (fun _ => wez _ _ _ _ _ _) hkn1, qhz (fun _ h => h.1) c1 isAgg106, qhz (fun _ h => h.1) c0 isAgg23, wDz hkn, wnz (fun _ h => h.2) underlying43 (by kernel_rfl) (qez hz), trivial⟩ ?_
  refine qnz (i := 13) (fuel := 2) (f := 101) (vs := [.agg C]) (d := some 23) (by kernel_rfl) (by kernel_rfl) (by kernel_rfl) call101 (whz hC0) ?_
  rintro e W2 ⟨rfl, hk2⟩
  have hS2 : Blk W2 B G 108 ∧ W2.rangeAt b (off + k * 51) C.toList := ⟨hS.1.next hk2, qmz hS.2 (hk2.block b hbb1)⟩
  refine ⟨_, rfl, hS2, ?_⟩
  replace hk := btz hk hk2
  by_cases hxi : (oat X k).id = i
  ·have hd : Hid ((oat X k).id = i) := hxi
   refine qjz (by kernel_rfl) (fun _ _ _ _ _ h => h) hS2 [(15, some (.bool true)), (16, none)] (l' := #[tt, tt, tt, tt, tt, tt, tt, tt, tt, tt, tt, tt, tt, tt, tt, tt, tt]) (a' := { tmps := #[.agg G, .int .u64 i, .pointer (some ⟨B, 0, none⟩), undef, .int .i64 0, .int .i64 0, .int .i64 k, .agg G, .int .u64 i, .int .i64 k, .int .i64 k, .pointer (some ⟨B, 0, none⟩), .slice (some ⟨b, off, none⟩) n cap, .int .i64 n, .bool true, .bool true, .pointer (some ⟨B, 1, none⟩), .func (.func 101) #[] #[], .pointer (some ⟨B, 0, none⟩), .slice (some ⟨b, off, none⟩) n cap, .int .i64 k, .pointer (some ⟨b, off + k * 51, none⟩), .agg C, .int .u64 (oat X k).id, .int .u64 i, .bool true, .bool true, ud, ud, ud, ud, undef], defers := [] }) (obs := [.test .eql 22 (.tmp 23) (.tmp 24) (.int .u64 (oat X k).id) (.int .u64 i) (.bool true)]) (n := 0) (by kernel_rfl) (by kernel_rfl) ⟨qEz (fun _ => quz _ _ _ _ _ _) hd, trivial⟩ ?_
   refine wpAnyH_done (by kernel_rfl) ?_ _
   clear hS hS2 hC0 hbb1 hk2
   go_wp2
   go_ret2
   have hf : fin X i = k + 1 := by unfold fin; rw [voz hsH.out (by rw [hke.out, hn.out]; exact hkn) (by rw [hke.out]; exact hxi), hke.out]; rfl
   refine ⟨?_, hk⟩
   rw [hf, hke.out]
   go_num
  ·have hd : Hid (¬ (oat X k).id = i) := hxi
   refine qjz (by kernel_rfl) (fun _ _ _ _ _ h => h) hS2 [(15, some (.bool false)), (16, none)] (l' := #[tt, tt, tt, tt, tt, tt, tt, tt, tt, tt, tt, tt, tt, tt, tt, tt, tt]) (a' := { tmps := #[.agg G, .int .u64 i, .pointer (some ⟨B, 0, none⟩), undef, .int .i64 0, .int .i64 0, .int .i64 k, .agg G, .int .u64 i, .int .i64 k, .int .i64 k, .pointer (some ⟨B, 0, none⟩), .slice (some ⟨b, off, none⟩) n cap, .int .i64 n, .bool true, .bool true, .pointer (some ⟨B, 1, none⟩), .func (.func 101) #[] #[], .pointer (some ⟨B, 0, none⟩), .slice (some ⟨b, off, none⟩) n cap, .int .i64 k, .pointer (some ⟨b, off + k * 51, none⟩), .agg C, .int .u64 (oat X k).id, .int .u64 i, .bool false, .bool false, ud, ud, ud, ud, undef], defers := [] }) (obs := [.test .eql 22 (.tmp 23) (.tmp 24) (.int .u64 (oat X k).id) (.int .u64 i) (.bool false)]) (n := 0) (by kernel_rfl) (by kernel_rfl) ⟨qVz (fun _ => quz _ _ _ _ _ _) hd, trivial⟩ ?_
   refine wpAnyH_done (by kernel_rfl) ?_ _
   clear hS hS2 hC0 hbb1 hk2
   go_wp2
   go_ret2
   have hf : fin X i = k := by unfold fin; rw [w5z hsH.out (by rw [hke.out]; exact fun q => hxi q.2), hke.out]; rfl
   refine ⟨?_, hk⟩
   rw [hf, hke.out]; rfl
 ·have hkn1 : Hid (¬ (k : Int) < n) := by show ¬ _; omega
  refine PgM.region_out (S := fun W => Blk W B G 108) hmx (hb.next (brz _ _).drew) (fun hS => ?_)
  have hkd := (brz w1.heap.size w1).drew
  replace hk := btz hk hkd
  generalize w1.drew = W1 at hS hk ⊢
  clear hkd hb
  refine qjz (by kernel_rfl) (fun _ _ _ _ _ h => h) hS [(0, none), (1, none), (2, some (.slice ao n cap)), (3, some (.int .i64 n)), (4, some (.bool false)), (5, none), (6, none), (7, none), (8, none), (9, none), (10, none), (11, none), (12, none), (13, none), (14, none), (15, none), (16, none)] (l' := #[tt, tt, tt, tt, tt, tt, tt, tt, tt, tt, tt, tt, tt, tt, tt, tt, tt]) (a' := { tmps := #[.agg G, .int .u64 i, .pointer (some ⟨B, 0, none⟩), undef, .int .i64 0, .int .i64 0, .int .i64 k, .agg G, .int .u64 i, .int .i64 k, .int .i64 k, .pointer (some ⟨B, 0, none⟩), .slice ao n cap, .int .i64 n, .bool false, .bool false, ud, ud, ud, ud, ud, ud, ud, ud, ud, undef, .bool false, ud, ud, ud, ud, undef], defers := [] }) (obs := [.load 23 B 0 (.slice ao n cap), .ln 23 3 (.slice ao n cap) (.int .i64 n), .test .lss 3 (.tmp 10) (.tmp 13) (.int .i64 k) (.int .i64 n) (.bool false)]) (n := 0) (by kernel_rfl) (by kernel_rfl) ⟨qhz (fun _ h => h) c0 isAgg23, ob_ln, qVz (fun _ => wez _ _ _ _ _ _) hkn1, trivial⟩ ?_
  refine wpAnyH_done (by kernel_rfl) ?_ _
  clear hS
  go_wp2
  go_ret2
  have hf : fin X i = k := by unfold fin; rw [w5z hsH.out (by rw [hke.out, hn.out]; exact fun q => hkn q.1), hke.out]; rfl
  refine ⟨?_, hk⟩
  rw [hf, hke.out]; rfl
theorem xGz {fn : Func} {p u : Tmp} (h : fn.results = #[.cell p 43, .tmp u]) {tmps : Array Value} {B : Nat} {C : Array Value} {v : Value} (hp : tmps.getD p undef = .pointer (some ⟨B, 0, none⟩)) (hu : tmps.getD u undef = v) (hB : Blk w B C 43) (hs : C.size = 51) : (results fn tmps).run prog w = .ok (.tuple #[.agg C, v]) w := by
 rw [results_cell_tmp h, hp, hu]
 have := run_loadVar_mid (P := prog) w B 0 43 C.toList _ hB.range0 underlying43 rfl (by simpa using qez hs)
 rw [Array.toArray_toList] at this
 simp [asAddr, this, Result.andThen]
theorem gTz : prog.built 43 [] = some zC := by kernel_rfl
def wtz (X : List Ob) : Prop := ∀ x ∈ X, Small x
def gjz (ops : Array Oper) (o : Oper) (a : Act) : Option (TypeId × Nat × Nat × Option Tmp) :=
 if Region.wanted o (yielded ops a.tmps) then
  match o.op with
  | .load t x =>
   match a.eval x with
   | .pointer (some ⟨b, off, none⟩) => some (t, b, off, o.dst)
   | _ => none
  | _ => none
 else none
def bsOf (ops : Array Oper) (o : Oper) (a : Act) : Option (TypeId × Nat × List (Nat × Value) × Option Tmp) :=
 if Region.wanted o (yielded ops a.tmps) then
  match o.op with
  | .buildSlice t n ps => some (t, n, ps.toList.map (fun p => (p.1, a.eval p.2)), o.dst)
  | _ => none
 else none
section
variable {ops : Array Oper} {Q : Exit → Act → World → Prop} {S : World → Prop} {w : World} {m : Nat} {a : Act} {l : Array Bool}
theorem xkz {i : Nat} {ty : TypeId} {b off : Nat} {v : Value} {d : Option Tmp} {K : Act → World → Prop} (hi : (ops[i]?).bind (fun o => gjz ops o a) = some (ty, b, off, d)) (hr : (loadVar ty ⟨b, off, none⟩).run prog w = .ok v w)
  (h : K (a.put d v) w) : wpOp prog ops Q i K a w := by
 cases ho : ops[i]? with
 | none => rw [ho] at hi; cases hi
 | some o =>
  rw [ho] at hi
  have hi' : gjz ops o a = _ := hi
  unfold gjz at hi'
  split at hi'
  ·rename_i hw
   split at hi'
   ·rename_i t x hop
    split at hi'
    ·rename_i b' o' hx
     cases hi'
     unfold wpOp
     simp only [ho, hw, if_true]
     left
     unfold Oper.wp execOp
     simp only [hop, hx, Instr.loadAt, Instr.sureAddr, Sem.run_bind, Sem.run_pure, Result.andThen_ok, hr]
     exact h
    ·cases hi'
   ·cases hi'
  ·cases hi'
theorem jgz {i : Nat} {t : TypeId} {n : Nat} {vs : List (Nat × Value)} {v : Value} {W : World} {d : Option Tmp} {K : Act → World → Prop} (hi : (ops[i]?).bind (fun o => bsOf ops o a) = some (t, n, vs, d)) (hr : (Instr.buildSlice t n vs.toArray).run prog w = .ok v W)
  (h : K (a.put d v) W) : wpOp prog ops Q i K a w := by
 cases ho : ops[i]? with
 | none => rw [ho] at hi; cases hi
 | some o =>
  rw [ho] at hi
  have hi' : bsOf ops o a = _ := hi
  unfold bsOf at hi'
  split at hi'
  ·rename_i hw
   split at hi'
   ·rename_i t x ps hop
    cases hi'
    have e : (ps.map fun (i, x) => (i, a.eval x)) = (ps.toList.map (fun p => (p.1, a.eval p.2))).toArray := by
     apply Array.ext'
     simp
    unfold wpOp
    simp only [ho, hw, if_true]
    left
    unfold Oper.wp execOp
    simp only [hop, e, Sem.run_bind, hr, Result.andThen_ok]
    exact h
   ·cases hi'
  ·cases hi'
end
theorem xFz {w : World} {ty t : TypeId} {B o : Nat} {C : Array Value} {v : Value} (hB : Blk w B C t) (hv : C[o]? = some v) (hg : ∀ w, (isAgg ty).run prog w = .ok false w) : (loadVar ty ⟨B, o, none⟩).run prog w = .ok v w := by
 have hc : w.cell? ⟨B, o, none⟩ = some v := (hB.cell o).trans hv
 simp [loadVar, hg, hc]
theorem infoS : (prog.info? 23).map (fun i => (i.zero, i.size, i.bytes)) = some (some (.slice none 0 0), 1, 24) := by kernel_rfl
theorem run_bs3 {a0 a1 a2 : Option Addr} {n0 n1 n2 c0 c1 c2 : Nat} (w : World) : (Instr.buildSlice 151 3 #[(0, .slice a0 n0 c0), (1, .slice a1 n1 c1), (2, .slice a2 n2 c2)]).run prog w = .ok (.slice (some ⟨w.heap.size, 0, none⟩) 3 3) (w.alloc (.cells #[.slice a0 n0 c0, .slice a1 n1 c1, .slice a2 n2 c2] 23)) := by
 obtain ⟨i0, hi, hz0, hz1, hz2⟩ := info_parts infoS
 refine run_buildSlice w _ _ 3 _ _ i0 _ underlying151 hi hz0 (by rw [hz1]; omega) (by rw [hz1]; omega) ?_
 rw [hz1]
 have := Great.fill_whole (s := 1) (by omega) [.slice a0 n0 c0, .slice a1 n1 c1, .slice a2 n2 c2] ((Array.range (3 * 1)).map ((Value.slice none 0 0).cells[· % (Value.slice none 0 0).cells.size]!)) (by simp [Value.cells]) (by simp)
 simpa [Value.cells] using this
def zW : Array Value := #[.int .i64 0, .int .u64 0, .int .u64 0, .slice none 0 0]
theorem q0z (w : World) : (zeroValue 25).run prog w = .ok (.agg zW) w := Tryz.zeroValue25 w
theorem wcz : (prog.info? 25).map (·.size) = some 4 := by kernel_rfl
theorem y3z {fn : Func} {p : Tmp} (h : fn.results = #[.cell p 25]) {tmps : Array Value} {w : World} {B : Nat} {C : Array Value} (hp : tmps.getD p undef = .pointer (some ⟨B, 0, none⟩)) (hB : Blk w B C 25) (hs : C.size = 4) : (results fn tmps).run prog w = .ok (.agg C) w :=
 results_cell_row h tmps w B 25 C (0, 0) _ hp hB underlying25 rfl (by rw [hs]; exact wcz)
variable {old C : Array Value}
theorem part_in {o j : Nat} {v : Value} (hs : o + C.size ≤ old.size) (h : C[j]? = some v) : (old.extract 0 o ++ C ++ old.extract (o + C.size) old.size)[o + j]? = some v := by
 have hj : j < C.size := (Array.getElem?_eq_some_iff.1 h).1
 rw [Array.getElem?_append, if_pos (by simp; omega), Array.getElem?_append, if_neg (by simp; omega)]
 simp
 rw [show o + j - min o old.size = j by omega]
 exact h
theorem part_out {o j : Nat} (hs : o + C.size ≤ old.size) (h : j < o ∨ o + C.size ≤ j) : (old.extract 0 o ++ C ++ old.extract (o + C.size) old.size)[j]? = old[j]? := by
 rcases h with h | h
 ·rw [Array.getElem?_append, if_pos (by simp; omega), Array.getElem?_append, if_pos (by simp; omega), Array.getElem?_extract, if_pos (by omega)]
  simp
 ·rw [Array.getElem?_append, if_neg (by simp; omega), Array.getElem?_extract]
  have hz : (old.extract 0 o ++ C).size = o + C.size := by simp; omega
  rw [hz]
  by_cases hj : j < old.size
  ·rw [if_pos (by omega), show o + C.size + (j - (o + C.size)) = j by omega]
  ·rw [if_neg (by omega)]; simp; omega
theorem u7z {o : Nat} (hs : o + C.size ≤ old.size) : (old.extract 0 o ++ C ++ old.extract (o + C.size) old.size).size = old.size := by simp; omega
abbrev Ey (F : Nat → Prop) (g R : Nat) (W : World) : Nat → Prop := fun b => b < W.heap.size ∧ F b ∧ b ≠ g ∧ b ≠ R
def RowG (F : Nat → Prop) (g R cp : Nat) (w : World) (Y : List Ob) (cur : Array Value) : Prop := Blk w g cur 43 ∧ cur.size = cp * 51 ∧ ∀ i, i < Y.length → ∃ C, ObD (Ey F g R w) w C (oat Y i) ∧ ∀ j v, C[j]? = some v → cur[i * 51 + j]? = some v
variable {F : Nat → Prop} {g R cp : Nat} {w w' : World} {Y : List Ob}
theorem RowG.next {cur : Array Value} (h : RowG F g R cp w Y cur) (k : Below w.heap.size w w') : RowG F g R cp w' Y cur := by
 obtain ⟨h1, h2, h3⟩ := h
 refine ⟨h1.next k, h2, fun i hi => ?_⟩
 obtain ⟨C, c1, c2⟩ := h3 i hi
 exact ⟨C, (c1.laterK fun b hb => k.block b hb.1).wide fun b hb => ⟨ltz hb.1 k.size, hb.2⟩, c2⟩
theorem RowG.put {cur C : Array Value} {i : Nat} (h : RowG F g R cp w Y cur) (hi : i < Y.length) (hc : Y.length ≤ cp) (hC : ObD (Ey F g R w) w C (oat Y i)) (k : Oth g w w') (hb : Blk w' g (cur.extract 0 (0 + i * 51) ++ C ++ cur.extract (0 + i * 51 + C.size) cur.size) 43) : RowG F g R cp w' Y (cur.extract 0 (0 + i * 51) ++ C ++ cur.extract (0 + i * 51 + C.size) cur.size) := by
 have hz := hC.size
 have hle : 0 + i * 51 + C.size ≤ cur.size := by rw [h.2.1, hz]; have : (i + 1) * 51 ≤ cp * 51 := Nat.mul_le_mul_right _ (by omega); omega
 refine ⟨hb, (u7z hle).trans h.2.1, fun i' hi' => ?_⟩
 by_cases e : i' = i
 ·subst e
  refine ⟨C, (hC.laterK fun b hb => k.block b hb.2.2.1).wide fun b hb => ⟨by rw [k.size]; exact hb.1, hb.2⟩, fun j v hv => ?_⟩
  rw [show i' * 51 + j = 0 + i' * 51 + j by omega]
  exact part_in hle hv
 ·obtain ⟨C', c1, c2⟩ := h.2.2 i' hi'
  refine ⟨C', (c1.laterK fun b hb => k.block b hb.2.2.1).wide fun b hb => ⟨by rw [k.size]; exact hb.1, hb.2⟩, fun j v hv => ?_⟩
  have hj : j < 51 := by rw [← c1.size]; exact (Array.getElem?_eq_some_iff.1 hv).1
  rw [part_out hle (by omega)]
  exact c2 j v hv
theorem RowG.obs {cur : Array Value} (h : RowG F g R cp w Y cur) (k : Oth R w w') (hne : g ≠ R) (hc : Y.length ≤ cp) (hm : cp ≤ 9223372036854775807) : ObsD (fun b => b = g ∧ g < w'.heap.size) (fun b => F b ∧ b < w'.heap.size) w' (some ⟨g, 0, none⟩) Y.length cp Y := by
 have hb := h.1.other k hne
 refine ⟨rfl, hc, ⟨hm, fun e => by cases e⟩, fun hn => ⟨g, 0, rfl, ⟨rfl, hb.lt⟩, fun i hi => ?_⟩⟩
 obtain ⟨C, c1, c2⟩ := h.2.2 i hi
 refine ⟨C, (c1.laterK fun b hb => k.block b hb.2.2.2).wide fun b hb => ⟨hb.2.1, by rw [k.size]; exact hb.1⟩, fun j v hv => ?_⟩
 rw [hb.cell, Nat.zero_add]
 exact c2 j v (by simpa using hv)
theorem yFz {w : World} {t ke ro : Int} {ao ao' : Option Addr} {n cap m cap' k f : Nat} {X O : List Ob} {D0 : Nat → Prop} (hD : ∀ b, D0 b → b < w.heap.size) (h : ObsD (LtN w) D0 w ao n cap X) (h' : ObsD (LtN w) D0 w ao' m cap' O) (hkn : k ≤ n) (hfn : f ≤ n) (hn16 : n ≤ 4096) (hm16 : m ≤ 4096) (hsm : wtz X) (hsm' : wtz O) : Calls prog 72 #[.agg #[.int .i64 t, .int .u64 ke, .int .u64 ro, .slice ao n cap], .int .i64 k, .int .i64 f, .slice ao' m cap'] w fun e w' => ∃ ao2 n2 cap2, e = .returned (.agg #[.int .i64 t, .int .u64 ke, .int .u64 ro, .slice ao2 n2 cap2]) ∧ ObsD (New w w') (fun b => D0 b ∨ New w w' b) w' ao2 n2 cap2 (X.take k ++ O ++ X.drop f) ∧ Below w.heap.size w w' := by
 have hmx : prog.follows .mixedOrders = true := by kernel_rfl
 have ga3 := isAgg23
 have hnc := h.2.1
 have hX : Hid (X.length = n) := h.1
 have hO : Hid (O.length = m) := h'.1
 have hYs : Hid (wtz (X.take k ++ O ++ X.drop f)) := by
  refine (?_ : wtz (X.take k ++ O ++ X.drop f))
  intro x hx
  rw [List.mem_append, List.mem_append] at hx
  rcases hx with (q | q) | q
  ·exact hsm x (List.mem_of_mem_take q)
  ·exact hsm' x q
  ·exact hsm x (List.mem_of_mem_drop q)
 have h1 := ObsD.to h hkn
 obtain ⟨a3, h3, hsl⟩ := vJz h hfn
 have hn3 : n - f ≤ 4096 := by omega
 have hYl : Hid ((X.take k ++ O ++ X.drop f).length = k + m + (n - f)) := by show _ = _; simp [hX.out, hO.out]; omega
 generalize hne : n - f = n3 at h3 hsl hn3 hYl
 generalize cap - f = cap3 at h3 hsl
 clear hne hsm hsm'
 have c3 : (#[.int .i64 t, .int .u64 ke, .int .u64 ro, .slice ao n cap] : Array Value)[3]? = some (.slice ao n cap) := rfl
 have cS : ∀ v, (#[.int .i64 t, .int .u64 ke, .int .u64 ro, .slice ao n cap] : Array Value).setIfInBounds 3 v = #[.int .i64 t, .int .u64 ke, .int .u64 ro, v] := fun v => rfl
 have hzG : (#[.int .i64 t, .int .u64 ke, .int .u64 ro, .slice ao n cap] : Array Value).size = 4 := rfl
 obtain ⟨G, hG⟩ : ∃ G : Array Value, G = #[.int .i64 t, .int .u64 ke, .int .u64 ro, .slice ao n cap] := ⟨_, rfl⟩
 rw [← hG] at c3 cS hzG
 rw [← hG]
 clear hG
 generalize X.take k = X1 at h1 hYs hYl ⊢
 generalize X.drop f = X3 at h3 hYs hYl ⊢
 go_enter func72, ntmps72
 go_wp2_with (first
  | (with_reducible refine qcz rfl _ _ rfl G rfl ?_; intro B W hB hb hk)
  | ((with_reducible refine qfz rfl _ rfl zW q0z ?_); intro R W0 hB1 hR hk1; replace hb := hb.next hk1; have hkw := btz hk hk1; have hBR : Hid (B ≠ R ∧ w.heap.size ≤ B ∧ w.heap.size ≤ R ∧ B < W0.heap.size ∧ R < W0.heap.size) := (by have := hB.out; have := hB1.out; refine (⟨?_, ?_, ?_, ?_, ?_⟩ : _ ∧ _ ∧ _ ∧ _ ∧ _) <;> omega); clear hB hB1 hk hk1))
 refine PgM.region_out (S := fun _ => True) hmx trivial (fun _ => ?_)
 have hkd := (brz W0.heap.size W0).drew
 have hk := btz hkw hkd
 replace hb := hb.next hkd
 replace hR := hR.next hkd
 replace hBR : Hid (B ≠ R ∧ w.heap.size ≤ B ∧ w.heap.size ≤ R ∧ B < W0.drew.heap.size ∧ R < W0.drew.heap.size) := by have := hBR.out; have := hkd.size; refine (⟨?_, ?_, ?_, ?_, ?_⟩ : _ ∧ _ ∧ _ ∧ _ ∧ _) <;> omega
 generalize W0.drew = W1 at hb hR hBR hk ⊢
 clear hkd hkw
 refine qjz (by kernel_rfl) (fun _ _ _ _ _ h => h) trivial [(0, none), (2, none), (4, none), (5, none), (7, none)] (l' := #[tt, ff, tt, ff, tt, tt, ff, tt, ff, ff, ff, ff, ff]) (a' := { tmps := #[.agg G, .int .i64 k, .int .i64 f, .slice ao' m cap', .pointer (some ⟨B, 0, none⟩), undef, undef, undef, .pointer (some ⟨R, 0, none⟩), undef, undef, .pointer (some ⟨B, 3, none⟩), undef, .int .i64 k, undef, .slice ao' m cap', .pointer (some ⟨B, 3, none⟩), undef, .int .i64 f, undef, undef, undef, undef, undef, undef, undef, undef, undef, undef, undef, undef, undef, undef, undef, undef, undef, undef, undef, undef], defers := [] }) (obs := []) (n := 8) (by kernel_rfl) (by kernel_rfl) trivial ?_
 refine share 4 #[true, true, true, true, true, true, true, true, true, false, false, false, false] (fun A W => A = { tmps := #[.agg G, .int .i64 k, .int .i64 f, .slice ao' m cap', .pointer (some ⟨B, 0, none⟩), undef, undef, undef, .pointer (some ⟨R, 0, none⟩), undef, undef, .pointer (some ⟨B, 3, none⟩), .slice ao n cap, .int .i64 k, .slice ao k cap, .slice ao' m cap', .pointer (some ⟨B, 3, none⟩), .slice ao n cap, .int .i64 f, .slice a3 n3 cap3, undef, undef, undef, undef, undef, undef, undef, undef, undef, undef, undef, undef, undef, undef, undef, undef, undef, undef, undef], defers := [] } ∧ Blk W B G 25 ∧ Blk W R zW 25 ∧ Below w.heap.size w W) ?_ (fun rest => ?_)
 ·clear hb hR hk
  rintro A W ⟨rfl, hb, hR, hk⟩
  refine qBz (i := 9) (n := 3) rfl (by kernel_rfl) ?_
  refine jgz (t := 151) (n := 3) (vs := [(0, .slice ao k cap), (1, .slice ao' m cap'), (2, .slice a3 n3 cap3)]) (d := some 20) (by kernel_rfl) (run_bs3 W) ?_
  refine ⟨trivial, ?_⟩
  have kq := (brz W.heap.size W).alloc (lrz _) (.cells #[.slice ao k cap, .slice ao' m cap', .slice a3 n3 cap3] 23)
  have hq := Blk.new W #[.slice ao k cap, .slice ao' m cap', .slice a3 n3 cap3] 23
  generalize W.alloc (.cells #[.slice ao k cap, .slice ao' m cap', .slice a3 n3 cap3] 23) = W2 at kq hq ⊢
  generalize W.heap.size = Bq at hq ⊢
  replace hb := hb.next kq
  replace hR := hR.next kq
  replace hk := btz hk kq
  clear kq
  obtain ⟨s1, o1, r1⟩ := h1.rows
  obtain ⟨s2, o2, r2⟩ := h'.rows
  obtain ⟨s3, o3, r3⟩ := h3.rows
  have hBl : Hid (B < W2.heap.size ∧ R < W2.heap.size ∧ w.heap.size ≤ W2.heap.size) := ⟨hb.lt, hR.lt, hk.size⟩
  have hcat := umz (w := W2) (Bq := Bq) (m := 3) (af := fun i => if i = 0 then ao else if i = 1 then ao' else a3) (nf := fun i => if i = 0 then k else if i = 1 then m else n3) (cf := fun i => if i = 0 then cap else if i = 1 then cap' else cap3) (sf := fun i => if i = 0 then s1 else if i = 1 then s2 else s3) hq
   (fun i hi => by rcases i with _ | _ | _ | i <;> first | rfl | (exfalso; omega))
   (fun i hi => by rcases i with _ | _ | _ | i <;> first | exact r1.next hk | exact r2.next hk | exact r3.next hk | (exfalso; omega))
   (fun i hi => by rcases i with _ | _ | _ | i <;> first | exact o1.one | exact o2.one | exact o3.one | (exfalso; omega)) (by omega) (by show 0 + k + m + n3 < 4294967296; omega)
  refine qnz (i := 10) (fuel := 2) (f := 103) (vs := [.slice (some ⟨Bq, 0, none⟩) 3 3]) (d := some 21) (by kernel_rfl) (by kernel_rfl) (by kernel_rfl) call103 hcat ?_
  rintro e W3 ⟨V, rfl, hown, kb⟩
  refine ⟨_, rfl, trivial, ?_⟩
  replace hb := hb.next kb
  replace hR := hR.next kb
  have hk3 := btz hk kb
  refine qjz (by kernel_rfl) (fun _ _ _ _ _ h => h) trivial [(11, none)] (l' := #[tt, tt, tt, tt, tt, tt, tt, tt, tt, tt, tt, tt, ff]) (a' := { tmps := #[.agg G, .int .i64 k, .int .i64 f, .slice ao' m cap', .pointer (some ⟨B, 0, none⟩), undef, undef, undef, .pointer (some ⟨R, 0, none⟩), undef, undef, .pointer (some ⟨B, 3, none⟩), .slice ao n cap, .int .i64 k, .slice ao k cap, .slice ao' m cap', .pointer (some ⟨B, 3, none⟩), .slice ao n cap, .int .i64 f, .slice a3 n3 cap3, .slice (some ⟨Bq, 0, none⟩) 3 3, V, .pointer (some ⟨B, 3, none⟩), undef, undef, undef, undef, undef, undef, undef, undef, undef, undef, undef, undef, undef, undef, undef, undef], defers := [] }) (obs := []) (n := 1) (by kernel_rfl) (by kernel_rfl) trivial ?_
  have hVc : V.cells = #[V] ∧ V.oneCell' = true := by rcases hown.2 with ⟨q, _⟩ | ⟨g, c, cur, q, _⟩ <;> subst q <;> exact ⟨rfl, rfl⟩
  obtain ⟨W5, hst, hb5, o5⟩ := kTz (ty := 23) (j := 3) (v := V) hb hVc.1 (by kernel_rfl) (by rw [hzG]; omega) hVc.2
  refine qBz (i := 12) (n := 0) rfl (by kernel_rfl) ?_
  refine wqz (ty := 23) (B := B) (off := 3) (v := V) (d := none) (by kernel_rfl) hst ?_
  refine ⟨trivial, wpAnyH_done (by kernel_rfl) ?_ _⟩
  rw [cS] at hb5
  have hk5 := o5.below w.heap.size w hBR.out.2.1 hk3
  have hR5 := hR.other o5 (Ne.symm hBR.out.1)
  have hY := (((o1.app o2).app o3).laterK (w' := W5) fun b hb => hk5.block b (hD b hb))
  have hown' : W3.ownsRow W2.heap.size 43 51 V (k + m + n3) (s1 ++ s2 ++ s3) := by simpa [psum, pcat] using hown
  generalize k + m + n3 = N at hown' hYl
  obtain ⟨Y, hYe⟩ : ∃ Y, Hid (Y = X1 ++ O ++ X3) := ⟨_, rfl⟩
  rw [← hYe.out] at hYs hYl hY
  generalize s1 ++ s2 ++ s3 = cs at hY hown'
  have hB5 : Hid (B < W5.heap.size ∧ R < W5.heap.size) := ⟨hb5.lt, hR5.lt⟩
  have hRB := hBR.out.2.2.1
  clear hown hcat o1 o2 o3 r1 r2 r3 hst hq hb hR
  rcases hown'.2 with ⟨rfl, h0⟩ | ⟨g, cp, cur, rfl, hgb, hgk, hNc, hcm, hcs, htk⟩
  ·subst h0
   have hz43 : (prog.info? 25).map (·.size) = some (#[.int .i64 t, .int .u64 ke, .int .u64 ro, .slice none 0 0] : Array Value).size := wcz
   have hG1 : (#[.int .i64 t, .int .u64 ke, .int .u64 ro, .slice none 0 0] : Array Value).all (·.oneCell') = true := by kernel_rfl
   have c3' : (#[.int .i64 t, .int .u64 ke, .int .u64 ro, .slice none 0 0] : Array Value)[3]? = some (.slice none 0 0) := rfl
   obtain ⟨G2, hG2⟩ : ∃ G2 : Array Value, G2 = #[.int .i64 t, .int .u64 ke, .int .u64 ro, .slice none 0 0] := ⟨_, rfl⟩
   have hzz : zW.size = G2.size := by rw [hG2]; rfl
   rw [← hG2] at hb5 hz43 hG1 c3'
   go_wp2_with (first
    | (with_reducible refine qaz (by kernel_rfl) _ _ rfl B _ rfl _ _ hb5 _ c3' ga3 ?_))
   go_loopw [26] (fun i wr => i = .int .i64 0 ∧ Blk wr B G2 25 ∧ Blk wr R zW 25 ∧ Below w.heap.size w wr) (fun _ _ => 0)
   case atStart => exact ⟨rfl, hb5, hR5, hk5⟩
   case round =>
    obtain ⟨rfl, hbx, hRx, hbw⟩ := hrel
    go_wp2_with (first
     | (with_reducible refine qlz rfl _ _ rfl B rfl _ hbx _ underlying25 rfl hz43 ?_)
     | ((with_reducible refine qbz rfl _ _ _ rfl R rfl _ rfl zW hRx hz43 hzz hG1 ?_); intro W9 hR9 o9))
    refine bodyPost_ret (v := .agg _) (y3z results72 rfl hR9 (hzz.symm.trans rfl)) rfl ?_
    have hk9 := o9.below w.heap.size w hRB hbw
    rw [hG2]
    have hl : Y = [] := List.eq_nil_of_length_eq_zero hYl.out
    exact ⟨none, 0, 0, rfl, by rw [← hYe.out, hl]; exact ObsD.nil _ _ _, hk9⟩
  ·have hz43 : (prog.info? 25).map (·.size) = some (#[.int .i64 t, .int .u64 ke, .int .u64 ro, .slice (some ⟨g, 0, none⟩) N cp] : Array Value).size := wcz
   have hG1 : (#[.int .i64 t, .int .u64 ke, .int .u64 ro, .slice (some ⟨g, 0, none⟩) N cp] : Array Value).all (·.oneCell') = true := by kernel_rfl
   have hzz : zW.size = (#[.int .i64 t, .int .u64 ke, .int .u64 ro, .slice (some ⟨g, 0, none⟩) N cp] : Array Value).size := rfl
   have c3' : (#[.int .i64 t, .int .u64 ke, .int .u64 ro, .slice (some ⟨g, 0, none⟩) N cp] : Array Value)[3]? = some (.slice (some ⟨g, 0, none⟩) N cp) := rfl
   have hgB : g ≠ B := by have := hBl.out; omega
   have hgR : g ≠ R := by have := hBl.out; omega
   have hgl : w.heap.size ≤ g := by have := hBl.out; omega
   have hrow : RowG (fun b => D0 b ∨ w.heap.size ≤ b) g R cp W5 Y cur := by
    refine ⟨(o5.block g hgB).trans hgk, hcs, fun i hi => ?_⟩
    obtain ⟨C, q1, q2⟩ := hY.at i hi
    refine ⟨C, q1.wide fun b hb => ⟨ltz (hD b hb) hk5.size, .inl hb, by have := hD b hb; omega, by have := hD b hb; omega⟩, fun j v hv => ?_⟩
    have hx := q2 j v hv
    rw [← htk, List.getElem?_take] at hx
    split at hx
    ·simpa using hx
    ·cases hx
   have hcm' : cp ≤ 9223372036854775807 := by unfold maxLen at hcm; omega
   have hYN : Y.length = N := hYl.out
   have hYH : Hid (Y.length = N) := hYN
   clear hY htk hgk hown' hcs hcm
   obtain ⟨G2, hG2⟩ : ∃ G2 : Array Value, Hid (G2 = #[.int .i64 t, .int .u64 ke, .int .u64 ro, .slice (some ⟨g, 0, none⟩) N cp]) := ⟨_, rfl⟩
   rw [← hG2.out] at hb5 hz43 hG1 c3' hzz
   go_wp2_with (first
    | (with_reducible refine qaz (by kernel_rfl) _ _ rfl B _ rfl _ _ hb5 _ c3' ga3 ?_))
   go_loopw [26] (fun i wr => ∃ (j : Nat) (cur : Array Value), j ≤ N ∧ i = .int .i64 j ∧ RowG (fun b => D0 b ∨ w.heap.size ≤ b) g R cp wr Y cur ∧ Blk wr B G2 25 ∧ Blk wr R zW 25 ∧ Below w.heap.size w wr) (fun i _ => N - (intOf i).toNat)
   case atStart => exact ⟨0, cur, Nat.zero_le _, rfl, hrow, hb5, hR5, hk5⟩
   case round =>
    clear hrow hb5 hR5 hk5 hk3 hk
    obtain ⟨j, cur, hjN1, rfl, hrow, hbx, hRx, hbw⟩ := hrel
    by_cases hjN : j < N
    ·have hjN' : (j : Int) < N := by omega
     have hbs := hbw.size
     obtain ⟨C, hC, hCc⟩ := hrow.2.2 j (by rw [hYN]; exact hjN)
     have hz := hC.size
     have hr : wr.rangeAt g (j * 51) C.toList := fun q v hv => by
      rw [hrow.1.cell]
      exact hCc q v (by simpa using hv)
     have hxs : Small (oat Y j) := hYs.out _ (wbz (by rw [hYN]; exact hjN))
     go_wp2_with (first
      | (with_reducible refine qGz (by kernel_rfl) 43 _ rfl g _ rfl C hr _ underlying43 (by kernel_rfl) (qez hz) ?_)
      | ((with_reducible refine qfz rfl _ rfl zC qzz ?_); intro R1 W6 hB6 hR6 hk6)
      | ((with_reducible refine qbz rfl _ _ _ rfl R1 rfl C rfl zC hR6 (qez hz) (qoz.trans hz.symm) hC.one ?_); intro W7 hR7 o7; have k7 := o7.below wr.heap.size wr (by have := hB6.out.1; omega) hk6))
     have hb7 := hbx.next k7
     have hrow7 := hrow.next k7
     have hRx7 := hRx.next k7
     refine PgM.region_out (S := fun W => Blk W B G2 25 ∧ Blk W R1 C 43) hmx ⟨hb7.next (brz _ _).drew, hR7.next (brz _ _).drew⟩ (fun hS => ?_)
     have hkd := (brz W7.heap.size W7).drew
     have hrow8 := hrow7.next hkd
     have hRx8 := hRx7.next hkd
     have k8 := btz k7 hkd
     have hR1g : Hid (R1 ≠ g ∧ R1 ≠ R) := by have h1 := hB6.out.1; have h2 := hrow.1.lt; have h3 := hRx.lt; refine (⟨?_, ?_⟩ : _ ∧ _) <;> omega
     generalize W7.drew = W8 at hS hrow8 hRx8 k8 ⊢
     clear hkd hrow7 hRx7 hb7 k7 hR6 hk6 hR7 o7 hB6
     refine qvz (by kernel_rfl) (fun _ _ _ _ _ h => h) hS [(0, none), (1, some (.slice (some ⟨g, 0, none⟩) N cp)), (2, none), (3, some (.agg C))] (obs := [.load 23 B 3 (.slice (some ⟨g, 0, none⟩) N cp), .load 43 R1 0 (.agg C)]) (n := 3) (by kernel_rfl) (by kernel_rfl) ⟨qhz (fun _ h => h.1) c3' isAgg23, qyz (fun _ h => h.2) underlying43 (by kernel_rfl) (qez hz), trivial⟩ ?_
     refine qnz (i := 4) (fuel := 2) (f := 104) (vs := [.agg C]) (d := some 35) (by kernel_rfl) (by kernel_rfl) (by kernel_rfl) call104 (jJz (ObD.next (hC.wide fun b hb => hb.1) k8) hxs) ?_
     rintro e W9 ⟨C', rfl, hC', hb9⟩
     have hS9 : Blk W9 B G2 25 ∧ Blk W9 R1 C 43 := ⟨hS.1.next hb9, hS.2.next hb9⟩
     refine ⟨_, rfl, hS9, ?_⟩
     refine qjz (by kernel_rfl) (fun _ _ _ _ _ h => h) hS9 [(5, some (.pointer (some ⟨g, 0 + j * 51, none⟩)))] (l' := #[tt, tt, tt, tt, tt, tt, ff]) (a' := { tmps := #[.agg G, .int .i64 k, .int .i64 f, .slice ao' m cap', .pointer (some ⟨B, 0, none⟩), undef, undef, undef, .pointer (some ⟨R, 0, none⟩), .int .i64 j, .pointer (some ⟨R1, 0, none⟩), .pointer (some ⟨B, 3, none⟩), .slice ao n cap, .int .i64 k, .slice ao k cap, .slice ao' m cap', .pointer (some ⟨B, 3, none⟩), .slice ao n cap, .int .i64 f, .slice a3 n3 cap3, .slice (some ⟨Bq, 0, none⟩) 3 3, .slice (some ⟨g, 0, none⟩) N cp, .pointer (some ⟨B, 3, none⟩), .pointer (some ⟨B, 3, none⟩), .slice (some ⟨g, 0, none⟩) N cp, .int .i64 N, .int .i64 j, .bool true, .int .i64 j, .pointer (some ⟨g, j * 51, none⟩), .agg C, .pointer (some ⟨B, 3, none⟩), .slice (some ⟨g, 0, none⟩) N cp, .int .i64 j, .agg C, .agg C', .pointer (some ⟨g, 0 + j * 51, none⟩), u37, undef], defers := [] }) (obs := [.ia 23 (.slice (some ⟨g, 0, none⟩) N cp) (.int .i64 j) (.pointer (some ⟨g, 0 + j * 51, none⟩))]) (n := 1) (by kernel_rfl) (by kernel_rfl) ⟨wDz hjN, trivial⟩ ?_
     have hrow9 := hrow8.next hb9
     have hz9 := hC'.size
     obtain ⟨W10, hst, hg10, o10⟩ := kSz (ty := 43) (o := 0 + j * 51) hrow9.1 (qez hz9) (by rw [hrow9.2.1, hz9]; have : (j + 1) * 51 ≤ cp * 51 := Nat.mul_le_mul_right _ (by omega); omega) hC'.one
     have hb10 := (hS.1.next hb9).other o10 (Ne.symm hgB)
     refine qBz (i := 6) (n := 0) rfl (by kernel_rfl) ?_
     refine wqz (ty := 43) (B := g) (off := 0 + j * 51) (v := .agg C') (d := none) (by kernel_rfl) hst ?_
     refine ⟨⟨hb10, (hS.2.next hb9).other o10 hR1g.out.1⟩, wpAnyH_done (by kernel_rfl) ?_ _⟩
     have hrow10 := hrow9.put (by rw [hYN]; exact hjN) (by rw [hYN]; exact hNc) (hC'.wide fun b hb => ⟨hb.2, .inr (by have := hb.1; have := k8.size; omega), by have := hb.1; have := hrow8.1.lt; omega, by have := hb.1; have := hRx8.lt; omega⟩) o10 hg10
     have hR10 := (hRx8.next hb9).other o10 (Ne.symm hgR)
     have hk10 := o10.below w.heap.size w hgl (hbw.trans ((btz k8 hb9).mono hbs))
     clear hS hrow8 hRx8 hrow9 hg10 hst hC' hb9
     go_wp2
     go_roundw
     case rel => exact ⟨j + 1, _, by omega, by go_num, hrow10, hb10, hR10, hk10⟩
     case measure => simp [intOf]; omega
    ·obtain rfl : j = N := by omega
     go_wp2_with (first
      | (with_reducible refine qlz rfl _ _ rfl B rfl _ hbx _ underlying25 rfl hz43 ?_)
      | ((with_reducible refine qbz rfl _ _ _ rfl R rfl _ rfl zW hRx hz43 hzz hG1 ?_); intro W9 hR9 o9))
     refine bodyPost_ret (v := .agg _) (y3z results72 rfl hR9 (hzz.symm.trans rfl)) rfl ?_
     have hk9 := o9.below w.heap.size w hRB hbw
     have ho := hrow.obs o9 hgR (by rw [hYN]; exact hNc) hcm'
     rw [hYN] at ho
     exact ⟨some ⟨g, 0, none⟩, _, cp, by rw [hG2.out], by rw [← hYe.out]; exact ho.wide (fun b hb => by rcases hb with ⟨q | q, r⟩; exact .inl q; exact .inr ⟨q, r⟩) (fun b hb => by rw [hb.1]; exact ⟨hgl, hb.2⟩), hk9⟩
 ·refine xOz (i := 1) (j := 6) (n := 7) rfl (by kernel_rfl) ?_ ?_
  ·refine xkz (ty := 23) (b := B) (off := 3) (v := .slice ao n cap) (d := some 12) (by kernel_rfl) (xFz hb c3 ga3) ?_
   refine ⟨trivial, ?_⟩
   refine qvz (by kernel_rfl) (fun _ _ _ _ _ h => h) trivial [(3, some (.slice ao k cap))] (obs := [.sl 23 (.slice ao n cap) (none) (some (.int .i64 k)) (none) (.slice ao k cap)]) (n := 6) (by kernel_rfl) (by kernel_rfl) ⟨fun W _ => j1z hkn hnc W, trivial⟩ ?_
   refine qBz (i := 6) (n := 5) rfl (by kernel_rfl) ?_
   refine xkz (ty := 23) (b := B) (off := 3) (v := .slice ao n cap) (d := some 17) (by kernel_rfl) (xFz hb c3 ga3) ?_
   refine ⟨trivial, ?_⟩
   refine qjz (by kernel_rfl) (fun _ _ _ _ _ h => h) trivial [(8, some (.slice a3 n3 cap3))] (l' := #[tt, tt, tt, tt, tt, tt, tt, tt, tt, ff, ff, ff, ff]) (a' := { tmps := #[.agg G, .int .i64 k, .int .i64 f, .slice ao' m cap', .pointer (some ⟨B, 0, none⟩), undef, undef, undef, .pointer (some ⟨R, 0, none⟩), undef, undef, .pointer (some ⟨B, 3, none⟩), .slice ao n cap, .int .i64 k, .slice ao k cap, .slice ao' m cap', .pointer (some ⟨B, 3, none⟩), .slice ao n cap, .int .i64 f, .slice a3 n3 cap3, undef, undef, undef, undef, undef, undef, undef, undef, undef, undef, undef, undef, undef, undef, undef, undef, undef, undef, undef], defers := [] }) (obs := [.sl 23 (.slice ao n cap) (some (.int .i64 f)) (none) (none) (.slice a3 n3 cap3)]) (n := 4) (by kernel_rfl) (by kernel_rfl) ⟨fun W _ => hsl W, trivial⟩ ?_
   exact rest _ _ ⟨rfl, hb, hR, hk⟩
  ·refine xkz (ty := 23) (b := B) (off := 3) (v := .slice ao n cap) (d := some 17) (by kernel_rfl) (xFz hb c3 ga3) ?_
   refine ⟨trivial, ?_⟩
   refine qvz (by kernel_rfl) (fun _ _ _ _ _ h => h) trivial [(8, some (.slice a3 n3 cap3))] (obs := [.sl 23 (.slice ao n cap) (some (.int .i64 f)) (none) (none) (.slice a3 n3 cap3)]) (n := 6) (by kernel_rfl) (by kernel_rfl) ⟨fun W _ => hsl W, trivial⟩ ?_
   refine qBz (i := 1) (n := 5) rfl (by kernel_rfl) ?_
   refine xkz (ty := 23) (b := B) (off := 3) (v := .slice ao n cap) (d := some 12) (by kernel_rfl) (xFz hb c3 ga3) ?_
   refine ⟨trivial, ?_⟩
   refine qjz (by kernel_rfl) (fun _ _ _ _ _ h => h) trivial [(3, some (.slice ao k cap))] (l' := #[tt, tt, tt, tt, tt, tt, tt, tt, tt, ff, ff, ff, ff]) (a' := { tmps := #[.agg G, .int .i64 k, .int .i64 f, .slice ao' m cap', .pointer (some ⟨B, 0, none⟩), undef, undef, undef, .pointer (some ⟨R, 0, none⟩), undef, undef, .pointer (some ⟨B, 3, none⟩), .slice ao n cap, .int .i64 k, .slice ao k cap, .slice ao' m cap', .pointer (some ⟨B, 3, none⟩), .slice ao n cap, .int .i64 f, .slice a3 n3 cap3, undef, undef, undef, undef, undef, undef, undef, undef, undef, undef, undef, undef, undef, undef, undef, undef, undef, undef, undef], defers := [] }) (obs := [.sl 23 (.slice ao n cap) (none) (some (.int .i64 k)) (none) (.slice ao k cap)]) (n := 4) (by kernel_rfl) (by kernel_rfl) ⟨fun W _ => j1z hkn hnc W, trivial⟩ ?_
   exact rest _ _ ⟨rfl, hb, hR, hk⟩
def pureV (o : Oper) (a : Act) : Option Value :=
 match o.op with
 | .move x => some (a.eval x)
 | .assign x => some (a.eval x)
 | .extract x i =>
  match a.eval x with
  | .tuple vs => vs[i]?
  | _ => none
 | _ => none
def pureH (md : Region.Mode) (ops : Array Oper) : List Nat → Array Bool → Act → Option (Array Bool × Act)
 | [], l, a => some (l, a)
 | i :: r, l, a =>
  match ops[i]? with
  | none => none
  | some o =>
   if (Region.free md ops l i && (Region.ready md ops l).contains i && Region.wanted o (yielded ops a.tmps)) = true then
    match pureV o a with
    | none => none
    | some v => pureH md ops r (l.setIfInBounds i true) (a.put o.dst v)
   else none
section
variable {P : Program} {ops : Array Oper} {Q : Exit → Act → World → Prop} {w : World} {md : Region.Mode} {S : World → Prop}
theorem u3z {o : Oper} {a : Act} {v : Value} (h : pureV o a = some v) (w : World) : (execOp a.eval o).run P w = .ok (.value v) w := by
 unfold pureV at h
 split at h
 ·rename_i x ho; cases h; unfold execOp; simp [ho]
 ·rename_i x ho; cases h; unfold execOp; simp [ho]
 ·rename_i x i ho
  split at h
  ·rename_i vs hx
   unfold execOp; simp [ho, hx, h, Instr.extract]
  ·cases h
 ·cases h
theorem wyz (hs : Region.noSelect ops = true) (hQ : ∀ c a d v w, Q (.panic c) (Act.put a (some d) v) w → Q (.panic c) a w) (hS : S w) : ∀ (is : List Nat) {l l' : Array Bool} {a a' : Act} {n m : Nat}, m = n + is.length → pureH md ops is l a = some (l', a') → wpAnyH P md ops Q S n l' a' w → wpAnyH P md ops Q S m l a w
 | [], l, l', a, a', n, m, hm, h, q => by cases h; subst hm; exact q
 | i :: r, l, l', a, a', n, m, hm, h, q => by
  subst hm
  unfold pureH at h
  split at h
  ·cases h
  ·rename_i o ho
   split at h
   ·rename_i hf
    rw [Bool.and_eq_true, Bool.and_eq_true] at hf
    split at h
    ·cases h
    ·rename_i v hv
     exact wpAnyH_take ho hs hf.1.1 hf.1.2 (fun c a w h => putQ hQ h) (.inl ⟨hf.2, fun w _ => u3z hv w⟩) hS (wyz hs hQ hS r rfl h q)
   ·cases h
end
section
variable {ops : Array Oper} {rest : List Oper} {op : Oper} {a : Act} {Q : Exit → Act → World → Prop} {w : World}
theorem wrz (hgd : op.guard = none) (x : Operand) (ho : op.op = .buildSlice 23 1 #[(0, x)]) (C : Array Value) (hx : a.eval x = .agg C) (hz : C.size = 51)
  (h : ∀ B W, Hid (w.heap.size = B ∧ W.heap.size = B + 1) → Blk W B C 43 → Below w.heap.size w W → wpList prog ops Q rest (a.put op.dst (.slice (some ⟨B, 0, none⟩) 1 1)) W) : wpList prog ops Q (op :: rest) a w :=
 wpList_plain hgd fun K hK => by
  have e : (#[(0, x)].map fun ((i : Nat), x) => (i, a.eval x)) = #[(0, Value.agg C)] := by simp [hx]
  unfold Oper.wp execOp
  simp only [ho, e, Sem.run_bind, run_bs1 hz, Result.andThen_ok]
  exact hK _ _ (h _ _ ⟨rfl, by simp⟩ (Blk.new w C 43) ((brz _ w).alloc (lrz _) _))
end
theorem gfz {W : World} {B : Nat} {C : Array Value} {x : Ob} {D : Nat → Prop} (h : Blk W B C 43) (k : ObD D W C x) : ObsD (LtN W) D W (some ⟨B, 0, none⟩) 1 1 [x] :=
 ⟨rfl, lrz _, ⟨by omega, fun e => by cases e⟩, fun _ => ⟨B, 0, rfl, h.lt, fun i hi => by
  obtain rfl : i = 0 := by omega
  exact ⟨C, k, by simpa using h.range0⟩⟩⟩
variable {D0 : Nat → Prop} {ao : Option Addr} {n cap : Nat}
theorem q1z {w w' : World} {l : List Ob} (h : ObsD (LtN w) D0 w ao n cap l) (hD : ∀ b, D0 b → b < w.heap.size) (k : Below w.heap.size w w') : ObsD (LtN w') D0 w' ao n cap l :=
 (ObsD.laterK h (fun b hb => k.block b (hD b hb)) (fun b hb => k.block b hb)).wide (fun _ hb => hb) (fun b hb => ltz hb k.size)
theorem drop_w {w : World} {t ke ro : Int} {X : List Ob} {i : Int} (hD : ∀ b, D0 b → b < w.heap.size) (h : ObsD (LtN w) D0 w ao n cap X) (hs : Srt X) (hn16 : n < 1024) (hsm : wtz X) : Calls prog 65 #[.agg #[.int .i64 t, .int .u64 ke, .int .u64 ro, .slice ao n cap], .int .u64 i] w fun e w' => ∃ ao2 n2 cap2, e = .returned (.agg #[.int .i64 t, .int .u64 ke, .int .u64 ro, .slice ao2 n2 cap2]) ∧ ObsD (New w w') (fun b => D0 b ∨ New w w' b) w' ao2 n2 cap2 (drpL X i) ∧ Below w.heap.size w w' := by
 have hn : Hid (X.length = n) := h.1
 have hsH : Hid (Srt X) := hs
 have hsmH : Hid (wtz X) := hsm
 have hle : ahd X i ≤ n := by rw [← hn.out]; exact jfz X i
 have hlf : fin X i ≤ n := by rw [← hn.out]; exact fin_le hs i
 have hwh := fun (W : World) (hk : Below w.heap.size w W) => kYz (i := i) (qqz (h.wide hD fun _ hb => hb) hk) hs (by omega)
 have c3 : (#[.int .i64 t, .int .u64 ke, .int .u64 ro, .slice ao n cap] : Array Value)[3]? = some (.slice ao n cap) := rfl
 have hzG : (prog.info? 25).map (·.size) = some (#[.int .i64 t, .int .u64 ke, .int .u64 ro, .slice ao n cap] : Array Value).size := wcz
 have hz2 : ∀ v, (prog.info? 25).map (·.size) = some (#[.int .i64 t, .int .u64 ke, .int .u64 ro, v] : Array Value).size := fun _ => wcz
 have hs2 : ∀ v, zW.size = (#[.int .i64 t, .int .u64 ke, .int .u64 ro, v] : Array Value).size := fun _ => rfl
 have h12 : ∀ ao n cap, (#[.int .i64 t, .int .u64 ke, .int .u64 ro, .slice ao n cap] : Array Value).all (·.oneCell') = true := fun _ _ _ => by kernel_rfl
 have hpt : Hid (X.take (ahd X i) ++ [] ++ X.drop (fin X i) = drpL X i) := u6z hs i
 generalize ahd X i = k at hle hpt hwh
 generalize fin X i = f at hlf hpt hwh
 have hex := fun (W : World) (hk : Below w.heap.size w W) => yFz (t := t) (ke := ke) (ro := ro) (fun b hb => ltz (hD b hb) hk.size) (q1z h hD hk) (ObsD.nil _ _ W) hle hlf (by omega) (by omega) hsm (fun _ h => by cases h)
 obtain ⟨G, hG⟩ : ∃ G : Array Value, G = #[.int .i64 t, .int .u64 ke, .int .u64 ro, .slice ao n cap] := ⟨_, rfl⟩
 rw [← hG] at c3 hzG hex
 rw [← hG]
 clear hG hs hsm
 go_enter func65, ntmps65
 go_wp2_with (first
  | (with_reducible refine qcz rfl _ _ rfl G rfl ?_; intro B W hB hb hk)
  | ((with_reducible refine qfz rfl _ rfl zW q0z ?_); intro R W1 hB1 hR hk1; replace hb := hb.next hk1; replace hk := btz hk hk1)
  | (with_reducible refine qlz rfl _ _ rfl B rfl _ hb _ underlying25 rfl hzG ?_)
  | (go_at_call 70; (with_reducible refine (xfz c3).mono ?_); rintro e w1 ⟨rfl, hb1⟩; replace hb := hb.next hb1; replace hR := hR.next hb1; replace hk := btz hk hb1)
  | (go_at_call 71; (with_reducible refine (hwh _ hk).mono ?_); rintro e w2 ⟨rfl, hb2⟩; replace hb := hb.next hb2; replace hR := hR.next hb2; replace hk := btz hk hb2)
  | (go_at_call 72; (with_reducible refine (hex _ hk).mono ?_); rintro e w3 ⟨ao2, n2, cap2, rfl, hO, hb3⟩; replace hR := hR.next hb3; have hkf := btz hk hb3)
  | ((with_reducible refine qbz rfl _ _ _ rfl R rfl _ rfl zW hR (hz2 _) (hs2 _) (h12 _ _ _) ?_); intro W4 hR4 o4))
 have hRl : w.heap.size ≤ R ∧ R < w2.heap.size := by have := hB.out; have := hB1.out; have := hb1.size; have := hb2.size; omega
 refine bodyPost_ret (v := .agg _) (y3z results65 rfl hR4 rfl) rfl ?_
 refine ⟨ao2, n2, cap2, rfl, ?_, o4.below _ _ hRl.1 hkf⟩
 rw [← hpt.out]
 have hsz := hk.size
 exact (hO.laterK (fun b hb => o4.block b (by rcases hb with q | q; have := hD b q; omega; have := q.1; omega)) (fun b hb => o4.block b (by have := hb.1; omega))).wide (fun b hb => by rcases hb with q | q; exact .inl q; exact .inr ⟨by have := q.1; omega, by rw [o4.size]; exact q.2⟩) (fun b hb => ⟨by have := hb.1; omega, by rw [o4.size]; exact hb.2⟩)
theorem put_w {w : World} {t ke ro : Int} {X : List Ob} {C : Array Value} {x : Ob} (hD : ∀ b, D0 b → b < w.heap.size) (h : ObsD (LtN w) D0 w ao n cap X) (hs : Srt X) (hn16 : n < 1024) (hsm : wtz X) (hx : ObD D0 w C x) (hxs : Small x) : Calls prog 41 #[.agg #[.int .i64 t, .int .u64 ke, .int .u64 ro, .slice ao n cap], .agg C] w fun e w' => ∃ ao2 n2 cap2, e = .returned (.agg #[.int .i64 t, .int .u64 ke, .int .u64 ro, .slice ao2 n2 cap2]) ∧ ObsD (New w w') (fun b => D0 b ∨ New w w' b) w' ao2 n2 cap2 (puR X x) ∧ Below w.heap.size w w' := by
 have hmx : prog.follows .mixedOrders = true := by kernel_rfl
 have ga3 := isAgg23
 have d0 := hx.id
 have hz := hx.size
 have hn : Hid (X.length = n) := h.1
 have hsH : Hid (Srt X) := hs
 have hsmH : Hid (wtz X) := hsm
 have hle : ahd X x.id ≤ n := by rw [← hn.out]; exact jfz X x.id
 have hlf : fin X x.id ≤ n := by rw [← hn.out]; exact fin_le hs x.id
 have hwh := fun (W : World) (hk : Below w.heap.size w W) => kYz (i := x.id) (qqz (h.wide hD fun _ hb => hb) hk) hs (by omega)
 have c3 : (#[.int .i64 t, .int .u64 ke, .int .u64 ro, .slice ao n cap] : Array Value)[3]? = some (.slice ao n cap) := rfl
 have hzG : (prog.info? 25).map (·.size) = some (#[.int .i64 t, .int .u64 ke, .int .u64 ro, .slice ao n cap] : Array Value).size := wcz
 have hz2 : ∀ v, (prog.info? 25).map (·.size) = some (#[.int .i64 t, .int .u64 ke, .int .u64 ro, v] : Array Value).size := fun _ => wcz
 have hs2 : ∀ v, zW.size = (#[.int .i64 t, .int .u64 ke, .int .u64 ro, v] : Array Value).size := fun _ => rfl
 have h12 : ∀ ao n cap, (#[.int .i64 t, .int .u64 ke, .int .u64 ro, .slice ao n cap] : Array Value).all (·.oneCell') = true := fun _ _ _ => by kernel_rfl
 have hpt : Hid (X.take (ahd X x.id) ++ [x] ++ X.drop (fin X x.id) = puR X x) := u5z hs x
 generalize ahd X x.id = k at hle hpt hwh
 generalize fin X x.id = f at hlf hpt hwh
 have hex := fun (W : World) (hk : Below w.heap.size w W) (a1 : Option Addr) (hO : ObsD (LtN W) D0 W a1 1 1 [x]) => yFz (t := t) (ke := ke) (ro := ro) (fun b hb => ltz (hD b hb) hk.size) (q1z h hD hk) hO hle hlf (by omega) (by omega) hsm (fun y h => by rw [List.mem_singleton] at h; rw [h]; exact hxs)
 obtain ⟨G, hG⟩ : ∃ G : Array Value, G = #[.int .i64 t, .int .u64 ke, .int .u64 ro, .slice ao n cap] := ⟨_, rfl⟩
 rw [← hG] at c3 hzG hex
 rw [← hG]
 clear hG hs hsm
 go_enter func41, ntmps41
 go_wp2_with (first
  | (with_reducible refine qcz rfl _ _ rfl G rfl ?_; intro B W hB hb hk)
  | (with_reducible refine qcz rfl _ _ rfl C rfl ?_; intro B2 W2 hB2 hb2 hk2; replace hb := hb.next hk2; replace hk := btz hk hk2)
  | ((with_reducible refine qfz rfl _ rfl zW q0z ?_); intro R W1 hB1 hR hk1; replace hb := hb.next hk1; replace hb2 := hb2.next hk1; replace hk := btz hk hk1)
  | (with_reducible refine qlz rfl _ _ rfl B rfl _ hb _ underlying25 rfl hzG ?_))
 have hRl : w.heap.size ≤ R ∧ R < W1.heap.size ∧ w.heap.size ≤ B ∧ w.heap.size ≤ B2 := by have := hB.out; have := hB1.out; have := hB2.out; omega
 refine PgM.region_out (S := fun W => Blk W B G 25 ∧ Blk W B2 C 43) hmx ⟨hb.next (brz _ _).drew, hb2.next (brz _ _).drew⟩ (fun hS => ?_)
 have hkd := (brz W1.heap.size W1).drew
 replace hR := hR.next hkd
 replace hk := btz hk hkd
 replace hRl : w.heap.size ≤ R ∧ R < W1.drew.heap.size := by have := hkd.size; omega
 generalize W1.drew = W5 at hS hR hk hRl ⊢
 clear hkd hb hb2 hB hB1 hB2 hk1 hk2
 refine qvz (by kernel_rfl) (fun _ _ _ _ _ h => h) hS [(0, some (.agg G)), (2, none), (3, some (.int .u64 x.id))] (obs := [.load 25 B 0 (.agg G), .load 22 B2 0 (.int .u64 x.id)]) (n := 7) (by kernel_rfl) (by kernel_rfl) ⟨qyz (fun _ h => h.1) underlying25 (by kernel_rfl) hzG, qhz (fun _ h => h.2) d0 isAgg22, trivial⟩ ?_
 refine qnz (i := 1) (fuel := 6) (f := 70) (vs := [.agg G]) (d := some 9) (by kernel_rfl) (by kernel_rfl) (by kernel_rfl) call70 (xfz c3) ?_
 rintro e W6 ⟨rfl, hb6⟩
 refine ⟨_, rfl, ⟨hS.1.next hb6, hS.2.next hb6⟩, ?_⟩
 replace hS : Blk W6 B G 25 ∧ Blk W6 B2 C 43 := ⟨hS.1.next hb6, hS.2.next hb6⟩
 replace hR := hR.next hb6
 replace hk := btz hk hb6
 refine qnz (i := 4) (fuel := 5) (f := 71) (vs := [.agg #[.slice ao n cap, .func (.func 101) #[] #[]], .int .u64 x.id]) (d := some 12) (by kernel_rfl) (by kernel_rfl) (by kernel_rfl) call71 (hwh _ hk) ?_
 rintro e W7 ⟨rfl, hb7⟩
 refine ⟨_, rfl, ⟨hS.1.next hb7, hS.2.next hb7⟩, ?_⟩
 replace hS : Blk W7 B G 25 ∧ Blk W7 B2 C 43 := ⟨hS.1.next hb7, hS.2.next hb7⟩
 replace hR := hR.next hb7
 replace hk := btz hk hb7
 replace hRl : w.heap.size ≤ R ∧ R < W7.heap.size := ⟨hRl.1, hR.lt⟩
 refine wyz (by kernel_rfl) (fun _ _ _ _ _ h => h) hS [5, 6, 7, 8, 9] (l' := #[tt, tt, tt, tt, tt, tt, tt, tt, tt, tt]) (a' := { tmps := #[.agg G, .agg C, .pointer (some ⟨B, 0, none⟩), .pointer (some ⟨B2, 0, none⟩), .pointer (some ⟨R, 0, none⟩), .int .i64 k, .int .i64 f, .tuple #[.int .i64 k, .int .i64 f], .agg G, .agg #[.slice ao n cap, .func (.func 101) #[] #[]], .pointer (some ⟨B2, 0, none⟩), .int .u64 x.id, .tuple #[.int .i64 k, .int .i64 f], .int .i64 k, .int .i64 f, ud, ud, ud, ud, ud, ud, ud, ud, ud, ud, ud, ud, ud, ud, ud, ud, ud, ud, undef], defers := [] }) (n := 0) (by kernel_rfl) (by kernel_rfl) ?_
 refine wpAnyH_done (by kernel_rfl) ?_ _
 obtain ⟨hb, hb2⟩ := hS
 clear hb6 hb7 hwh
 go_wp2_with (first
  | go_skip
  | (with_reducible refine qaz (by kernel_rfl) _ _ rfl B _ rfl _ _ hb _ c3 ga3 ?_)
  | ((with_reducible refine qgz (by kernel_rfl) .eql _ _ _ _ rfl _ _ rfl rfl (quz _ _ _ _ _ _) ?_ ?_) <;> intro hq)
  | ((with_reducible refine qgz (by kernel_rfl) .geq _ _ _ _ rfl _ _ rfl rfl (wuz _ _ _ _ _ _) ?_ ?_) <;> first | (intro hq2; exfalso; have h9 : (1024 : Int) ≤ n := hq2.out; omega) | (intro hq2))
  | (with_reducible refine qlz rfl _ _ rfl B rfl _ hb _ underlying25 rfl hzG ?_)
  | (with_reducible refine qlz rfl _ _ rfl B2 rfl _ hb2 _ underlying43 rfl (qez hz) ?_)
  | ((with_reducible refine wrz rfl _ rfl C rfl hz ?_); intro Bq W8 hBq hbq hk8; replace hR := hR.next hk8; replace hk := btz hk hk8; have hO1 := gfz hbq (hx.laterK fun b hb => hk.block b (hD b hb)))
  | (go_at_call 72; (with_reducible refine (hex _ hk _ hO1).mono ?_); rintro e w3 ⟨ao2, n2, cap2, rfl, hO, hb3⟩; replace hR := hR.next hb3; have hkf := btz hk hb3)
  | ((with_reducible refine qbz rfl _ _ _ rfl R rfl _ rfl zW hR (hz2 _) (hs2 _) (h12 _ _ _) ?_); intro W4 hR4 o4))
 all_goals
  have hRl' : w.heap.size ≤ R ∧ R < W8.heap.size := ⟨hRl.1, ltz hRl.2 hk8.size⟩
  refine bodyPost_ret (v := .agg _) (y3z results41 rfl hR4 rfl) rfl ?_
  refine ⟨ao2, n2, cap2, rfl, ?_, o4.below _ _ hRl.1 hkf⟩
  rw [← hpt.out]
  have hsz := hk.size
  exact (hO.laterK (fun b hb => o4.block b (by rcases hb with q | q; have := hD b q; omega; have := q.1; omega)) (fun b hb => o4.block b (by have := hb.1; omega))).wide (fun b hb => by rcases hb with q | q; exact .inl q; exact .inr ⟨by have := q.1; omega, by rw [o4.size]; exact q.2⟩) (fun b hb => ⟨by have := hb.1; omega, by rw [o4.size]; exact hb.2⟩)
section
variable {ops : Array Oper} {rest : List Oper} {op : Oper} {a : Act} {Q : Exit → Act → World → Prop} {w : World}
theorem qTz (hw : Region.wanted op (yielded ops a.tmps) = true) (ty : TypeId) (x : Operand) (ho : op.op = .load ty x) (b o : Nat) (hx : a.eval x = .pointer (some ⟨b, o, none⟩)) (v : Value) (hv : w.cell? ⟨b, o, none⟩ = some v) (hg : ∀ w, (isAgg ty).run prog w = .ok false w) (h : wpList prog ops Q rest (a.put op.dst v) w) : wpList prog ops Q (op :: rest) a w := by
 refine q9z hw ?_ h
 have : (loadVar ty ⟨b, o, none⟩).run prog w = .ok v w := by simp [loadVar, hg, hv]
 unfold execOp
 simp [ho, hx, Instr.loadAt, Instr.sureAddr, this]
end
theorem qMz {w w' : World} {base : Nat} {e : TypeId} {k : Nat} {v : Value} {n : Nat} {xs : List Value} (h : w.ownsRow base e k v n xs) (q : Below w.heap.size w w') : w'.ownsRow base e k v n xs := by
 refine ⟨h.1, ?_⟩
 rcases h.2 with r | ⟨g, c, cur, e1, e2, e3, e4⟩
 ·exact .inl r
 ·exact .inr ⟨g, c, cur, e1, e2, (q.block g (Array.getElem?_eq_some_iff.1 e3).1).trans e3, e4⟩
variable {C : Array Value}
theorem xQz {W : World} {B : Nat} (h : Blk W B C 43) (hz : C.size = 51) : RowC 51 (LtN W) W (some ⟨B, 0, none⟩) 1 1 C.toList :=
 ⟨by simpa using hz, lrz _, ⟨by omega, fun e => by cases e⟩, fun _ => ⟨B, 0, rfl, h.lt, h.range0⟩⟩
variable {w : World}
theorem xVz {D : Nat → Prop} {x : Ob} (h : ObD D w C x) : ∀ u ∈ C.toList, u.oneCell' = true := (RowO.single h).one
variable {ao : Option Addr} {n cap : Nat}
theorem vTz {E D : Nat → Prop} {l : List Ob} (h : ObsD E D w ao n cap l) {i : Nat} (hi : i < n) : ∃ b off C, ao = some ⟨b, off, none⟩ ∧ E b ∧ ObD D w C (oat l i) ∧ w.rangeAt b (off + i * 51) C.toList := by
 obtain ⟨b, off, e, hb, hc⟩ := h.2.2.2 (by omega)
 obtain ⟨C, hC, hr⟩ := hc i hi
 exact ⟨b, off, C, e, hb, hC, hr⟩
variable {X : List Ob}
theorem gFz {i : Int} {k : Nat} (h : ∀ q, q < k → (oat X q).id ≠ i) (hk : k < X.length) (e : (oat X k).id = i) : fnd X i = some (oat X k) := by
 unfold fnd
 rw [List.find?_eq_some_iff_getElem]
 refine ⟨by simpa using e, k, hk, (qKz hk).symm, fun j hj => ?_⟩
 have := h j hj
 rw [qKz (by omega)] at this
 simpa using this
variable {t ke ro : Int}
theorem rfind_d {i : Int} {D0 : Nat → Prop} (hD : ∀ b, D0 b → b < w.heap.size) (h : ObsD (LtN w) D0 w ao n cap X) : Calls prog 17 #[.agg #[.int .i64 t, .int .u64 ke, .int .u64 ro, .slice ao n cap], .int .u64 i] w fun e w' => ∃ C', e = .returned (.tuple #[.agg C', .bool (fnd X i).isSome]) ∧ ObD D0 w' C' ((fnd X i).getD zOb) ∧ Below w.heap.size w w' := by
 have hn : Hid (X.length = n) := h.1
 have hnc := h.2.1
 have hcm := h.2.2.1.1
 have ga1 := isAgg22
 have ga3 := isAgg23
 have c3 : (#[.int .i64 t, .int .u64 ke, .int .u64 ro, .slice ao n cap] : Array Value)[3]? = some (.slice ao n cap) := rfl
 have hzG : (prog.info? 25).map (·.size) = some (#[.int .i64 t, .int .u64 ke, .int .u64 ro, .slice ao n cap] : Array Value).size := wcz
 obtain ⟨G, hG⟩ : ∃ G : Array Value, G = #[.int .i64 t, .int .u64 ke, .int .u64 ro, .slice ao n cap] := ⟨_, rfl⟩
 rw [← hG] at c3 hzG
 rw [← hG]
 clear hG
 go_enter func17, ntmps17
 go_wp2_with (first
  | (with_reducible refine qcz rfl _ _ rfl G rfl ?_; intro B W hB hb hk)
  | ((with_reducible refine qfz rfl _ rfl zC qzz ?_); intro R W1 hB1 hR hk1; replace hb := hb.next hk1; replace hk := btz hk hk1))
 have hRl : Hid (w.heap.size ≤ R) := by have := hB.out; have := hB1.out; show _ ≤ _; omega
 clear hB hB1 hk1
 go_loopw [6] (fun j wr => ∃ k : Nat, k ≤ n ∧ j = .int .i64 k ∧ Hid (∀ q, q < k → (oat X q).id ≠ i) ∧ Blk wr B G 25 ∧ Blk wr R zC 43 ∧ Below w.heap.size w wr) (fun j _ => n - (intOf j).toNat)
 case atStart => exact ⟨0, Nat.zero_le _, rfl, fun q hq => absurd hq (by omega), hb, hR, hk⟩
 case round =>
  clear hb hR hk
  obtain ⟨k, hk, rfl, hal, hb, hR, hbw⟩ := hrel
  have hbs := hbw.size
  by_cases hkn : k < n
  ·obtain ⟨b, off, C, rfl, hbb, hC, hr⟩ := vTz (q1z h hD hbw) hkn
   have hkn' : (k : Int) < n := by omega
   have hz := hC.size
   have hid : wr.cell? ⟨b, off + k * 51, none⟩ = some (.int .u64 (oat X k).id) := by simpa using hr 0 _ (by simpa using hC.id)
   go_wp2_with (first
    | (with_reducible refine qaz (by kernel_rfl) _ _ rfl B _ rfl _ _ hb _ (by assumption) (by assumption) ?_)
    | (with_reducible refine qTz (by kernel_rfl) _ _ rfl b _ rfl _ hid ga1 ?_)
    | ((with_reducible refine qgz (by kernel_rfl) .eql _ _ _ _ rfl _ _ rfl rfl (quz _ _ _ _ _ _) ?_ ?_) <;> intro hq)
    | (with_reducible refine qGz (by kernel_rfl) 43 _ rfl b _ rfl C hr _ underlying43 (by kernel_rfl) (qez hz) ?_)
    | ((with_reducible refine qbz rfl _ _ _ rfl R rfl C rfl zC hR (qez hz) (qoz.trans hz.symm) hC.one ?_); intro W4 hR4 o4))
   ·refine bodyPost_ret (v := .tuple #[.agg C, .bool true]) (xGz results17 rfl rfl hR4 hz) rfl ?_
    rw [gFz hal.out (by rw [hn.out]; exact hkn) hq.out]
    have hRo := hRl.out
    exact ⟨C, rfl, hC.laterK fun b hb => o4.block b (by have := hD b hb; omega), o4.below _ _ hRo hbw⟩
   ·go_roundw
    case rel => exact ⟨k + 1, by omega, by go_num, wzz hal.out hq.out, hb, hR, hbw⟩
    case measure => simp [intOf]; omega
  ·obtain rfl : k = n := by omega
   go_wp2_with (first
    | (with_reducible refine qaz (by kernel_rfl) _ _ rfl B _ rfl _ _ hb _ (by assumption) (by assumption) ?_)
    | ((with_reducible refine qLz rfl _ [] rfl zC ?hf ?_); (case hf => exact gTz))
    | ((with_reducible refine qbz rfl _ _ _ rfl R rfl zC rfl zC hR (qez qoz) rfl (zC_d (fun _ => True) w).one ?_); intro W4 hR4 o4))
   have hx : fnd X i = none := klz.2 fun x hx => by
    obtain ⟨q, hq, rfl⟩ := List.getElem_of_mem hx
    have := hal.out q (by rw [← hn.out]; exact hq)
    rwa [qKz hq] at this
   refine bodyPost_ret (v := .tuple #[.agg zC, .bool false]) (xGz results17 rfl rfl hR4 qoz) rfl ?_
   rw [hx]
   exact ⟨zC, rfl, zC_d _ _, o4.below _ _ hRl.out hbw⟩
theorem rsame_w {t ke ro t' ke' ro' : Int} {ao ao' : Option Addr} {n cap n' cap' : Nat} {X Y : List Ob} (h : Obs w ao n cap X) (h' : Obs w ao' n' cap' Y) : Asks 16 #[.agg #[.int .i64 t, .int .u64 ke, .int .u64 ro, .slice ao n cap], .agg #[.int .i64 t', .int .u64 ke', .int .u64 ro', .slice ao' n' cap']] ((⟨t, ke, ro, X⟩ : Wd) = ⟨t', ke', ro', Y⟩) w := by
 have hmx : prog.follows .mixedOrders = true := by kernel_rfl
 have hn : Hid (X.length = n) := h.1
 have hn' : Hid (Y.length = n') := h'.1
 have hnc := h.2.1
 have hcm := h.2.2.1.1
 have hnc' := h'.2.1
 have hcm' := h'.2.2.1.1
 have ga1 := isAgg22
 have ga2 := isAgg3
 have ga3 := isAgg23
 have c0 : (#[.int .i64 t, .int .u64 ke, .int .u64 ro, .slice ao n cap] : Array Value)[0]? = some (.int .i64 t) := rfl
 have c1 : (#[.int .i64 t, .int .u64 ke, .int .u64 ro, .slice ao n cap] : Array Value)[1]? = some (.int .u64 ke) := rfl
 have c2 : (#[.int .i64 t, .int .u64 ke, .int .u64 ro, .slice ao n cap] : Array Value)[2]? = some (.int .u64 ro) := rfl
 have c3 : (#[.int .i64 t, .int .u64 ke, .int .u64 ro, .slice ao n cap] : Array Value)[3]? = some (.slice ao n cap) := rfl
 have d0 : (#[.int .i64 t', .int .u64 ke', .int .u64 ro', .slice ao' n' cap'] : Array Value)[0]? = some (.int .i64 t') := rfl
 have d1 : (#[.int .i64 t', .int .u64 ke', .int .u64 ro', .slice ao' n' cap'] : Array Value)[1]? = some (.int .u64 ke') := rfl
 have d2 : (#[.int .i64 t', .int .u64 ke', .int .u64 ro', .slice ao' n' cap'] : Array Value)[2]? = some (.int .u64 ro') := rfl
 have d3 : (#[.int .i64 t', .int .u64 ke', .int .u64 ro', .slice ao' n' cap'] : Array Value)[3]? = some (.slice ao' n' cap') := rfl
 obtain ⟨G, hG⟩ : ∃ G : Array Value, G = #[.int .i64 t, .int .u64 ke, .int .u64 ro, .slice ao n cap] := ⟨_, rfl⟩
 obtain ⟨G', hG'⟩ : ∃ G' : Array Value, G' = #[.int .i64 t', .int .u64 ke', .int .u64 ro', .slice ao' n' cap'] := ⟨_, rfl⟩
 rw [← hG] at c0 c1 c2 c3
 rw [← hG'] at d0 d1 d2 d3
 rw [← hG, ← hG']
 clear hG hG'
 unfold Asks
 go_enter func16, ntmps16
 go_wp2_with (first
  | go_skip
  | (with_reducible refine qcz rfl _ _ rfl G rfl ?_; intro B W hB hb hk)
  | (with_reducible refine qcz rfl _ _ rfl G' rfl ?_; intro B' W' hB' hb' hk'; replace hb := hb.next hk'; replace hk := btz hk hk'; clear hk')
  | (with_reducible refine qaz (by kernel_rfl) _ _ rfl B _ rfl _ _ hb _ (by assumption) (by assumption) ?_)
  | (with_reducible refine qaz (by kernel_rfl) _ _ rfl B' _ rfl _ _ hb' _ (by assumption) (by assumption) ?_)
  | ((with_reducible refine qgz (by kernel_rfl) .neq _ _ _ _ rfl _ _ rfl rfl (q2z _ _ _ _ _ _) ?_ ?_) <;> intro hq))
 all_goals (try (go_ret; first
  | (have hl : ¬ t = t' := Hid.out (by assumption); refine ⟨false, rfl, ⟨fun e => absurd e Bool.false_ne_true, fun e => ?_⟩, hk⟩; exact absurd (congrArg Wd.time e) hl)
  | (have hl : ¬ ke = ke' := Hid.out (by assumption); refine ⟨false, rfl, ⟨fun e => absurd e Bool.false_ne_true, fun e => ?_⟩, hk⟩; exact absurd (congrArg Wd.key e) hl)
  | (have hl : ¬ ro = ro' := Hid.out (by assumption); refine ⟨false, rfl, ⟨fun e => absurd e Bool.false_ne_true, fun e => ?_⟩, hk⟩; exact absurd (congrArg Wd.root e) hl)
  | (have hl : ¬ (n : Int) = n' := Hid.out (by assumption); refine ⟨false, rfl, ⟨fun e => absurd e Bool.false_ne_true, fun e => ?_⟩, hk⟩; have := congrArg (fun z => z.obs.length) e; simp only [] at this; exact absurd (by rw [← hn.out, ← hn'.out, this]) hl)
  | fail))
 have et : t = t' := Classical.not_not.1 (Hid.out (by assumption))
 have ek : ke = ke' := Classical.not_not.1 (Hid.out (by assumption))
 have er : ro = ro' := Classical.not_not.1 (Hid.out (by assumption))
 have en : (n : Int) = n' := Classical.not_not.1 (Hid.out (by assumption))
 have hnn : n = n' := by omega
 subst hnn
 have hes : Hid (t = t' ∧ ke = ke' ∧ ro = ro') := ⟨et, ek, er⟩
 clear et ek er en
 clear hB hB'
 go_loopw [5] (fun i wr => ∃ k : Nat, k ≤ n ∧ i = .int .i64 k ∧ Hid (∀ j, j < k → oat X j = oat Y j) ∧ Blk wr B G 25 ∧ Blk wr B' G' 25 ∧ Below w.heap.size w wr) (fun i _ => n - (intOf i).toNat)
 case atStart => exact ⟨0, Nat.zero_le _, rfl, fun j hj => absurd hj (by omega), hb, hb', hk⟩
 case round =>
  clear hb hb' hk
  obtain ⟨k, hk, rfl, hal, hb, hb', hbw⟩ := hrel
  have hbs := hbw.size
  by_cases hkn : k < n
  ·obtain ⟨b, off, C, rfl, hbb, hC, hr⟩ := wHz (qqz h hbw) hkn
   obtain ⟨b', off', C', rfl, hbb', hC', hr'⟩ := wHz (qqz h' hbw) hkn
   have hkn' : (k : Int) < n := by omega
   have hz := hC.size
   have hz' := hC'.size
   go_wp2_with (first
    | (with_reducible refine qaz (by kernel_rfl) _ _ rfl B _ rfl _ _ hb _ (by assumption) (by assumption) ?_))
   refine PgM.region_out (S := fun W => Blk W B G 25 ∧ Blk W B' G' 25 ∧ W.rangeAt b (off + k * 51) C.toList ∧ W.rangeAt b' (off' + k * 51) C'.toList) hmx ⟨hb.next (brz _ _).drew, hb'.next (brz _ _).drew, qmz hr ((brz _ wr).drew.block b hbb), qmz hr' ((brz _ wr).drew.block b' hbb')⟩ (fun hS => ?_)
   have hkd := (brz wr.heap.size wr).drew
   have hC0 := hC.next hkd
   have hC0' := hC'.next hkd
   have hb1 := hbw.trans (hkd.mono hbs)
   have hbb1 : b < wr.drew.heap.size := ltz hbb hkd.size
   have hbb1' : b' < wr.drew.heap.size := ltz hbb' hkd.size
   generalize wr.drew = W1 at hS hC0 hC0' hb1 hbb1 hbb1' ⊢
   clear hkd
   refine qvz (by kernel_rfl) (fun _ _ _ _ _ h => h) hS [(0, none), (1, some (.slice (some ⟨b, off, none⟩) n cap)), (2, none), (3, some (.pointer (some ⟨b, off + k * 51, none⟩))), (4, some (.agg C)), (5, none), (6, some (.slice (some ⟨b', off', none⟩) n cap')), (7, none), (8, some (.pointer (some ⟨b', off' + k * 51, none⟩))), (9, some (.agg C'))] (obs := [.load 23 B 3 (.slice (some ⟨b, off, none⟩) n cap), .ia 23 (.slice (some ⟨b, off, none⟩) n cap) (.int .i64 k) (.pointer (some ⟨b, off + k * 51, none⟩)), .load 43 b (off + k * 51) (.agg C), .load 23 B' 3 (.slice (some ⟨b', off', none⟩) n cap'), .ia 23 (.slice (some ⟨b', off', none⟩) n cap') (.int .i64 k) (.pointer (some ⟨b', off' + k * 51, none⟩)), .load 43 b' (off' + k * 51) (.agg C')]) (n := 2) (by kernel_rfl) (by kernel_rfl) ⟨qhz (fun _ h => h.1) c3 isAgg23, wDz hkn, wnz (fun _ h => h.2.2.1) underlying43 (by kernel_rfl) (qez hz), qhz (fun _ h => h.2.1) d3 isAgg23, wDz hkn, wnz (fun _ h => h.2.2.2) underlying43 (by kernel_rfl) (qez hz'), trivial⟩ ?_
   refine wNz (i := 10) (fuel := 1) (f := 46) (vs := [.agg C, .agg C']) (d := some 51) (by kernel_rfl) (by kernel_rfl) (by kernel_rfl) call46 (q3z hC0 hC0') (fun W2 hk2 => (⟨hS.1.next hk2, hS.2.1.next hk2, qmz hS.2.2.1 (hk2.block b hbb1), qmz hS.2.2.2 (hk2.block b' hbb1')⟩ : Blk W2 B G 25 ∧ Blk W2 B' G' 25 ∧ W2.rangeAt b (off + k * 51) C.toList ∧ W2.rangeAt b' (off' + k * 51) C'.toList)) ?_ ?_
   ·intro W2 hq hk2 hS2
    have hb2 := btz hb1 hk2
    refine qjz (by kernel_rfl) (fun _ _ _ _ _ h => h) hS2 [(11, none)] (l' := #[tt, tt, tt, tt, tt, tt, tt, tt, tt, tt, tt, tt]) (a' := { tmps := #[.agg G, .agg G', .pointer (some ⟨B, 0, none⟩), .pointer (some ⟨B', 0, none⟩), u4, .int .i64 k, .pointer (some ⟨B, 0, none⟩), .int .i64 t, .pointer (some ⟨B', 0, none⟩), .int .i64 t', .bool false, .bool false, .pointer (some ⟨B, 1, none⟩), .int .u64 ke, .pointer (some ⟨B', 1, none⟩), .int .u64 ke', .bool false, .bool false, .bool false, .pointer (some ⟨B, 2, none⟩), .int .u64 ro, .pointer (some ⟨B', 2, none⟩), .int .u64 ro', .bool false, .bool false, .bool false, .pointer (some ⟨B, 3, none⟩), .slice (some ⟨b, off, none⟩) n cap, .int .i64 n, .pointer (some ⟨B', 3, none⟩), .slice (some ⟨b', off', none⟩) n cap', .int .i64 n, .bool false, .bool false, .int .i64 k, .pointer (some ⟨B, 3, none⟩), .slice (some ⟨b, off, none⟩) n cap, .int .i64 n, .bool true, u39, u40, .pointer (some ⟨B, 3, none⟩), .slice (some ⟨b, off, none⟩) n cap, .int .i64 k, .pointer (some ⟨b, off + k * 51, none⟩), .agg C, .pointer (some ⟨B', 3, none⟩), .slice (some ⟨b', off', none⟩) n cap', .int .i64 k, .pointer (some ⟨b', off' + k * 51, none⟩), .agg C', .bool true, .bool false], defers := [] }) (obs := []) (n := 0) (by kernel_rfl) (by kernel_rfl) trivial ?_
    refine wpAnyH_done (by kernel_rfl) ?_ _
    have hx1 := hS2.1
    have hx2 := hS2.2.1
    clear hS hS2 hC0 hC0'
    go_wp2
    go_roundw
    case rel => exact ⟨k + 1, by omega, by go_num, wzz hal.out hq.out, hx1, hx2, hb2⟩
    case measure => simp [intOf]; omega
   ·intro W2 hq hk2 hS2
    have hb2 := btz hb1 hk2
    refine qjz (by kernel_rfl) (fun _ _ _ _ _ h => h) hS2 [(11, none)] (l' := #[tt, tt, tt, tt, tt, tt, tt, tt, tt, tt, tt, tt]) (a' := { tmps := #[.agg G, .agg G', .pointer (some ⟨B, 0, none⟩), .pointer (some ⟨B', 0, none⟩), u4, .int .i64 k, .pointer (some ⟨B, 0, none⟩), .int .i64 t, .pointer (some ⟨B', 0, none⟩), .int .i64 t', .bool false, .bool false, .pointer (some ⟨B, 1, none⟩), .int .u64 ke, .pointer (some ⟨B', 1, none⟩), .int .u64 ke', .bool false, .bool false, .bool false, .pointer (some ⟨B, 2, none⟩), .int .u64 ro, .pointer (some ⟨B', 2, none⟩), .int .u64 ro', .bool false, .bool false, .bool false, .pointer (some ⟨B, 3, none⟩), .slice (some ⟨b, off, none⟩) n cap, .int .i64 n, .pointer (some ⟨B', 3, none⟩), .slice (some ⟨b', off', none⟩) n cap', .int .i64 n, .bool false, .bool false, .int .i64 k, .pointer (some ⟨B, 3, none⟩), .slice (some ⟨b, off, none⟩) n cap, .int .i64 n, .bool true, u39, u40, .pointer (some ⟨B, 3, none⟩), .slice (some ⟨b, off, none⟩) n cap, .int .i64 k, .pointer (some ⟨b, off + k * 51, none⟩), .agg C, .pointer (some ⟨B', 3, none⟩), .slice (some ⟨b', off', none⟩) n cap', .int .i64 k, .pointer (some ⟨b', off' + k * 51, none⟩), .agg C', .bool false, .bool true], defers := [] }) (obs := []) (n := 0) (by kernel_rfl) (by kernel_rfl) trivial ?_
    refine wpAnyH_done (by kernel_rfl) ?_ _
    have hx1 := hS2.1
    have hx2 := hS2.2.1
    clear hS hS2 hC0 hC0'
    go_wp2
    go_ret
    exact qkz hq hb2 (fun e => by have := congrArg Wd.obs e; simp only [] at this; rw [this])
  ·obtain rfl : k = n := by omega
   go_wp2_with (first
    | (with_reducible refine qaz (by kernel_rfl) _ _ rfl B _ rfl _ _ hb _ (by assumption) (by assumption) ?_))
   go_ret
   exact qrz ⟨hes.out.1, hes.out.2.1, hes.out.2.2, oats_ext (by rw [hn.out, hn'.out]) fun i hi => hal.out i (by rw [hn.out] at hi; exact hi)⟩ hbw
theorem wFz {S : World → Prop} {P : Program} {ty : TypeId} {b o j : Nat} {v : Value} (hr : ∀ w, S w → w.rangeAt b o C.toList) (hv : C[j]? = some v) (hg : ∀ w, (isAgg ty).run P w = .ok false w) : Obl.holds P S (.load ty b (o + j) v) := fun w hS => by
 have hc : w.cell? ⟨b, o + j, none⟩ = some v := hr w hS j v (by simpa using hv)
 simp [loadVar, hg, hc]
theorem rfit_w (h : Obs w ao n cap X) : Asks 18 #[.agg #[.int .i64 t, .int .u64 ke, .int .u64 ro, .slice ao n cap]] (fitW ⟨t, ke, ro, X⟩ = true) w := by
 have hmx : prog.follows .mixedOrders = true := by kernel_rfl
 have hn : Hid (X.length = n) := h.1
 have hnc := h.2.1
 have hcm := h.2.2.1.1
 have ga1 := isAgg22
 have ga2 := isAgg3
 have ga3 := isAgg23
 have c0 : (#[.int .i64 t, .int .u64 ke, .int .u64 ro, .slice ao n cap] : Array Value)[0]? = some (.int .i64 t) := rfl
 have c3 : (#[.int .i64 t, .int .u64 ke, .int .u64 ro, .slice ao n cap] : Array Value)[3]? = some (.slice ao n cap) := rfl
 obtain ⟨G, hG⟩ : ∃ G : Array Value, G = #[.int .i64 t, .int .u64 ke, .int .u64 ro, .slice ao n cap] := ⟨_, rfl⟩
 rw [← hG] at c0 c3
 rw [← hG]
 clear hG
 unfold Asks
 go_enter func18, ntmps18
 go_wp2_with (first
  | go_skip
  | (with_reducible refine qcz rfl _ _ rfl G rfl ?_; intro B W hB hb hk)
  | (with_reducible refine qaz (by kernel_rfl) _ _ rfl B _ rfl _ _ hb _ (by assumption) (by assumption) ?_)
  | ((with_reducible refine qgz (by kernel_rfl) .lss _ _ _ _ rfl _ _ rfl rfl (wez _ _ _ _ _ _) ?_ ?_) <;> intro hq)
  | ((with_reducible refine qgz (by kernel_rfl) .gtr _ _ _ _ rfl _ _ rfl rfl (qxz _ _ _ _ _ _) ?_ ?_) <;> intro hq))
 all_goals (try (go_ret; first
  | (have hl : t < 0 := Hid.out (by assumption); refine ⟨false, rfl, ⟨fun e => absurd e Bool.false_ne_true, fun e => ?_⟩, hk⟩; exfalso; have := (woz.1 e).1; omega)
  | (have hl : 1099511627776 < t := Hid.out (by assumption); refine ⟨false, rfl, ⟨fun e => absurd e Bool.false_ne_true, fun e => ?_⟩, hk⟩; exfalso; have := (woz.1 e).2.1; omega)
  | (have hl : 1024 < (n : Int) := Hid.out (by assumption); refine ⟨false, rfl, ⟨fun e => absurd e Bool.false_ne_true, fun e => ?_⟩, hk⟩; exfalso; have := (woz.1 e).2.2.1; rw [hn.out] at this; omega)
  | fail))
 have a1 : 0 ≤ t := Hid.out (by assumption)
 have a2 : t ≤ 1099511627776 := Hid.out (by assumption)
 have a3 : (n : Int) ≤ 1024 := Hid.out (by assumption)
 have hes : Hid (0 ≤ t ∧ t ≤ 1099511627776 ∧ n ≤ 1024) := ⟨by omega, by omega, by omega⟩
 clear a1 a2 a3
 clear hB
 go_loopw [3] (fun i wr => ∃ k : Nat, k ≤ n ∧ i = .int .i64 k ∧ Hid (∀ j, j < k → qUz (oat X j) = true) ∧ Hid (∀ j, j + 1 < k → (oat X j).id < (oat X (j + 1)).id) ∧ Blk wr B G 25 ∧ Below w.heap.size w wr) (fun i _ => n - (intOf i).toNat)
 case atStart => exact ⟨0, Nat.zero_le _, rfl, fun j hj => absurd hj (by omega), fun j hj => absurd hj (by omega), hb, hk⟩
 case round =>
  clear hb hk
  obtain ⟨k, hk, rfl, hal, hri, hb, hbw⟩ := hrel
  have hbs := hbw.size
  by_cases hkn : k < n
  ·obtain ⟨j, hj0⟩ : ∃ j, Hid (j = k - 1) := ⟨_, rfl⟩
   have hjn : j < n := by have := hj0.out; omega
   obtain ⟨b, off, C, rfl, hbb, hC, hr⟩ := wHz (qqz h hbw) hkn
   obtain ⟨b', off', C', e', hbb', hC', hr'⟩ := wHz (qqz h hbw) hjn
   cases e'
   have hkn' : (k : Int) < n := by omega
   have hz := hC.size
   go_wp2_with (first
    | (with_reducible refine qaz (by kernel_rfl) _ _ rfl B _ rfl _ _ hb _ (by assumption) (by assumption) ?_))
   refine PgM.region_out (S := fun W => Blk W B G 25 ∧ W.rangeAt b (off + k * 51) C.toList ∧ W.rangeAt b (off + j * 51) C'.toList) hmx ⟨hb.next (brz _ _).drew, qmz hr ((brz _ wr).drew.block b hbb), qmz hr' ((brz _ wr).drew.block b hbb)⟩ (fun hS => ?_)
   have hkd := (brz wr.heap.size wr).drew
   have hC0 := hC.next hkd
   have hb1 := hbw.trans (hkd.mono hbs)
   have hbb1 : b < wr.drew.heap.size := ltz hbb hkd.size
   generalize wr.drew = W1 at hS hC0 hb1 hbb1 ⊢
   clear hkd
   refine qvz (by kernel_rfl) (fun _ _ _ _ _ h => h) hS [(0, none), (1, some (.slice (some ⟨b, off, none⟩) n cap)), (2, none), (3, some (.pointer (some ⟨b, off + k * 51, none⟩))), (4, some (.agg C))] (obs := [.load 23 B 3 (.slice (some ⟨b, off, none⟩) n cap), .ia 23 (.slice (some ⟨b, off, none⟩) n cap) (.int .i64 k) (.pointer (some ⟨b, off + k * 51, none⟩)), .load 43 b (off + k * 51) (.agg C)]) (n := 22) (by kernel_rfl) (by kernel_rfl) ⟨qhz (fun _ h => h.1) c3 isAgg23, wDz hkn, wnz (fun _ h => h.2.1) underlying43 (by kernel_rfl) (qez hz), trivial⟩ ?_
   refine wNz (i := 5) (fuel := 21) (f := 6) (vs := [.agg C]) (d := some 30) (by kernel_rfl) (by kernel_rfl) (by kernel_rfl) call6 (k2z hC0) (fun W2 hk2 => (⟨hS.1.next hk2, qmz hS.2.1 (hk2.block b hbb1), qmz hS.2.2 (hk2.block b hbb1)⟩ : Blk W2 B G 25 ∧ W2.rangeAt b (off + k * 51) C.toList ∧ W2.rangeAt b (off + j * 51) C'.toList)) ?_ ?_
   ·intro W2 hq hk2 hS2
    have hb2 := btz hb1 hk2
    rcases Nat.eq_zero_or_pos k with h0 | h0
    ·have hk0 : Hid (¬ (0 : Int) < k) := by show ¬ _; omega
     have hup : Hid (∀ j, j + 1 < k + 1 → (oat X j).id < (oat X (j + 1)).id) := by
      refine (?_ : ∀ j, j + 1 < k + 1 → (oat X j).id < (oat X (j + 1)).id)
      intro i hi; omega
     refine qjz (by kernel_rfl) (fun _ _ _ _ _ h => h) hS2 [(6, none), (7, none), (8, none), (9, some (.bool false)), (10, none), (11, none), (12, none), (13, none), (14, none), (15, none), (16, none), (17, none), (18, none), (19, none), (20, none), (21, none), (22, none), (23, none), (24, none), (25, none), (26, none)] (l' := #[tt, tt, tt, tt, tt, tt, tt, tt, tt, tt, tt, tt, tt, tt, tt, tt, tt, tt, tt, tt, tt, tt, tt, tt, tt, tt, tt]) (a' := { tmps := #[.agg G, .pointer (some ⟨B, 0, none⟩), u2, .int .i64 k, .pointer (some ⟨B, 0, none⟩), .int .i64 t, .bool false, .bool false, .pointer (some ⟨B, 0, none⟩), .int .i64 t, .bool false, .bool false, .bool false, .pointer (some ⟨B, 3, none⟩), .slice (some ⟨b, off, none⟩) n cap, .int .i64 n, .bool false, .bool false, .int .i64 k, .pointer (some ⟨B, 3, none⟩), .slice (some ⟨b, off, none⟩) n cap, .int .i64 n, .bool true, u23, u24, .pointer (some ⟨B, 3, none⟩), .slice (some ⟨b, off, none⟩) n cap, .int .i64 k, .pointer (some ⟨b, off + k * 51, none⟩), .agg C, .bool true, .bool false, .bool false, .int .i64 k, .bool false, .bool false, undef, undef, undef, undef, undef, undef, undef, undef, undef, undef, undef, undef, undef, undef, .bool false, .bool false], defers := [] }) (obs := [.test .gtr 3 (.tmp 33) (.const (.int .i64 0)) (.int .i64 k) (.int .i64 0) (.bool false)]) (n := 0) (by kernel_rfl) (by kernel_rfl) ⟨qVz (fun _ => qxz _ _ _ _ _ _) hk0, trivial⟩ ?_
     refine wpAnyH_done (by kernel_rfl) ?_ _
     have hx1 := hS2.1
     clear hS hS2 hC0
     go_wp2
     go_roundw
     case rel => exact ⟨k + 1, by omega, by go_num, wzz hal.out hq.out, hup, hx1, hb2⟩
     case measure => simp [intOf]; omega
    ·have hk0 : Hid ((0 : Int) < k) := by show _ < _; omega
     have hj : Hid (k = j + 1) := by have := hj0.out; show _ = _; omega
     have hw : IntKind.i64.wrap ((k : Int) - 1) = (j : Int) := by have := hj.out; rw [IntKind.wrap_i64]; omega
     by_cases hxy : (oat X j).id < (oat X k).id
     ·have hup : Hid (∀ i, i + 1 < k + 1 → (oat X i).id < (oat X (i + 1)).id) := by
       refine (?_ : ∀ i, i + 1 < k + 1 → (oat X i).id < (oat X (i + 1)).id)
       intro i hi
       rcases Nat.lt_or_ge (i + 1) k with h | h
       ·exact hri.out i h
       ·have hij : i = j := by have := hj.out; omega
        rw [hij, ← hj.out]; exact hxy
      have hd : Hid (¬ (oat X k).id ≤ (oat X j).id) := by show ¬ _; omega
      refine qjz (by kernel_rfl) (fun _ _ _ _ _ h => h) hS2 [(6, none), (7, none), (8, none), (9, some (.bool true)), (10, none), (11, none), (12, some (.slice (some ⟨b, off, none⟩) n cap)), (13, none), (14, some (.int .i64 j)), (15, some (.pointer (some ⟨b, off + j * 51, none⟩))), (16, none), (17, some (.int .u64 (oat X j).id)), (18, none), (19, some (.slice (some ⟨b, off, none⟩) n cap)), (20, none), (21, some (.pointer (some ⟨b, off + k * 51, none⟩))), (22, none), (23, some (.int .u64 (oat X k).id)), (24, some (.bool false)), (25, none), (26, none)] (l' := #[tt, tt, tt, tt, tt, tt, tt, tt, tt, tt, tt, tt, tt, tt, tt, tt, tt, tt, tt, tt, tt, tt, tt, tt, tt, tt, tt]) (a' := { tmps := #[.agg G, .pointer (some ⟨B, 0, none⟩), u2, .int .i64 k, .pointer (some ⟨B, 0, none⟩), .int .i64 t, .bool false, .bool false, .pointer (some ⟨B, 0, none⟩), .int .i64 t, .bool false, .bool false, .bool false, .pointer (some ⟨B, 3, none⟩), .slice (some ⟨b, off, none⟩) n cap, .int .i64 n, .bool false, .bool false, .int .i64 k, .pointer (some ⟨B, 3, none⟩), .slice (some ⟨b, off, none⟩) n cap, .int .i64 n, .bool true, u23, u24, .pointer (some ⟨B, 3, none⟩), .slice (some ⟨b, off, none⟩) n cap, .int .i64 k, .pointer (some ⟨b, off + k * 51, none⟩), .agg C, .bool true, .bool false, .bool false, .int .i64 k, .bool true, .bool true, .pointer (some ⟨B, 3, none⟩), .slice (some ⟨b, off, none⟩) n cap, .int .i64 k, .int .i64 j, .pointer (some ⟨b, off + j * 51, none⟩), .pointer (some ⟨b, off + j * 51 + 0, none⟩), .int .u64 (oat X j).id, .pointer (some ⟨B, 3, none⟩), .slice (some ⟨b, off, none⟩) n cap, .int .i64 k, .pointer (some ⟨b, off + k * 51, none⟩), .pointer (some ⟨b, off + k * 51 + 0, none⟩), .int .u64 (oat X k).id, .bool false, .bool false, .bool false], defers := [] }) (obs := [.test .gtr 3 (.tmp 33) (.const (.int .i64 0)) (.int .i64 k) (.int .i64 0) (.bool true), .load 23 B 3 (.slice (some ⟨b, off, none⟩) n cap), .test .sub 3 (.tmp 38) (.const (.int .i64 1)) (.int .i64 k) (.int .i64 1) (.int .i64 j), .ia 23 (.slice (some ⟨b, off, none⟩) n cap) (.int .i64 j) (.pointer (some ⟨b, off + j * 51, none⟩)), .load 22 b (off + j * 51 + 0) (.int .u64 (oat X j).id), .load 23 B 3 (.slice (some ⟨b, off, none⟩) n cap), .ia 23 (.slice (some ⟨b, off, none⟩) n cap) (.int .i64 k) (.pointer (some ⟨b, off + k * 51, none⟩)), .load 22 b (off + k * 51 + 0) (.int .u64 (oat X k).id), .test .geq 22 (.tmp 42) (.tmp 48) (.int .u64 (oat X j).id) (.int .u64 (oat X k).id) (.bool false)]) (n := 0) (by kernel_rfl) (by kernel_rfl) ⟨qEz (fun _ => qxz _ _ _ _ _ _) hk0, qhz (fun _ h => h.1) c3 isAgg23, x4z hj hw, wDz hjn, wFz (j := 0) (fun _ h => h.2.2) hC'.id isAgg22, qhz (fun _ h => h.1) c3 isAgg23, wDz hkn, wFz (j := 0) (fun _ h => h.2.1) hC.id isAgg22, qVz (fun _ => wuz _ _ _ _ _ _) hd, trivial⟩ ?_
      refine wpAnyH_done (by kernel_rfl) ?_ _
      have hx1 := hS2.1
      clear hS hS2 hC0
      go_wp2
      go_roundw
      case rel => exact ⟨k + 1, by omega, by go_num, wzz hal.out hq.out, hup, hx1, hb2⟩
      case measure => simp [intOf]; omega
     ·have hd : Hid ((oat X k).id ≤ (oat X j).id) := by show _ ≤ _; omega
      have hno : Hid (¬ idsB X = true) := by
       refine (?_ : ¬ idsB X = true)
       intro e
       have := jBz.1 e j (by rw [hn.out, ← hj.out]; exact hkn)
       rw [← hj.out] at this
       exact hxy this
      refine qjz (by kernel_rfl) (fun _ _ _ _ _ h => h) hS2 [(6, none), (7, none), (8, none), (9, some (.bool true)), (10, none), (11, none), (12, some (.slice (some ⟨b, off, none⟩) n cap)), (13, none), (14, some (.int .i64 j)), (15, some (.pointer (some ⟨b, off + j * 51, none⟩))), (16, none), (17, some (.int .u64 (oat X j).id)), (18, none), (19, some (.slice (some ⟨b, off, none⟩) n cap)), (20, none), (21, some (.pointer (some ⟨b, off + k * 51, none⟩))), (22, none), (23, some (.int .u64 (oat X k).id)), (24, some (.bool true)), (25, none), (26, none)] (l' := #[tt, tt, tt, tt, tt, tt, tt, tt, tt, tt, tt, tt, tt, tt, tt, tt, tt, tt, tt, tt, tt, tt, tt, tt, tt, tt, tt]) (a' := { tmps := #[.agg G, .pointer (some ⟨B, 0, none⟩), u2, .int .i64 k, .pointer (some ⟨B, 0, none⟩), .int .i64 t, .bool false, .bool false, .pointer (some ⟨B, 0, none⟩), .int .i64 t, .bool false, .bool false, .bool false, .pointer (some ⟨B, 3, none⟩), .slice (some ⟨b, off, none⟩) n cap, .int .i64 n, .bool false, .bool false, .int .i64 k, .pointer (some ⟨B, 3, none⟩), .slice (some ⟨b, off, none⟩) n cap, .int .i64 n, .bool true, u23, u24, .pointer (some ⟨B, 3, none⟩), .slice (some ⟨b, off, none⟩) n cap, .int .i64 k, .pointer (some ⟨b, off + k * 51, none⟩), .agg C, .bool true, .bool false, .bool false, .int .i64 k, .bool true, .bool true, .pointer (some ⟨B, 3, none⟩), .slice (some ⟨b, off, none⟩) n cap, .int .i64 k, .int .i64 j, .pointer (some ⟨b, off + j * 51, none⟩), .pointer (some ⟨b, off + j * 51 + 0, none⟩), .int .u64 (oat X j).id, .pointer (some ⟨B, 3, none⟩), .slice (some ⟨b, off, none⟩) n cap, .int .i64 k, .pointer (some ⟨b, off + k * 51, none⟩), .pointer (some ⟨b, off + k * 51 + 0, none⟩), .int .u64 (oat X k).id, .bool true, .bool true, .bool true], defers := [] }) (obs := [.test .gtr 3 (.tmp 33) (.const (.int .i64 0)) (.int .i64 k) (.int .i64 0) (.bool true), .load 23 B 3 (.slice (some ⟨b, off, none⟩) n cap), .test .sub 3 (.tmp 38) (.const (.int .i64 1)) (.int .i64 k) (.int .i64 1) (.int .i64 j), .ia 23 (.slice (some ⟨b, off, none⟩) n cap) (.int .i64 j) (.pointer (some ⟨b, off + j * 51, none⟩)), .load 22 b (off + j * 51 + 0) (.int .u64 (oat X j).id), .load 23 B 3 (.slice (some ⟨b, off, none⟩) n cap), .ia 23 (.slice (some ⟨b, off, none⟩) n cap) (.int .i64 k) (.pointer (some ⟨b, off + k * 51, none⟩)), .load 22 b (off + k * 51 + 0) (.int .u64 (oat X k).id), .test .geq 22 (.tmp 42) (.tmp 48) (.int .u64 (oat X j).id) (.int .u64 (oat X k).id) (.bool true)]) (n := 0) (by kernel_rfl) (by kernel_rfl) ⟨qEz (fun _ => qxz _ _ _ _ _ _) hk0, qhz (fun _ h => h.1) c3 isAgg23, x4z hj hw, wDz hjn, wFz (j := 0) (fun _ h => h.2.2) hC'.id isAgg22, qhz (fun _ h => h.1) c3 isAgg23, wDz hkn, wFz (j := 0) (fun _ h => h.2.1) hC.id isAgg22, qEz (fun _ => wuz _ _ _ _ _ _) hd, trivial⟩ ?_
      refine wpAnyH_done (by kernel_rfl) ?_ _
      have hx1 := hS2.1
      clear hS hS2 hC0
      go_wp2
      go_ret
      exact qkz hno hb2 (fun e => (woz.1 e).2.2.2.1)
   ·intro W2 hq hk2 hS2
    have hb2 := btz hb1 hk2
    refine qjz (by kernel_rfl) (fun _ _ _ _ _ h => h) hS2 [(6, none), (7, none), (8, none), (9, none), (10, none), (11, none), (12, none), (13, none), (14, none), (15, none), (16, none), (17, none), (18, none), (19, none), (20, none), (21, none), (22, none), (23, none), (24, none), (25, none), (26, none)] (l' := #[tt, tt, tt, tt, tt, tt, tt, tt, tt, tt, tt, tt, tt, tt, tt, tt, tt, tt, tt, tt, tt, tt, tt, tt, tt, tt, tt]) (a' := { tmps := #[.agg G, .pointer (some ⟨B, 0, none⟩), u2, .int .i64 k, .pointer (some ⟨B, 0, none⟩), .int .i64 t, .bool false, .bool false, .pointer (some ⟨B, 0, none⟩), .int .i64 t, .bool false, .bool false, .bool false, .pointer (some ⟨B, 3, none⟩), .slice (some ⟨b, off, none⟩) n cap, .int .i64 n, .bool false, .bool false, .int .i64 k, .pointer (some ⟨B, 3, none⟩), .slice (some ⟨b, off, none⟩) n cap, .int .i64 n, .bool true, u23, u24, .pointer (some ⟨B, 3, none⟩), .slice (some ⟨b, off, none⟩) n cap, .int .i64 k, .pointer (some ⟨b, off + k * 51, none⟩), .agg C, .bool false, .bool true, .bool true, undef, undef, undef, undef, undef, undef, undef, undef, undef, undef, undef, undef, undef, undef, undef, undef, undef, undef, .bool true], defers := [] }) (obs := []) (n := 0) (by kernel_rfl) (by kernel_rfl) trivial ?_
    refine wpAnyH_done (by kernel_rfl) ?_ _
    have hx1 := hS2.1
    clear hS hS2 hC0
    go_wp2
    go_ret
    exact qkz hq hb2 (fun e => (woz.1 e).2.2.2.2 k (by rw [hn.out]; exact hkn))
  ·obtain rfl : k = n := by omega
   go_wp2_with (first
    | (with_reducible refine qaz (by kernel_rfl) _ _ rfl B _ rfl _ _ hb _ (by assumption) (by assumption) ?_))
   go_ret
   exact qrz (woz.2 ⟨hes.out.1, hes.out.2.1, by rw [hn.out]; exact hes.out.2.2, jBz.2 fun i hi => hri.out i (by rw [hn.out] at hi; exact hi), fun i hi => hal.out i (by rw [hn.out] at hi; exact hi)⟩) hbw
def stp (o : Ob) (s : List Ob × Bool) (x : Ob) : List Ob × Bool :=
 if s.2 = false ∧ o.id ≤ x.id then (if x.id ≠ o.id then (s.1 ++ [o] ++ [x], true) else (s.1 ++ [o], true)) else (if x.id ≠ o.id then (s.1 ++ [x], s.2) else s)
def stps (o : Ob) (l : List Ob) : List Ob × Bool := l.foldl (stp o) ([], false)
theorem w8z {o : Ob} {k : Nat} (hk : k < X.length) : stps o (X.take (k + 1)) = stp o (stps o (X.take k)) (oat X k) := by
 unfold stps
 rw [List.take_add_one, List.getElem?_eq_getElem hk, qKz hk, Option.toList_some, List.foldl_append]
 rfl
theorem v9z (o : Ob) : ∀ (l : List Ob) (s : List Ob × Bool), (l.foldl (stp o) s).1.length ≤ s.1.length + 2 * l.length
 | [], s => by simp
 | x :: l, s => by
  rw [List.foldl_cons]
  have h := v9z o l (stp o s x)
  have h2 : (stp o s x).1.length ≤ s.1.length + 2 := by unfold stp; split <;> split <;> simp
  rw [List.length_cons]; omega
theorem uAz (o : Ob) : ∀ (l : List Ob) (a : List Ob), (∀ x ∈ l, o.id < x.id) → l.foldl (stp o) (a, true) = (a ++ l, true)
 | [], a, _ => by simp
 | x :: l, a, h => by
  have hx := h x (List.mem_cons_self ..)
  rw [List.foldl_cons, show stp o (a, true) x = (a ++ [x], true) by unfold stp; rw [if_neg (by simp), if_pos (by omega)], uAz o l _ fun y hy => h y (List.mem_cons_of_mem _ hy)]
  simp
def rpu (s : List Ob × Bool) (o : Ob) : List Ob := if s.2 = true then s.1 else s.1 ++ [o]
theorem rpu_go (o : Ob) : ∀ (l : List Ob) (a : List Ob), Srt l → rpu (l.foldl (stp o) (a, false)) o = a ++ puR l o
 | [], a, _ => by simp [rpu, puR, lowL, higL]
 | x :: l, a, h => by
  obtain ⟨h1, h2⟩ := List.pairwise_cons.1 h
  rw [List.foldl_cons]
  by_cases q : o.id ≤ x.id
  ·have hl : ∀ y ∈ l, o.id < y.id := fun y hy => by have := h1 y hy; omega
   have e1 : lowL (x :: l) o.id = [] := by
    unfold lowL; rw [List.filter_eq_nil_iff]; intro y hy
    rcases List.mem_cons.1 hy with r | r
    ·rw [r]; simp; omega
    ·have := hl y r; simp; omega
   have e2 : higL l o.id = l := by
    unfold higL; rw [List.filter_eq_self]; intro y hy; have := hl y hy; simpa using this
   by_cases r : x.id = o.id
   ·rw [show stp o (a, false) x = (a ++ [o], true) by unfold stp; rw [if_pos ⟨rfl, q⟩, if_neg (by simp [r])], uAz o l _ hl]
    have e3 : higL (x :: l) o.id = l := by unfold higL at e2 ⊢; rw [List.filter_cons_of_neg (by simp; omega), e2]
    unfold puR rpu; rw [e1, e3]; simp
   ·rw [show stp o (a, false) x = (a ++ [o] ++ [x], true) by unfold stp; rw [if_pos ⟨rfl, q⟩, if_pos r], uAz o l _ hl]
    have e3 : higL (x :: l) o.id = x :: l := by unfold higL at e2 ⊢; rw [List.filter_cons_of_pos (by simp; omega), e2]
    unfold puR rpu; rw [e1, e3]; simp
  ·rw [show stp o (a, false) x = (a ++ [x], false) by unfold stp; rw [if_neg (by simp; omega), if_pos (by omega)], rpu_go o l _ h2]
   have e1 : lowL (x :: l) o.id = x :: lowL l o.id := by unfold lowL; rw [List.filter_cons_of_pos (by simp; omega)]
   have e2 : higL (x :: l) o.id = higL l o.id := by unfold higL; rw [List.filter_cons_of_neg (by simp; omega)]
   unfold puR; rw [e1, e2]; simp
theorem rpu_eq (h : Srt X) (o : Ob) : rpu (stps o X) o = puR X o := by
 have := rpu_go o X [] h
 simpa [stps] using this
theorem j4z {D0 : Nat → Prop} {x : Ob} (hD : ∀ b, D0 b → b < w.heap.size) (h : ObsD (LtN w) D0 w ao n cap X) (hs : Srt X) (hn16 : n < 1024) (hx : ObD D0 w C x) : Calls prog 36 #[.agg #[.int .i64 t, .int .u64 ke, .int .u64 ro, .slice ao n cap], .agg C] w fun e w' => ∃ ao2 n2 cap2, e = .returned (.agg #[.int .i64 t, .int .u64 ke, .int .u64 ro, .slice ao2 n2 cap2]) ∧ ObsD (New w w') D0 w' ao2 n2 cap2 (puR X x) ∧ Below w.heap.size w w' := by
 have hmx : prog.follows .mixedOrders = true := by kernel_rfl
 have hn : Hid (X.length = n) := h.1
 have hnc := h.2.1
 have hcm := h.2.2.1.1
 have ga1 := isAgg22
 have ga3 := isAgg23
 have d0 := hx.id
 have hz := hx.size
 have hrp : Hid (rpu (stps x X) x = puR X x) := rpu_eq hs x
 have hln : Hid ((puR X x).length ≤ n + 1) := by have := vRz X x; rw [hn.out] at this; exact this
 clear hs
 have c3 : (#[.int .i64 t, .int .u64 ke, .int .u64 ro, .slice ao n cap] : Array Value)[3]? = some (.slice ao n cap) := rfl
 have hz2 : ∀ v, (prog.info? 25).map (·.size) = some (#[.int .i64 t, .int .u64 ke, .int .u64 ro, v] : Array Value).size := fun _ => wcz
 have hs2 : ∀ v, zW.size = (#[.int .i64 t, .int .u64 ke, .int .u64 ro, v] : Array Value).size := fun _ => rfl
 have h12 : ∀ ao n cap, (#[.int .i64 t, .int .u64 ke, .int .u64 ro, .slice ao n cap] : Array Value).all (·.oneCell') = true := fun _ _ _ => by kernel_rfl
 have cS : ∀ v, (#[.int .i64 t, .int .u64 ke, .int .u64 ro, .slice ao n cap] : Array Value).setIfInBounds 3 v = #[.int .i64 t, .int .u64 ke, .int .u64 ro, v] := fun v => rfl
 have hzG4 : (#[.int .i64 t, .int .u64 ke, .int .u64 ro, .slice ao n cap] : Array Value).size = 4 := rfl
 obtain ⟨G, hG⟩ : ∃ G : Array Value, G = #[.int .i64 t, .int .u64 ke, .int .u64 ro, .slice ao n cap] := ⟨_, rfl⟩
 rw [← hG] at c3 cS hzG4
 rw [← hG]
 clear hG
 go_enter func36, ntmps36
 go_wp2_with (first
  | (with_reducible refine qcz rfl _ _ rfl G rfl ?_; intro B W hB hb hk)
  | (with_reducible refine qcz rfl _ _ rfl C rfl ?_; intro B2 W2 hB2 hb2 hk2; replace hb := hb.next hk2; replace hk := btz hk hk2)
  | ((with_reducible refine qfz rfl _ rfl zW q0z ?_); intro R W0 hB1 hRA hk1; have hbA := hb.next hk1; have hb2A := hb2.next hk1; replace hk := btz hk hk1))
 have hne : B ≠ R := by have := hB.out; have := hB1.out; have := hB2.out; omega
 have hRl : Hid (w.heap.size ≤ R ∧ w.heap.size ≤ B) := by have := hB.out; have := hB1.out; have := hB2.out; refine (⟨?_, ?_⟩ : _ ∧ _) <;> omega
 have hBR0 : Hid (B < W0.heap.size ∧ R < W0.heap.size) := ⟨hbA.lt, hRA.lt⟩
 clear hB hB1 hB2 hk1 hk2 hb hb2
 go_loopw [5, 6, 7] (fun v vd j wr => ∃ (k : Nat) (cs : List Value) (A : List Ob) (d : Bool), k ≤ n ∧ j = .int .i64 k ∧ vd = .bool d ∧ Hid (stps x (X.take k) = (A, d)) ∧ wr.ownsRow W0.heap.size 43 51 v A.length cs ∧ RowO D0 wr A cs ∧ Below W0.heap.size W0 wr) (fun _ _ j _ => n - (intOf j).toNat)
 case atStart => exact ⟨0, [], [], false, Nat.zero_le _, rfl, rfl, rfl, World.ownsRow_nil _ _ _ _, rfl, brz _ _⟩
 case round =>
  obtain ⟨k, cs, A, d, hkn1, rfl, rfl, hA, hown, hro, hb0⟩ := hrel
  have hbw := btz hk hb0
  have hb := hbA.next hb0
  have hb2 := hb2A.next hb0
  have hR := hRA.next hb0
  have hAl : A.length ≤ 2 * k := by have := v9z x (X.take k) ([], false); rw [show (X.take k).foldl (stp x) ([], false) = stps x (X.take k) from rfl, hA.out] at this; simp at this; omega
  by_cases hkn : k < n
  ·obtain ⟨b, off, C', rfl, hbw0, hC', hrw⟩ := vTz h hkn
   have hkX : k < X.length := by rw [hn.out]; exact hkn
   have hr := qmz hrw (hbw.block b hbw0)
   have hbb : b < wr.heap.size := ltz hbw0 hbw.size
   replace hC' := hC'.laterK (w' := wr) fun b hb => hbw.block b (hD b hb)
   have hkn' : (k : Int) < n := by omega
   have hz' := hC'.size
   by_cases hne1 : (oat X k).id = x.id
   ·have hne : Hid (¬ ¬ (oat X k).id = x.id) := fun q => q hne1
    have hge1 : x.id ≤ (oat X k).id := by omega
    have hge : Hid (x.id ≤ (oat X k).id) := hge1
    clear hne1
    cases d with
    | true =>
     go_wp2_with (first
      | (with_reducible refine qaz (by kernel_rfl) _ _ rfl B _ rfl _ _ hb _ c3 ga3 ?_))
     refine PgM.region_out (S := fun W => Blk W B G 25 ∧ Blk W B2 C 43 ∧ W.rangeAt b (off + k * 51) C'.toList) hmx ⟨hb.next (brz _ _).drew, hb2.next (brz _ _).drew, qmz hr ((brz _ wr).drew.block b hbb)⟩ (fun hS => ?_)
     have hkd := (brz wr.heap.size wr).drew
     replace hown := qMz hown hkd
     replace hb0 := btz hb0 hkd
     replace hbb := ltz hbb hkd.size
     generalize wr.drew = W1 at hS hown hb0 hbb ⊢
     clear hkd hb hb2 hr
     refine qjz (by kernel_rfl) (fun _ _ _ _ _ h => h) hS [(0, none), (1, none), (2, none), (3, none), (4, none), (5, none), (6, none), (7, none), (8, none), (9, none), (10, none), (11, none), (12, none)] (l' := #[tt, tt, tt, tt, tt, tt, tt, tt, tt, tt, tt, tt, tt]) (a' := { tmps := #[.agg G, .agg C, .pointer (some ⟨B, 0, none⟩), .pointer (some ⟨B2, 0, none⟩), .pointer (some ⟨R, 0, none⟩), u5, .bool true, .int .i64 k, .int .i64 k, .pointer (some ⟨B, 3, none⟩), .slice (some ⟨b, off, none⟩) n cap, .int .i64 n, .bool true, u13, u14, .bool true, .bool false, .bool false, undef, undef, undef, undef, undef, undef, undef, undef, undef, .bool false, u28, u29, u30, u31, u32, u33, u34, u35, u36, u37, u38, u39, u40, u41, u42, u43, u44, u45, u46, u47, u48, undef, undef, undef, undef, undef, undef, undef, undef, undef, undef, undef, undef, undef], defers := [] }) (obs := []) (n := 0) (by kernel_rfl) (by kernel_rfl) trivial ?_
     refine wpAnyH_done (by kernel_rfl) ?_ _
     obtain ⟨hb, hb2, hr⟩ := hS
     go_wp2
     refine PgM.region_out (S := fun W => Blk W B G 25 ∧ Blk W B2 C 43 ∧ W.rangeAt b (off + k * 51) C'.toList) hmx ⟨hb.next (brz _ _).drew, hb2.next (brz _ _).drew, qmz hr ((brz _ W1).drew.block b hbb)⟩ (fun hS => ?_)
     have hkd := (brz W1.heap.size W1).drew
     replace hown := qMz hown hkd
     replace hb0 := btz hb0 hkd
     replace hbb := ltz hbb hkd.size
     generalize W1.drew = W4 at hS hown hb0 hbb ⊢
     clear hkd hb hb2 hr
     refine qjz (by kernel_rfl) (fun _ _ _ _ _ h => h) hS [(0, none), (1, some (.slice (some ⟨b, off, none⟩) n cap)), (2, none), (3, some (.pointer (some ⟨b, off + k * 51, none⟩))), (4, none), (5, some (.int .u64 (oat X k).id)), (6, none), (7, some (.int .u64 x.id)), (8, some (.bool false))] (l' := #[tt, tt, tt, tt, tt, tt, tt, tt, tt]) (a' := { tmps := #[.agg G, .agg C, .pointer (some ⟨B, 0, none⟩), .pointer (some ⟨B2, 0, none⟩), .pointer (some ⟨R, 0, none⟩), u5, .bool true, .int .i64 k, .int .i64 k, .pointer (some ⟨B, 3, none⟩), .slice (some ⟨b, off, none⟩) n cap, .int .i64 n, .bool true, u13, u14, .bool true, .bool false, .bool false, undef, undef, undef, undef, undef, undef, undef, undef, undef, .bool false, u28, u29, u30, u31, .pointer (some ⟨B, 3, none⟩), .slice (some ⟨b, off, none⟩) n cap, .int .i64 k, .pointer (some ⟨b, off + k * 51, none⟩), .pointer (some ⟨b, off + k * 51 + 0, none⟩), .int .u64 (oat X k).id, .pointer (some ⟨B2, 0, none⟩), .int .u64 x.id, .bool false, u41, u42, u43, u44, u45, u46, u47, u48, undef, undef, undef, undef, undef, undef, undef, undef, undef, undef, undef, undef, undef], defers := [] }) (obs := [.load 23 B 3 (.slice (some ⟨b, off, none⟩) n cap), .ia 23 (.slice (some ⟨b, off, none⟩) n cap) (.int .i64 k) (.pointer (some ⟨b, off + k * 51, none⟩)), .load 22 b (off + k * 51 + 0) (.int .u64 (oat X k).id), .load 22 B2 0 (.int .u64 x.id), .test .neq 22 (.tmp 37) (.tmp 39) (.int .u64 (oat X k).id) (.int .u64 x.id) (.bool false)]) (n := 0) (by kernel_rfl) (by kernel_rfl) ⟨qhz (fun _ h => h.1) c3 isAgg23, wDz hkn, wFz (j := 0) (fun _ h => h.2.2) hC'.id isAgg22, qhz (fun _ h => h.2.1) d0 isAgg22, qVz (fun _ => q2z _ _ _ _ _ _) hne, trivial⟩ ?_
     refine wpAnyH_done (by kernel_rfl) ?_ _
     obtain ⟨hb, hb2, hr⟩ := hS
     go_wp2
     go_roundw
     case rel =>
      have hne1 := Classical.not_not.1 hne.out
      have hst : stps x (X.take (k + 1)) = (A, true) := by rw [w8z hkX, hA.out]; unfold stp; simp [hne1]
      have hbw2 := btz hk hb0
      refine ⟨k + 1, cs, A, true, by omega, by go_num, rfl, hst, ?_, ?_, hb0⟩
      ·simpa [List.length_append] using hown
      ·exact (hro.laterK fun b hb => (hbw2.block b (hD b hb)).trans (hbw.block b (hD b hb)).symm)
     case measure => simp [intOf]; omega
    | false =>
     go_wp2_with (first
      | (with_reducible refine qaz (by kernel_rfl) _ _ rfl B _ rfl _ _ hb _ c3 ga3 ?_))
     refine PgM.region_out (S := fun W => Blk W B G 25 ∧ Blk W B2 C 43 ∧ W.rangeAt b (off + k * 51) C'.toList) hmx ⟨hb.next (brz _ _).drew, hb2.next (brz _ _).drew, qmz hr ((brz _ wr).drew.block b hbb)⟩ (fun hS => ?_)
     have hkd := (brz wr.heap.size wr).drew
     replace hown := qMz hown hkd
     replace hb0 := btz hb0 hkd
     replace hbb := ltz hbb hkd.size
     generalize wr.drew = W1 at hS hown hb0 hbb ⊢
     clear hkd hb hb2 hr
     refine qjz (by kernel_rfl) (fun _ _ _ _ _ h => h) hS [(0, none), (1, none), (2, none), (3, none), (4, some (.slice (some ⟨b, off, none⟩) n cap)), (5, none), (6, some (.pointer (some ⟨b, off + k * 51, none⟩))), (7, none), (8, some (.int .u64 (oat X k).id)), (9, none), (10, some (.int .u64 x.id)), (11, some (.bool true)), (12, none)] (l' := #[tt, tt, tt, tt, tt, tt, tt, tt, tt, tt, tt, tt, tt]) (a' := { tmps := #[.agg G, .agg C, .pointer (some ⟨B, 0, none⟩), .pointer (some ⟨B2, 0, none⟩), .pointer (some ⟨R, 0, none⟩), u5, .bool false, .int .i64 k, .int .i64 k, .pointer (some ⟨B, 3, none⟩), .slice (some ⟨b, off, none⟩) n cap, .int .i64 n, .bool true, u13, u14, .bool false, .bool true, .bool true, .pointer (some ⟨B, 3, none⟩), .slice (some ⟨b, off, none⟩) n cap, .int .i64 k, .pointer (some ⟨b, off + k * 51, none⟩), .pointer (some ⟨b, off + k * 51 + 0, none⟩), .int .u64 (oat X k).id, .pointer (some ⟨B2, 0, none⟩), .int .u64 x.id, .bool true, .bool true, u28, u29, u30, u31, u32, u33, u34, u35, u36, u37, u38, u39, u40, u41, u42, u43, u44, u45, u46, u47, u48, undef, undef, undef, undef, undef, undef, undef, undef, undef, undef, undef, undef, undef], defers := [] }) (obs := [.load 23 B 3 (.slice (some ⟨b, off, none⟩) n cap), .ia 23 (.slice (some ⟨b, off, none⟩) n cap) (.int .i64 k) (.pointer (some ⟨b, off + k * 51, none⟩)), .load 22 b (off + k * 51 + 0) (.int .u64 (oat X k).id), .load 22 B2 0 (.int .u64 x.id), .test .geq 22 (.tmp 23) (.tmp 25) (.int .u64 (oat X k).id) (.int .u64 x.id) (.bool true)]) (n := 0) (by kernel_rfl) (by kernel_rfl) ⟨qhz (fun _ h => h.1) c3 isAgg23, wDz hkn, wFz (j := 0) (fun _ h => h.2.2) hC'.id isAgg22, qhz (fun _ h => h.2.1) d0 isAgg22, qEz (fun _ => wuz _ _ _ _ _ _) hge, trivial⟩ ?_
     refine wpAnyH_done (by kernel_rfl) ?_ _
     obtain ⟨hb, hb2, hr⟩ := hS
     go_wp2_with (first
      | (with_reducible refine qlz rfl _ _ rfl B2 rfl _ hb2 _ underlying43 rfl (qez hz) ?_)
      | ((with_reducible refine wrz rfl _ rfl C rfl hz ?_); intro Bq W2 hBq hbq hk2; replace hown := qMz hown hk2; replace hb0 := btz hb0 hk2)
      | (at_builtin; refine qwz jzz underlying23 qoz (by omega) rfl _ _ rfl W0.heap.size _ _ cs rfl hown _ _ _ _ C.toList rfl (xQz hbq hz) (xVz hx) (by unfold maxLen; omega) (by omega) hb0.size ?_; intro v1 W3 hown3 hgrow; replace hb0 := hb0.grown hgrow hb0.size (xuz hown); replace hown := hown3; clear hown3))
     replace hb := hbA.next hb0
     replace hb2 := hb2A.next hb0
     replace hr : W3.rangeAt b (off + k * 51) C'.toList := qmz hrw ((btz hk hb0).block b hbw0)
     replace hbb : b < W3.heap.size := ltz hbw0 (btz hk hb0).size
     clear hgrow hbq hBq hk2
     refine PgM.region_out (S := fun W => Blk W B G 25 ∧ Blk W B2 C 43 ∧ W.rangeAt b (off + k * 51) C'.toList) hmx ⟨hb.next (brz _ _).drew, hb2.next (brz _ _).drew, qmz hr ((brz _ W3).drew.block b hbb)⟩ (fun hS => ?_)
     have hkd := (brz W3.heap.size W3).drew
     replace hown := qMz hown hkd
     replace hb0 := btz hb0 hkd
     replace hbb := ltz hbb hkd.size
     generalize W3.drew = W4 at hS hown hb0 hbb ⊢
     clear hkd hb hb2 hr
     refine qjz (by kernel_rfl) (fun _ _ _ _ _ h => h) hS [(0, none), (1, some (.slice (some ⟨b, off, none⟩) n cap)), (2, none), (3, some (.pointer (some ⟨b, off + k * 51, none⟩))), (4, none), (5, some (.int .u64 (oat X k).id)), (6, none), (7, some (.int .u64 x.id)), (8, some (.bool false))] (l' := #[tt, tt, tt, tt, tt, tt, tt, tt, tt]) (a' := { tmps := #[.agg G, .agg C, .pointer (some ⟨B, 0, none⟩), .pointer (some ⟨B2, 0, none⟩), .pointer (some ⟨R, 0, none⟩), v1, .bool true, .int .i64 k, .int .i64 k, .pointer (some ⟨B, 3, none⟩), .slice (some ⟨b, off, none⟩) n cap, .int .i64 n, .bool true, u13, u14, .bool false, .bool true, .bool true, .pointer (some ⟨B, 3, none⟩), .slice (some ⟨b, off, none⟩) n cap, .int .i64 k, .pointer (some ⟨b, off + k * 51, none⟩), .pointer (some ⟨b, off + k * 51 + 0, none⟩), .int .u64 (oat X k).id, .pointer (some ⟨B2, 0, none⟩), .int .u64 x.id, .bool true, .bool true, u5, .agg C, .slice (some ⟨Bq, 0, none⟩) 1 1, v1, .pointer (some ⟨B, 3, none⟩), .slice (some ⟨b, off, none⟩) n cap, .int .i64 k, .pointer (some ⟨b, off + k * 51, none⟩), .pointer (some ⟨b, off + k * 51 + 0, none⟩), .int .u64 (oat X k).id, .pointer (some ⟨B2, 0, none⟩), .int .u64 x.id, .bool false, u41, u42, u43, u44, u45, u46, u47, u48, undef, undef, undef, undef, undef, undef, undef, undef, undef, undef, undef, undef, undef], defers := [] }) (obs := [.load 23 B 3 (.slice (some ⟨b, off, none⟩) n cap), .ia 23 (.slice (some ⟨b, off, none⟩) n cap) (.int .i64 k) (.pointer (some ⟨b, off + k * 51, none⟩)), .load 22 b (off + k * 51 + 0) (.int .u64 (oat X k).id), .load 22 B2 0 (.int .u64 x.id), .test .neq 22 (.tmp 37) (.tmp 39) (.int .u64 (oat X k).id) (.int .u64 x.id) (.bool false)]) (n := 0) (by kernel_rfl) (by kernel_rfl) ⟨qhz (fun _ h => h.1) c3 isAgg23, wDz hkn, wFz (j := 0) (fun _ h => h.2.2) hC'.id isAgg22, qhz (fun _ h => h.2.1) d0 isAgg22, qVz (fun _ => q2z _ _ _ _ _ _) hne, trivial⟩ ?_
     refine wpAnyH_done (by kernel_rfl) ?_ _
     obtain ⟨hb, hb2, hr⟩ := hS
     go_wp2
     go_roundw
     case rel =>
      have hne1 := Classical.not_not.1 hne.out
      have hst : stps x (X.take (k + 1)) = (A ++ [x], true) := by rw [w8z hkX, hA.out]; unfold stp; simp [hne1]
      have hbw2 := btz hk hb0
      refine ⟨k + 1, cs ++ C.toList, A ++ [x], true, by omega, by go_num, rfl, hst, ?_, ?_, hb0⟩
      ·simpa [List.length_append] using hown
      ·exact (RowO.app (hro.laterK fun b hb => (hbw2.block b (hD b hb)).trans (hbw.block b (hD b hb)).symm) (RowO.single (hx.laterK fun b hb => hbw2.block b (hD b hb))))
     case measure => simp [intOf]; omega
   ·have hne : Hid (¬ (oat X k).id = x.id) := hne1
    clear hne1
    cases d with
    | true =>
     go_wp2_with (first
      | (with_reducible refine qaz (by kernel_rfl) _ _ rfl B _ rfl _ _ hb _ c3 ga3 ?_))
     refine PgM.region_out (S := fun W => Blk W B G 25 ∧ Blk W B2 C 43 ∧ W.rangeAt b (off + k * 51) C'.toList) hmx ⟨hb.next (brz _ _).drew, hb2.next (brz _ _).drew, qmz hr ((brz _ wr).drew.block b hbb)⟩ (fun hS => ?_)
     have hkd := (brz wr.heap.size wr).drew
     replace hown := qMz hown hkd
     replace hb0 := btz hb0 hkd
     replace hbb := ltz hbb hkd.size
     generalize wr.drew = W1 at hS hown hb0 hbb ⊢
     clear hkd hb hb2 hr
     refine qjz (by kernel_rfl) (fun _ _ _ _ _ h => h) hS [(0, none), (1, none), (2, none), (3, none), (4, none), (5, none), (6, none), (7, none), (8, none), (9, none), (10, none), (11, none), (12, none)] (l' := #[tt, tt, tt, tt, tt, tt, tt, tt, tt, tt, tt, tt, tt]) (a' := { tmps := #[.agg G, .agg C, .pointer (some ⟨B, 0, none⟩), .pointer (some ⟨B2, 0, none⟩), .pointer (some ⟨R, 0, none⟩), u5, .bool true, .int .i64 k, .int .i64 k, .pointer (some ⟨B, 3, none⟩), .slice (some ⟨b, off, none⟩) n cap, .int .i64 n, .bool true, u13, u14, .bool true, .bool false, .bool false, undef, undef, undef, undef, undef, undef, undef, undef, undef, .bool false, u28, u29, u30, u31, u32, u33, u34, u35, u36, u37, u38, u39, u40, u41, u42, u43, u44, u45, u46, u47, u48, undef, undef, undef, undef, undef, undef, undef, undef, undef, undef, undef, undef, undef], defers := [] }) (obs := []) (n := 0) (by kernel_rfl) (by kernel_rfl) trivial ?_
     refine wpAnyH_done (by kernel_rfl) ?_ _
     obtain ⟨hb, hb2, hr⟩ := hS
     go_wp2
     refine PgM.region_out (S := fun W => Blk W B G 25 ∧ Blk W B2 C 43 ∧ W.rangeAt b (off + k * 51) C'.toList) hmx ⟨hb.next (brz _ _).drew, hb2.next (brz _ _).drew, qmz hr ((brz _ W1).drew.block b hbb)⟩ (fun hS => ?_)
     have hkd := (brz W1.heap.size W1).drew
     replace hown := qMz hown hkd
     replace hb0 := btz hb0 hkd
     replace hbb := ltz hbb hkd.size
     generalize W1.drew = W4 at hS hown hb0 hbb ⊢
     clear hkd hb hb2 hr
     refine qjz (by kernel_rfl) (fun _ _ _ _ _ h => h) hS [(0, none), (1, some (.slice (some ⟨b, off, none⟩) n cap)), (2, none), (3, some (.pointer (some ⟨b, off + k * 51, none⟩))), (4, none), (5, some (.int .u64 (oat X k).id)), (6, none), (7, some (.int .u64 x.id)), (8, some (.bool true))] (l' := #[tt, tt, tt, tt, tt, tt, tt, tt, tt]) (a' := { tmps := #[.agg G, .agg C, .pointer (some ⟨B, 0, none⟩), .pointer (some ⟨B2, 0, none⟩), .pointer (some ⟨R, 0, none⟩), u5, .bool true, .int .i64 k, .int .i64 k, .pointer (some ⟨B, 3, none⟩), .slice (some ⟨b, off, none⟩) n cap, .int .i64 n, .bool true, u13, u14, .bool true, .bool false, .bool false, undef, undef, undef, undef, undef, undef, undef, undef, undef, .bool false, u28, u29, u30, u31, .pointer (some ⟨B, 3, none⟩), .slice (some ⟨b, off, none⟩) n cap, .int .i64 k, .pointer (some ⟨b, off + k * 51, none⟩), .pointer (some ⟨b, off + k * 51 + 0, none⟩), .int .u64 (oat X k).id, .pointer (some ⟨B2, 0, none⟩), .int .u64 x.id, .bool true, u41, u42, u43, u44, u45, u46, u47, u48, undef, undef, undef, undef, undef, undef, undef, undef, undef, undef, undef, undef, undef], defers := [] }) (obs := [.load 23 B 3 (.slice (some ⟨b, off, none⟩) n cap), .ia 23 (.slice (some ⟨b, off, none⟩) n cap) (.int .i64 k) (.pointer (some ⟨b, off + k * 51, none⟩)), .load 22 b (off + k * 51 + 0) (.int .u64 (oat X k).id), .load 22 B2 0 (.int .u64 x.id), .test .neq 22 (.tmp 37) (.tmp 39) (.int .u64 (oat X k).id) (.int .u64 x.id) (.bool true)]) (n := 0) (by kernel_rfl) (by kernel_rfl) ⟨qhz (fun _ h => h.1) c3 isAgg23, wDz hkn, wFz (j := 0) (fun _ h => h.2.2) hC'.id isAgg22, qhz (fun _ h => h.2.1) d0 isAgg22, qEz (fun _ => q2z _ _ _ _ _ _) hne, trivial⟩ ?_
     refine wpAnyH_done (by kernel_rfl) ?_ _
     obtain ⟨hb, hb2, hr⟩ := hS
     go_wp2_with (first
      | (with_reducible refine qaz (by kernel_rfl) _ _ rfl B _ rfl _ _ hb _ c3 ga3 ?_)
      | (with_reducible refine qGz (by kernel_rfl) 43 _ rfl b _ rfl C' hr _ underlying43 (by kernel_rfl) (qez hz') ?_)
      | ((with_reducible refine wrz rfl _ rfl C' rfl hz' ?_); intro Bp W5 hBp hbp hk5; replace hown := qMz hown hk5; replace hb0 := btz hb0 hk5)
      | (at_builtin; refine qwz jzz underlying23 qoz (by omega) rfl _ _ rfl W0.heap.size _ _ _ rfl hown _ _ _ _ C'.toList rfl (xQz hbp hz') (xVz hC') (by unfold maxLen; omega) (by omega) hb0.size ?_; intro v2 W6 hown6 hgrow; replace hb0 := hb0.grown hgrow hb0.size (xuz hown); replace hown := hown6; clear hown6))
     go_roundw
     case rel =>
      have hne1 := hne.out
      have hst : stps x (X.take (k + 1)) = (A ++ [oat X k], true) := by rw [w8z hkX, hA.out]; unfold stp; simp [hne1]
      have hbw2 := btz hk hb0
      refine ⟨k + 1, cs ++ C'.toList, A ++ [oat X k], true, by omega, by go_num, rfl, hst, ?_, ?_, hb0⟩
      ·simpa [List.length_append] using hown
      ·exact (RowO.app (hro.laterK fun b hb => (hbw2.block b (hD b hb)).trans (hbw.block b (hD b hb)).symm) (RowO.single (hC'.laterK fun b hb => (hbw2.block b (hD b hb)).trans (hbw.block b (hD b hb)).symm)))
     case measure => simp [intOf]; omega
    | false =>
     by_cases hge1 : x.id ≤ (oat X k).id
     ·have hge : Hid (x.id ≤ (oat X k).id) := hge1
      go_wp2_with (first
       | (with_reducible refine qaz (by kernel_rfl) _ _ rfl B _ rfl _ _ hb _ c3 ga3 ?_))
      refine PgM.region_out (S := fun W => Blk W B G 25 ∧ Blk W B2 C 43 ∧ W.rangeAt b (off + k * 51) C'.toList) hmx ⟨hb.next (brz _ _).drew, hb2.next (brz _ _).drew, qmz hr ((brz _ wr).drew.block b hbb)⟩ (fun hS => ?_)
      have hkd := (brz wr.heap.size wr).drew
      replace hown := qMz hown hkd
      replace hb0 := btz hb0 hkd
      replace hbb := ltz hbb hkd.size
      generalize wr.drew = W1 at hS hown hb0 hbb ⊢
      clear hkd hb hb2 hr
      refine qjz (by kernel_rfl) (fun _ _ _ _ _ h => h) hS [(0, none), (1, none), (2, none), (3, none), (4, some (.slice (some ⟨b, off, none⟩) n cap)), (5, none), (6, some (.pointer (some ⟨b, off + k * 51, none⟩))), (7, none), (8, some (.int .u64 (oat X k).id)), (9, none), (10, some (.int .u64 x.id)), (11, some (.bool true)), (12, none)] (l' := #[tt, tt, tt, tt, tt, tt, tt, tt, tt, tt, tt, tt, tt]) (a' := { tmps := #[.agg G, .agg C, .pointer (some ⟨B, 0, none⟩), .pointer (some ⟨B2, 0, none⟩), .pointer (some ⟨R, 0, none⟩), u5, .bool false, .int .i64 k, .int .i64 k, .pointer (some ⟨B, 3, none⟩), .slice (some ⟨b, off, none⟩) n cap, .int .i64 n, .bool true, u13, u14, .bool false, .bool true, .bool true, .pointer (some ⟨B, 3, none⟩), .slice (some ⟨b, off, none⟩) n cap, .int .i64 k, .pointer (some ⟨b, off + k * 51, none⟩), .pointer (some ⟨b, off + k * 51 + 0, none⟩), .int .u64 (oat X k).id, .pointer (some ⟨B2, 0, none⟩), .int .u64 x.id, .bool true, .bool true, u28, u29, u30, u31, u32, u33, u34, u35, u36, u37, u38, u39, u40, u41, u42, u43, u44, u45, u46, u47, u48, undef, undef, undef, undef, undef, undef, undef, undef, undef, undef, undef, undef, undef], defers := [] }) (obs := [.load 23 B 3 (.slice (some ⟨b, off, none⟩) n cap), .ia 23 (.slice (some ⟨b, off, none⟩) n cap) (.int .i64 k) (.pointer (some ⟨b, off + k * 51, none⟩)), .load 22 b (off + k * 51 + 0) (.int .u64 (oat X k).id), .load 22 B2 0 (.int .u64 x.id), .test .geq 22 (.tmp 23) (.tmp 25) (.int .u64 (oat X k).id) (.int .u64 x.id) (.bool true)]) (n := 0) (by kernel_rfl) (by kernel_rfl) ⟨qhz (fun _ h => h.1) c3 isAgg23, wDz hkn, wFz (j := 0) (fun _ h => h.2.2) hC'.id isAgg22, qhz (fun _ h => h.2.1) d0 isAgg22, qEz (fun _ => wuz _ _ _ _ _ _) hge, trivial⟩ ?_
      refine wpAnyH_done (by kernel_rfl) ?_ _
      obtain ⟨hb, hb2, hr⟩ := hS
      go_wp2_with (first
       | (with_reducible refine qlz rfl _ _ rfl B2 rfl _ hb2 _ underlying43 rfl (qez hz) ?_)
       | ((with_reducible refine wrz rfl _ rfl C rfl hz ?_); intro Bq W2 hBq hbq hk2; replace hown := qMz hown hk2; replace hb0 := btz hb0 hk2)
       | (at_builtin; refine qwz jzz underlying23 qoz (by omega) rfl _ _ rfl W0.heap.size _ _ cs rfl hown _ _ _ _ C.toList rfl (xQz hbq hz) (xVz hx) (by unfold maxLen; omega) (by omega) hb0.size ?_; intro v1 W3 hown3 hgrow; replace hb0 := hb0.grown hgrow hb0.size (xuz hown); replace hown := hown3; clear hown3))
      replace hb := hbA.next hb0
      replace hb2 := hb2A.next hb0
      replace hr : W3.rangeAt b (off + k * 51) C'.toList := qmz hrw ((btz hk hb0).block b hbw0)
      replace hbb : b < W3.heap.size := ltz hbw0 (btz hk hb0).size
      clear hgrow hbq hBq hk2
      refine PgM.region_out (S := fun W => Blk W B G 25 ∧ Blk W B2 C 43 ∧ W.rangeAt b (off + k * 51) C'.toList) hmx ⟨hb.next (brz _ _).drew, hb2.next (brz _ _).drew, qmz hr ((brz _ W3).drew.block b hbb)⟩ (fun hS => ?_)
      have hkd := (brz W3.heap.size W3).drew
      replace hown := qMz hown hkd
      replace hb0 := btz hb0 hkd
      replace hbb := ltz hbb hkd.size
      generalize W3.drew = W4 at hS hown hb0 hbb ⊢
      clear hkd hb hb2 hr
      refine qjz (by kernel_rfl) (fun _ _ _ _ _ h => h) hS [(0, none), (1, some (.slice (some ⟨b, off, none⟩) n cap)), (2, none), (3, some (.pointer (some ⟨b, off + k * 51, none⟩))), (4, none), (5, some (.int .u64 (oat X k).id)), (6, none), (7, some (.int .u64 x.id)), (8, some (.bool true))] (l' := #[tt, tt, tt, tt, tt, tt, tt, tt, tt]) (a' := { tmps := #[.agg G, .agg C, .pointer (some ⟨B, 0, none⟩), .pointer (some ⟨B2, 0, none⟩), .pointer (some ⟨R, 0, none⟩), v1, .bool true, .int .i64 k, .int .i64 k, .pointer (some ⟨B, 3, none⟩), .slice (some ⟨b, off, none⟩) n cap, .int .i64 n, .bool true, u13, u14, .bool false, .bool true, .bool true, .pointer (some ⟨B, 3, none⟩), .slice (some ⟨b, off, none⟩) n cap, .int .i64 k, .pointer (some ⟨b, off + k * 51, none⟩), .pointer (some ⟨b, off + k * 51 + 0, none⟩), .int .u64 (oat X k).id, .pointer (some ⟨B2, 0, none⟩), .int .u64 x.id, .bool true, .bool true, u5, .agg C, .slice (some ⟨Bq, 0, none⟩) 1 1, v1, .pointer (some ⟨B, 3, none⟩), .slice (some ⟨b, off, none⟩) n cap, .int .i64 k, .pointer (some ⟨b, off + k * 51, none⟩), .pointer (some ⟨b, off + k * 51 + 0, none⟩), .int .u64 (oat X k).id, .pointer (some ⟨B2, 0, none⟩), .int .u64 x.id, .bool true, u41, u42, u43, u44, u45, u46, u47, u48, undef, undef, undef, undef, undef, undef, undef, undef, undef, undef, undef, undef, undef], defers := [] }) (obs := [.load 23 B 3 (.slice (some ⟨b, off, none⟩) n cap), .ia 23 (.slice (some ⟨b, off, none⟩) n cap) (.int .i64 k) (.pointer (some ⟨b, off + k * 51, none⟩)), .load 22 b (off + k * 51 + 0) (.int .u64 (oat X k).id), .load 22 B2 0 (.int .u64 x.id), .test .neq 22 (.tmp 37) (.tmp 39) (.int .u64 (oat X k).id) (.int .u64 x.id) (.bool true)]) (n := 0) (by kernel_rfl) (by kernel_rfl) ⟨qhz (fun _ h => h.1) c3 isAgg23, wDz hkn, wFz (j := 0) (fun _ h => h.2.2) hC'.id isAgg22, qhz (fun _ h => h.2.1) d0 isAgg22, qEz (fun _ => q2z _ _ _ _ _ _) hne, trivial⟩ ?_
      refine wpAnyH_done (by kernel_rfl) ?_ _
      obtain ⟨hb, hb2, hr⟩ := hS
      go_wp2_with (first
       | (with_reducible refine qaz (by kernel_rfl) _ _ rfl B _ rfl _ _ hb _ c3 ga3 ?_)
       | (with_reducible refine qGz (by kernel_rfl) 43 _ rfl b _ rfl C' hr _ underlying43 (by kernel_rfl) (qez hz') ?_)
       | ((with_reducible refine wrz rfl _ rfl C' rfl hz' ?_); intro Bp W5 hBp hbp hk5; replace hown := qMz hown hk5; replace hb0 := btz hb0 hk5)
       | (at_builtin; refine qwz jzz underlying23 qoz (by omega) rfl _ _ rfl W0.heap.size _ _ _ rfl hown _ _ _ _ C'.toList rfl (xQz hbp hz') (xVz hC') (by unfold maxLen; omega) (by omega) hb0.size ?_; intro v2 W6 hown6 hgrow; replace hb0 := hb0.grown hgrow hb0.size (xuz hown); replace hown := hown6; clear hown6))
      go_roundw
      case rel =>
       have hne1 := hne.out
       have hst : stps x (X.take (k + 1)) = (A ++ [x] ++ [oat X k], true) := by rw [w8z hkX, hA.out]; unfold stp; simp [hge1, hne1]
       have hbw2 := btz hk hb0
       refine ⟨k + 1, cs ++ C.toList ++ C'.toList, A ++ [x] ++ [oat X k], true, by omega, by go_num, rfl, hst, ?_, ?_, hb0⟩
       ·simpa [List.length_append] using hown
       ·exact (RowO.app (RowO.app (hro.laterK fun b hb => (hbw2.block b (hD b hb)).trans (hbw.block b (hD b hb)).symm) (RowO.single (hx.laterK fun b hb => hbw2.block b (hD b hb)))) (RowO.single (hC'.laterK fun b hb => (hbw2.block b (hD b hb)).trans (hbw.block b (hD b hb)).symm)))
      case measure => simp [intOf]; omega
     ·have hge : Hid (¬ x.id ≤ (oat X k).id) := hge1
      go_wp2_with (first
       | (with_reducible refine qaz (by kernel_rfl) _ _ rfl B _ rfl _ _ hb _ c3 ga3 ?_))
      refine PgM.region_out (S := fun W => Blk W B G 25 ∧ Blk W B2 C 43 ∧ W.rangeAt b (off + k * 51) C'.toList) hmx ⟨hb.next (brz _ _).drew, hb2.next (brz _ _).drew, qmz hr ((brz _ wr).drew.block b hbb)⟩ (fun hS => ?_)
      have hkd := (brz wr.heap.size wr).drew
      replace hown := qMz hown hkd
      replace hb0 := btz hb0 hkd
      replace hbb := ltz hbb hkd.size
      generalize wr.drew = W1 at hS hown hb0 hbb ⊢
      clear hkd hb hb2 hr
      refine qjz (by kernel_rfl) (fun _ _ _ _ _ h => h) hS [(0, none), (1, none), (2, none), (3, none), (4, some (.slice (some ⟨b, off, none⟩) n cap)), (5, none), (6, some (.pointer (some ⟨b, off + k * 51, none⟩))), (7, none), (8, some (.int .u64 (oat X k).id)), (9, none), (10, some (.int .u64 x.id)), (11, some (.bool false)), (12, none)] (l' := #[tt, tt, tt, tt, tt, tt, tt, tt, tt, tt, tt, tt, tt]) (a' := { tmps := #[.agg G, .agg C, .pointer (some ⟨B, 0, none⟩), .pointer (some ⟨B2, 0, none⟩), .pointer (some ⟨R, 0, none⟩), u5, .bool false, .int .i64 k, .int .i64 k, .pointer (some ⟨B, 3, none⟩), .slice (some ⟨b, off, none⟩) n cap, .int .i64 n, .bool true, u13, u14, .bool false, .bool true, .bool true, .pointer (some ⟨B, 3, none⟩), .slice (some ⟨b, off, none⟩) n cap, .int .i64 k, .pointer (some ⟨b, off + k * 51, none⟩), .pointer (some ⟨b, off + k * 51 + 0, none⟩), .int .u64 (oat X k).id, .pointer (some ⟨B2, 0, none⟩), .int .u64 x.id, .bool false, .bool false, u28, u29, u30, u31, u32, u33, u34, u35, u36, u37, u38, u39, u40, u41, u42, u43, u44, u45, u46, u47, u48, undef, undef, undef, undef, undef, undef, undef, undef, undef, undef, undef, undef, undef], defers := [] }) (obs := [.load 23 B 3 (.slice (some ⟨b, off, none⟩) n cap), .ia 23 (.slice (some ⟨b, off, none⟩) n cap) (.int .i64 k) (.pointer (some ⟨b, off + k * 51, none⟩)), .load 22 b (off + k * 51 + 0) (.int .u64 (oat X k).id), .load 22 B2 0 (.int .u64 x.id), .test .geq 22 (.tmp 23) (.tmp 25) (.int .u64 (oat X k).id) (.int .u64 x.id) (.bool false)]) (n := 0) (by kernel_rfl) (by kernel_rfl) ⟨qhz (fun _ h => h.1) c3 isAgg23, wDz hkn, wFz (j := 0) (fun _ h => h.2.2) hC'.id isAgg22, qhz (fun _ h => h.2.1) d0 isAgg22, qVz (fun _ => wuz _ _ _ _ _ _) (by refine (?_ : ¬ x.id ≤ (oat X k).id); have := hge.out; omega), trivial⟩ ?_
      refine wpAnyH_done (by kernel_rfl) ?_ _
      obtain ⟨hb, hb2, hr⟩ := hS
      go_wp2
      refine PgM.region_out (S := fun W => Blk W B G 25 ∧ Blk W B2 C 43 ∧ W.rangeAt b (off + k * 51) C'.toList) hmx ⟨hb.next (brz _ _).drew, hb2.next (brz _ _).drew, qmz hr ((brz _ W1).drew.block b hbb)⟩ (fun hS => ?_)
      have hkd := (brz W1.heap.size W1).drew
      replace hown := qMz hown hkd
      replace hb0 := btz hb0 hkd
      replace hbb := ltz hbb hkd.size
      generalize W1.drew = W4 at hS hown hb0 hbb ⊢
      clear hkd hb hb2 hr
      refine qjz (by kernel_rfl) (fun _ _ _ _ _ h => h) hS [(0, none), (1, some (.slice (some ⟨b, off, none⟩) n cap)), (2, none), (3, some (.pointer (some ⟨b, off + k * 51, none⟩))), (4, none), (5, some (.int .u64 (oat X k).id)), (6, none), (7, some (.int .u64 x.id)), (8, some (.bool true))] (l' := #[tt, tt, tt, tt, tt, tt, tt, tt, tt]) (a' := { tmps := #[.agg G, .agg C, .pointer (some ⟨B, 0, none⟩), .pointer (some ⟨B2, 0, none⟩), .pointer (some ⟨R, 0, none⟩), u5, .bool false, .int .i64 k, .int .i64 k, .pointer (some ⟨B, 3, none⟩), .slice (some ⟨b, off, none⟩) n cap, .int .i64 n, .bool true, u13, u14, .bool false, .bool true, .bool true, .pointer (some ⟨B, 3, none⟩), .slice (some ⟨b, off, none⟩) n cap, .int .i64 k, .pointer (some ⟨b, off + k * 51, none⟩), .pointer (some ⟨b, off + k * 51 + 0, none⟩), .int .u64 (oat X k).id, .pointer (some ⟨B2, 0, none⟩), .int .u64 x.id, .bool false, .bool false, u28, u29, u30, u31, .pointer (some ⟨B, 3, none⟩), .slice (some ⟨b, off, none⟩) n cap, .int .i64 k, .pointer (some ⟨b, off + k * 51, none⟩), .pointer (some ⟨b, off + k * 51 + 0, none⟩), .int .u64 (oat X k).id, .pointer (some ⟨B2, 0, none⟩), .int .u64 x.id, .bool true, u41, u42, u43, u44, u45, u46, u47, u48, undef, undef, undef, undef, undef, undef, undef, undef, undef, undef, undef, undef, undef], defers := [] }) (obs := [.load 23 B 3 (.slice (some ⟨b, off, none⟩) n cap), .ia 23 (.slice (some ⟨b, off, none⟩) n cap) (.int .i64 k) (.pointer (some ⟨b, off + k * 51, none⟩)), .load 22 b (off + k * 51 + 0) (.int .u64 (oat X k).id), .load 22 B2 0 (.int .u64 x.id), .test .neq 22 (.tmp 37) (.tmp 39) (.int .u64 (oat X k).id) (.int .u64 x.id) (.bool true)]) (n := 0) (by kernel_rfl) (by kernel_rfl) ⟨qhz (fun _ h => h.1) c3 isAgg23, wDz hkn, wFz (j := 0) (fun _ h => h.2.2) hC'.id isAgg22, qhz (fun _ h => h.2.1) d0 isAgg22, qEz (fun _ => q2z _ _ _ _ _ _) hne, trivial⟩ ?_
      refine wpAnyH_done (by kernel_rfl) ?_ _
      obtain ⟨hb, hb2, hr⟩ := hS
      go_wp2_with (first
       | (with_reducible refine qaz (by kernel_rfl) _ _ rfl B _ rfl _ _ hb _ c3 ga3 ?_)
       | (with_reducible refine qGz (by kernel_rfl) 43 _ rfl b _ rfl C' hr _ underlying43 (by kernel_rfl) (qez hz') ?_)
       | ((with_reducible refine wrz rfl _ rfl C' rfl hz' ?_); intro Bp W5 hBp hbp hk5; replace hown := qMz hown hk5; replace hb0 := btz hb0 hk5)
       | (at_builtin; refine qwz jzz underlying23 qoz (by omega) rfl _ _ rfl W0.heap.size _ _ _ rfl hown _ _ _ _ C'.toList rfl (xQz hbp hz') (xVz hC') (by unfold maxLen; omega) (by omega) hb0.size ?_; intro v2 W6 hown6 hgrow; replace hb0 := hb0.grown hgrow hb0.size (xuz hown); replace hown := hown6; clear hown6))
      go_roundw
      case rel =>
       have hne1 := hne.out
       have hst : stps x (X.take (k + 1)) = (A ++ [oat X k], false) := by rw [w8z hkX, hA.out]; unfold stp; simp [hge1, hne1]
       have hbw2 := btz hk hb0
       refine ⟨k + 1, cs ++ C'.toList, A ++ [oat X k], false, by omega, by go_num, rfl, hst, ?_, ?_, hb0⟩
       ·simpa [List.length_append] using hown
       ·exact (RowO.app (hro.laterK fun b hb => (hbw2.block b (hD b hb)).trans (hbw.block b (hD b hb)).symm) (RowO.single (hC'.laterK fun b hb => (hbw2.block b (hD b hb)).trans (hbw.block b (hD b hb)).symm)))
      case measure => simp [intOf]; omega
  ·obtain rfl : k = n := by omega
   have ht : X.take k = X := by rw [← hn.out]; exact List.take_length
   rw [ht] at hA
   cases d with
   | true =>
    have hput : Hid (A = puR X x) := by show _ = _; rw [← hrp.out, hA.out]; rfl
    have hAl2 : A.length ≤ k + 1 := by rw [hput.out]; exact hln.out
    obtain ⟨ao2, cap2, rfl, hrc⟩ := RowC.of_owns hown
    go_wp2_with (first
     | (with_reducible refine qaz (by kernel_rfl) _ _ rfl B _ rfl _ _ hb _ c3 ga3 ?_)
     | ((with_reducible refine qgz (by kernel_rfl) .gtr _ _ _ _ rfl _ _ rfl rfl (qxz _ _ _ _ _ _) ?_ ?_) <;> first | (intro hq2; exfalso; have h9 := hq2.out; omega) | (intro hq2))
     | ((with_reducible refine qiz rfl _ _ _ rfl B 3 rfl (.slice ao2 (A.length) cap2) rfl rfl G _ hb (by kernel_rfl) (by rw [hzG4]; omega) rfl ?_); intro W7 hb7 o7; rw [cS] at hb7; have hR7 := hR.other o7 hne.symm)
     | (with_reducible refine qlz rfl _ _ rfl B rfl _ hb7 _ underlying25 rfl (hz2 _) ?_)
     | ((with_reducible refine qbz rfl _ _ _ rfl R rfl _ rfl zW hR7 (hz2 _) (hs2 _) (h12 _ _ _) ?_); intro W8 hR8 o8))
    refine bodyPost_ret (v := .agg _) (y3z results36 rfl hR8 rfl) rfl ?_
    have hbw2 := btz hk hb0
    have hRo := hRl.out
    have hBR := hBR0.out
    have hlt := hb0.size
    have hws := hbw2.size
    refine ⟨ao2, (A.length), cap2, rfl, ?_, o8.below _ _ hRo.1 (o7.below _ _ hRo.2 hbw2)⟩
    rw [← hput.out]
    have hob := hrc.obs (hro.laterK fun b hb => (hbw2.block b (hD b hb)).trans (hbw.block b (hD b hb)).symm)
    refine (hob.laterK (w' := W8) (fun b hb => (o8.block b (by have := hD b hb; omega)).trans (o7.block b (by have := hD b hb; omega))) (fun b hb => (o8.block b (by have := hb.1; omega)).trans (o7.block b (by have := hb.1; omega)))).wide (fun b hb => ?_) (fun b hb => ?_)
    ·exact hb
    ·exact ⟨by have := hb.1; have := hk.size; omega, by rw [o8.size, o7.size]; exact hb.2⟩
   | false =>
    have hput : Hid (A ++ [x] = puR X x) := by show _ = _; rw [← hrp.out, hA.out]; rfl
    have hAl2 : A.length ≤ k := by have := hln.out; rw [← hput.out, List.length_append] at this; simp at this; exact this
    go_wp2_with (first
     | (with_reducible refine qaz (by kernel_rfl) _ _ rfl B _ rfl _ _ hb _ c3 ga3 ?_)
     | (with_reducible refine qlz rfl _ _ rfl B2 rfl _ hb2 _ underlying43 rfl (qez hz) ?_)
     | ((with_reducible refine wrz rfl _ rfl C rfl hz ?_); intro Bq W2 hBq hbq hk2; replace hown := qMz hown hk2; replace hb0 := btz hb0 hk2)
     | (at_builtin; refine qwz jzz underlying23 qoz (by omega) rfl _ _ rfl W0.heap.size _ _ cs rfl hown _ _ _ _ C.toList rfl (xQz hbq hz) (xVz hx) (by unfold maxLen; omega) (by omega) hb0.size ?_; intro v1 W3 hown3 hgrow; replace hb0 := hb0.grown hgrow hb0.size (xuz hown); obtain ⟨ao2, cap2, rfl, hrc⟩ := RowC.of_owns hown3; replace hb := hbA.next hb0; replace hR := hRA.next hb0)
     | ((with_reducible refine qgz (by kernel_rfl) .gtr _ _ _ _ rfl _ _ rfl rfl (qxz _ _ _ _ _ _) ?_ ?_) <;> first | (intro hq2; exfalso; have h9 := hq2.out; omega) | (intro hq2))
     | ((with_reducible refine qiz rfl _ _ _ rfl B 3 rfl (.slice ao2 (A.length + 1) cap2) rfl rfl G _ hb (by kernel_rfl) (by rw [hzG4]; omega) rfl ?_); intro W7 hb7 o7; rw [cS] at hb7; have hR7 := hR.other o7 hne.symm)
     | (with_reducible refine qlz rfl _ _ rfl B rfl _ hb7 _ underlying25 rfl (hz2 _) ?_)
     | ((with_reducible refine qbz rfl _ _ _ rfl R rfl _ rfl zW hR7 (hz2 _) (hs2 _) (h12 _ _ _) ?_); intro W8 hR8 o8))
    refine bodyPost_ret (v := .agg _) (y3z results36 rfl hR8 rfl) rfl ?_
    have hbw2 := btz hk hb0
    have hRo := hRl.out
    have hBR := hBR0.out
    have hlt := hb0.size
    have hws := hbw2.size
    refine ⟨ao2, (A.length + 1), cap2, rfl, ?_, o8.below _ _ hRo.1 (o7.below _ _ hRo.2 hbw2)⟩
    rw [← hput.out]
    have hob := hrc.obs (RowO.app (hro.laterK fun b hb => (hbw2.block b (hD b hb)).trans (hbw.block b (hD b hb)).symm) (RowO.single (hx.laterK fun b hb => hbw2.block b (hD b hb))))
    refine (hob.laterK (w' := W8) (fun b hb => (o8.block b (by have := hD b hb; omega)).trans (o7.block b (by have := hD b hb; omega))) (fun b hb => (o8.block b (by have := hb.1; omega)).trans (o7.block b (by have := hb.1; omega)))).wide (fun b hb => ?_) (fun b hb => ?_)
    ·exact hb
    ·exact ⟨by have := hb.1; have := hk.size; omega, by rw [o8.size, o7.size]; exact hb.2⟩
theorem Asks.val {f : FuncId} {args : Array Value} {X : Prop} {W : World} {b : Bool} (h : Asks f args X W) (hb : Hid (b = true ↔ X)) : Calls prog f args W fun e w' => e = .returned (.bool b) ∧ Below W.heap.size W w' := by
 refine h.mono ?_
 rintro e w' ⟨b', rfl, h', k⟩
 refine ⟨?_, k⟩
 have := hb.out
 have := h'.out
 cases b <;> cases b' <;> simp_all
theorem ySz {x : Ob} (h : wtz X) (k : Small x) : wtz (puR X x) := fun y hy => by
 rcases ghz.1 hy with rfl | ⟨q, _⟩
 ·exact k
 ·exact h y q
end
section
open Go.RowKit Go.Shelf
theorem yuz {W W' : World} {ao : Option Addr} {n cap : Nat} {l : List Ob} (h : ObsD (New W W') (fun b => LtN W b ∨ New W W' b) W' ao n cap l) (k : Below W.heap.size W W') : Obs W' ao n cap l :=
 h.wide (fun b hb => by rcases hb with q | q; exact ltz q k.size; exact q.2) (fun b hb => hb.2)
end
section
def qOf (X : List Ob) (i : Int) : Int := match fnd X i with
 | some x => x.quota
 | none => 0
def wCz (X : List Ob) (o : Ob) : Int := pagN o + (o.links.map (qOf X)).sum
def wwz (X : List Ob) (d : Ob) : Int := d.quota - wCz X d
def holL (X : List Ob) (i : Int) : List Int := (X.filter fun d => decide (i ∈ d.links)).map Ob.id
def abvL (X : List Ob) : Nat → Int → List Int
 | 0, _ => []
 | f + 1, i => match holL X i with
  | [] => []
  | h :: _ => h :: abvL X f h
def rabv (X : List Ob) (i : Int) : List Int := if (abvL X (X.length + 1) i).length ≤ X.length then abvL X (X.length + 1) i else []
theorem sum_le {l : List Int} {f : Int → Int} {k : Int} (h : ∀ i ∈ l, 0 ≤ f i ∧ f i ≤ k) : 0 ≤ (l.map f).sum ∧ (l.map f).sum ≤ k * l.length := by
 induction l with
 | nil => simp
 | cons a r ih =>
  have h1 := h a (List.mem_cons_self ..)
  have h2 := ih fun i hi => h i (List.mem_cons_of_mem _ hi)
  rw [List.map_cons, List.sum_cons, List.length_cons]
  have e : k * ((r.length + 1 : Nat) : Int) = k * (r.length : Int) + k := by rw [Int.natCast_add, Int.mul_add]; simp
  rw [e]
  omega
end
section
open Go.RowKit Go.Shelf
attribute [local go_sem] Oper.semAt_some
variable {w : World}
theorem kWz {D : Nat → Prop} {ao : Option Addr} {n cap : Nat} {L : List Int} (h : CtD D w ao n cap L) {i : Nat} (hi : i < n) : ∃ b off, ao = some ⟨b, off, none⟩ ∧ D b ∧ w.cell? ⟨b, off + i, none⟩ = some (.int .u64 (L.getD i 0)) := by
 obtain ⟨b, off, e, hb, hc⟩ := h.2.2.2 (by omega)
 exact ⟨b, off, e, hb, hc i hi⟩
theorem jCz {L : List Int} {i : Nat} (h : i < L.length) : L.getD i 0 ∈ L := by
 rw [List.getD_eq_getElem?_getD, List.getElem?_eq_getElem h]; exact List.getElem_mem h
def cmpI (a b : Int) : Int := if a < b then -1 else if b < a then 1 else 0
variable {a b : Int}
theorem gQz : cmpI a b < 0 ↔ a < b := by unfold cmpI; split <;> (try split) <;> omega
theorem gRz : cmpI a b = 0 ↔ a = b := by unfold cmpI; split <;> (try split) <;> omega
theorem xgz {a : Int} : Calls prog 119 #[.int .u64 a] w fun e w' => e = .returned (.bool false) ∧ w' = w := by
 go_enter func119, ntmps119
 go_wp2
 go_ret
 exact ⟨rfl, rfl⟩
theorem cmp_any : Calls prog 94 #[.int .u64 a, .int .u64 b] w fun e w' => e = .returned (.int .i64 (cmpI a b)) ∧ w' = w := by
 by_cases h1 : a < b
 ·have e1 : cmpI a b = -1 := by unfold cmpI; rw [if_pos h1]
  rw [e1]
  go_enter func94, ntmps94
  go_wp2_with (go_at_call 119; refine xgz.mono ?_; rintro e w1 ⟨rfl, rfl⟩)
  go_ret
  exact ⟨rfl, rfl⟩
 ·by_cases h2 : b < a
  ·have e1 : cmpI a b = 1 := by unfold cmpI; rw [if_neg h1, if_pos h2]
   rw [e1]
   go_enter func94, ntmps94
   go_wp2_with (go_at_call 119; refine xgz.mono ?_; rintro e w1 ⟨rfl, rfl⟩)
   go_ret
   exact ⟨rfl, rfl⟩
  ·have e1 : cmpI a b = 0 := by unfold cmpI; rw [if_neg h1, if_neg h2]
   rw [e1]
   go_enter func94, ntmps94
   go_wp2_with (go_at_call 119; refine xgz.mono ?_; rintro e w1 ⟨rfl, rfl⟩)
   go_ret
   exact ⟨rfl, rfl⟩
theorem jKz {C : Array Value} {x : Ob} {i : Int} (h : ObD (LtN w) w C x) : Calls prog 64 #[.agg C, .int .u64 i] w fun e w' => e = .returned (.int .i64 (cmpI x.id i)) ∧ Below w.heap.size w w' := by
 have c0 := h.id
 have ga1 := isAgg22
 go_enter func64, ntmps64
 go_wp2_with (first
  | (with_reducible refine qcz rfl _ _ rfl C rfl ?_; intro B W hB hb hk)
  | (with_reducible refine qaz (by kernel_rfl) _ _ rfl B _ rfl _ _ hb _ (by assumption) (by assumption) ?_)
  | (go_at_call 94; (with_reducible refine cmp_any.mono ?_); rintro e w1 ⟨rfl, rfl⟩))
 go_ret
 exact ⟨rfl, hk⟩
theorem vKz (w : World) (t : TypeId) (x y : Operand) {v r : Int} (hr : v / 2 = r) : (do eqGuard .shr t x y (.int .u64 v) (.int .u64 1); binOp .shr t (.int .u64 v) (.int .u64 1)).run prog w = .ok (.int .u64 r) w := by
 subst hr
 have e : Op.shift .shr .u64 v .u64 1 = pure (.int .u64 (v / 2)) := shift_shr .u64 .u64 v 1 (by decide) (by decide)
 simp [eqGuard_shr, binOp_shr, e]
theorem v0z (w : World) {m : Nat} (h : m ≤ 4096) : (convert 128 3 (.int .u64 (m : Int))).run prog w = Result.ok (.int .i64 (m : Int)) w := by
 have hw : IntKind.i64.wrap (m : Int) = m := by rw [IntKind.wrap_i64]; omega
 simp [go_sem, convert, run_underlying underlying128, run_underlying underlying3, hw]
section
variable {ops : Array Oper} {rest : List Oper} {op : Oper} {a : Act} {Q : Exit → Act → World → Prop} {w : World}
theorem xvz (hw : Region.wanted op (yielded ops a.tmps) = true) (t d : TypeId) (x : Operand) (ho : op.op = .convert t d x) (u : Value) (hx : a.eval x = u) {r : Value} (hr : (convert t d u).run prog w = .ok r w) (h : wpList prog ops Q rest (a.put op.dst r) w) : wpList prog ops Q (op :: rest) a w := by
 refine q9z hw ?_ h
 subst hx
 unfold execOp
 simp only [ho]
 rw [Sem.run_bind, hr]
 rfl
theorem xNz (hw : Region.wanted op (yielded ops a.tmps) = true) (f : BinOp) (t : TypeId) (x y : Operand) (t' : TypeId) (ho : op.op = .binOp f t x y t') (u v : Value) (hx : a.eval x = u) (hy : a.eval y = v) {r : Value} (hr : (do eqGuard f t x y u v; binOp f t u v).run prog w = .ok r w) (h : wpList prog ops Q rest (a.put op.dst r) w) : wpList prog ops Q (op :: rest) a w := by
 refine q9z hw ?_ h
 subst hx hy
 unfold execOp
 simp only [ho]
 rw [Sem.run_bind, hr]
 rfl
end
theorem bsf_any {w : World} {ao : Option Addr} {n cap : Nat} {X : List Ob} {i : Int} (h : Obs w ao n cap X) (hs : Srt X) (hn16 : n ≤ 4096) : Calls prog 63 #[.slice ao n cap, .int .u64 i, .func (.func 64) #[] #[]] w fun e w' => e = .returned (.tuple #[.int .i64 (ahd X i : Nat), .bool (fnd X i).isSome]) ∧ Below w.heap.size w w' := by
 have hn : Hid (X.length = n) := h.1
 have hnc := h.2.1
 have hcm := h.2.2.1.1
 have hsH : Hid (Srt X) := hs
 clear hs
 go_enter func63, ntmps63
 go_wp2
 go_loopw [9, 10] (fun vl vh wr => ∃ lo hi : Nat, lo ≤ hi ∧ hi ≤ n ∧ vl = .int .i64 lo ∧ vh = .int .i64 hi ∧ Hid (∀ j, j < lo → (oat X j).id < i) ∧ Hid (∀ j, hi ≤ j → j < n → i ≤ (oat X j).id) ∧ Below w.heap.size w wr) (fun vl vh _ => (intOf vh).toNat - (intOf vl).toNat)
 case atStart => exact ⟨0, n, Nat.zero_le _, lrz _, rfl, rfl, fun j hj => absurd hj (by omega), fun j h1 h2 => absurd h2 (by omega), brz _ _⟩
 case round =>
  obtain ⟨lo, hi, hlh, hhn, rfl, rfl, hlo, hhi, hb⟩ := hrel
  have hbs := hb.size
  by_cases hlt : lo < hi
  ·obtain ⟨m, hm⟩ : ∃ m : Nat, m = (lo + hi) / 2 := ⟨_, rfl⟩
   have hmi : ((lo : Int) + hi) / 2 = m := by omega
   have hmn : m < n := by omega
   have hm1 : lo ≤ m := by omega
   have hm2 : m < hi := by omega
   have hmn' : (m : Int) < n := by omega
   have hm96 : m ≤ 4096 := by omega
   obtain ⟨b, off, C, rfl, hbb, hC, hr⟩ := wHz (qqz h hb) hmn
   have hz := hC.size
   clear hm
   go_wp2_with (first
    | (with_reducible refine xNz (by kernel_rfl) .shr _ _ _ _ rfl _ _ rfl rfl (vKz _ _ _ _ hmi) ?_)
    | (with_reducible refine xvz (by kernel_rfl) 128 3 _ rfl (.int .u64 (m : Int)) rfl (v0z _ hm96) ?_)
    | (with_reducible refine qGz (by kernel_rfl) 43 _ rfl b _ rfl C hr _ underlying43 (by kernel_rfl) (qez hz) ?_)
    | (go_at_call 64; (with_reducible refine (jKz hC).mono ?_); rintro e w1 ⟨rfl, hb1⟩))
   ·rename_i hcmp
    have hxi := gQz.1 hcmp
    have hlo2 : Hid (∀ j, j < m + 1 → (oat X j).id < i) := by
     refine (?_ : ∀ j, j < m + 1 → (oat X j).id < i)
     intro j hj
     rcases Nat.lt_or_ge j m with q | q
     ·have hl := hn.out
      have := List.pairwise_iff_getElem.1 hsH.out j m (by omega) (by omega) q
      rw [← qKz (by omega), ← qKz (by omega)] at this
      omega
     ·obtain rfl : j = m := by omega
      exact hxi
    go_roundw
    case rel => exact ⟨m + 1, hi, by omega, hhn, by go_num, rfl, hlo2, hhi, hb.trans (hb1.mono hbs)⟩
    case measure => simp [intOf]; omega
   ·rename_i hcmp
    have hxi : ¬ (oat X m).id < i := fun q => by have := gQz.2 q; omega
    have hhi2 : Hid (∀ j, m ≤ j → j < n → i ≤ (oat X j).id) := by
     refine (?_ : ∀ j, m ≤ j → j < n → i ≤ (oat X j).id)
     intro j hj hjn
     rcases Nat.lt_or_ge m j with q | q
     ·have hl := hn.out
      have := List.pairwise_iff_getElem.1 hsH.out m j (by omega) (by omega) q
      rw [← qKz (by omega), ← qKz (by omega)] at this
      omega
     ·obtain rfl : j = m := by omega
      omega
    go_roundw
    case rel => exact ⟨lo, m, by omega, by omega, rfl, rfl, hlo, hhi2, hb.trans (hb1.mono hbs)⟩
    case measure => simp [intOf]; omega
  ·obtain rfl : lo = hi := by omega
   have hke : Hid (ahd X i = lo) := ahd_of (by rw [hn.out]; exact hhn) hlo.out (fun j h1 h2 => hhi.out j h1 (by rw [← hn.out]; exact h2))
   by_cases hln : lo < n
   ·obtain ⟨b, off, C, rfl, hbb, hC, hr⟩ := wHz (qqz h hb) hln
    have hz := hC.size
    have hln' : (lo : Int) < n := by omega
    by_cases hxi : (oat X lo).id = i
    ·have hf : Hid ((fnd X i).isSome = true) := by show _ = _; rw [voz hsH.out (by rw [hke.out, hn.out]; exact hln) (by rw [hke.out]; exact hxi)]; rfl
     have hc0 : cmpI (oat X lo).id i = 0 := gRz.2 hxi
     have hby := jKz (i := i) hC
     rw [hc0] at hby
     clear hc0 hxi
     go_wp2_with (first
      | (with_reducible refine qGz (by kernel_rfl) 43 _ rfl b _ rfl C hr _ underlying43 (by kernel_rfl) (qez hz) ?_)
      | (go_at_call 64; (with_reducible refine hby.mono ?_); rintro e w1 ⟨rfl, hb1⟩))
     go_ret2
     refine ⟨?_, hb.trans (hb1.mono hbs)⟩
     rw [hf.out, hke.out]; rfl
    ·have hf : Hid ((fnd X i).isSome = false) := by show _ = _; rw [w5z hsH.out (by rw [hke.out]; exact fun q => hxi q.2)]; rfl
     have hc0 : (cmpI (oat X lo).id i == 0) = false := by rw [beq_eq_false_iff_ne]; exact fun q => hxi (gRz.1 q)
     clear hxi
     go_wp2_with (first
      | (with_reducible refine qGz (by kernel_rfl) 43 _ rfl b _ rfl C hr _ underlying43 (by kernel_rfl) (qez hz) ?_)
      | (go_at_call 64; (with_reducible refine (jKz hC).mono ?_); rintro e w1 ⟨rfl, hb1⟩))
     go_ret2
     refine ⟨?_, hb.trans (hb1.mono hbs)⟩
     rw [hf.out, hke.out]; rfl
   ·have hf : Hid ((fnd X i).isSome = false) := by show _ = _; rw [w5z hsH.out (by rw [hke.out, hn.out]; exact fun q => hln q.1)]; rfl
    have hln' : ¬ (lo : Int) < n := by omega
    go_wp2
    go_ret2
    refine ⟨?_, hb⟩
    rw [hf.out, hke.out]; rfl
def ObsF (E D : Nat → Prop) (w : World) (ao : Option Addr) (n cap : Nat) (X : List Ob) (Cf : Nat → Array Value) : Prop :=
 X.length = n ∧ n ≤ cap ∧ (cap ≤ 9223372036854775807 ∧ (ao = none → cap = 0)) ∧
 (0 < n → ∃ b off, ao = some ⟨b, off, none⟩ ∧ E b ∧ ∀ i, i < n → w.rangeAt b (off + i * 51) (Cf i).toList) ∧ ∀ i, i < n → ObD D w (Cf i) (oat X i)
section
variable {E E' D D' : Nat → Prop} {w w' : World} {ao : Option Addr} {n cap : Nat} {X : List Ob} {Cf : Nat → Array Value}
theorem ObsD.fam (h : ObsD E D w ao n cap X) : ∃ Cf, ObsF E D w ao n cap X Cf := by
 obtain ⟨h1, h2, h3, h4⟩ := h
 rcases Nat.eq_zero_or_pos n with h0 | h0
 ·exact ⟨fun _ => #[], h1, h2, h3, fun q => absurd q (by omega), fun i hi => absurd hi (by omega)⟩
 ·obtain ⟨b, off, e, hb, hc⟩ := h4 h0
  have key : ∀ i, ∃ C, i < n → ObD D w C (oat X i) ∧ w.rangeAt b (off + i * 51) C.toList := fun i => by
   by_cases hi : i < n
   ·obtain ⟨C, hC⟩ := hc i hi; exact ⟨C, fun _ => hC⟩
   ·exact ⟨#[], fun q => absurd q hi⟩
  exact ⟨fun i => Classical.choose (key i), h1, h2, h3, fun _ => ⟨b, off, e, hb, fun i hi => (Classical.choose_spec (key i) hi).2⟩, fun i hi => (Classical.choose_spec (key i) hi).1⟩
theorem ObsF.obs (h : ObsF E D w ao n cap X Cf) : ObsD E D w ao n cap X := by
 obtain ⟨h1, h2, h3, h4, h5⟩ := h
 refine ⟨h1, h2, h3, fun h0 => ?_⟩
 obtain ⟨b, off, e, hb, hc⟩ := h4 h0
 exact ⟨b, off, e, hb, fun i hi => ⟨Cf i, h5 i hi, hc i hi⟩⟩
theorem ObsF.laterK (h : ObsF E D w ao n cap X Cf) (k : ∀ b, D b → w'.heap[b]? = w.heap[b]?) (k' : ∀ b, E b → w'.heap[b]? = w.heap[b]?) : ObsF E D w' ao n cap X Cf := by
 obtain ⟨h1, h2, h3, h4, h5⟩ := h
 refine ⟨h1, h2, h3, fun h0 => ?_, fun i hi => (h5 i hi).laterK k⟩
 obtain ⟨b, off, e, hb, hc⟩ := h4 h0
 exact ⟨b, off, e, hb, fun i hi => qmz (hc i hi) (k' b hb)⟩
theorem ObsF.wide (h : ObsF E D w ao n cap X Cf) (k : ∀ b, D b → D' b) (k' : ∀ b, E b → E' b) : ObsF E' D' w ao n cap X Cf := by
 obtain ⟨h1, h2, h3, h4, h5⟩ := h
 refine ⟨h1, h2, h3, fun h0 => ?_, fun i hi => (h5 i hi).wide k⟩
 obtain ⟨b, off, e, hb, hc⟩ := h4 h0
 exact ⟨b, off, e, k' b hb, hc⟩
theorem ObsF.next (h : ObsF (LtN w) (LtN w) w ao n cap X Cf) (k : Below w.heap.size w w') : ObsF (LtN w') (LtN w') w' ao n cap X Cf :=
 (h.laterK (fun b hb => k.block b hb) (fun b hb => k.block b hb)).wide (fun b hb => ltz hb k.size) (fun b hb => ltz hb k.size)
end
def fC (X : List Ob) (Cf : Nat → Array Value) (i : Int) : Array Value := if (fnd X i).isSome = true then Cf (ahd X i) else zC
theorem xLz {w : World} {t ke ro : Int} {ao : Option Addr} {n cap : Nat} {X : List Ob} {Cf : Nat → Array Value} {i : Int} (h : ObsF (LtN w) (LtN w) w ao n cap X Cf) (hs : Srt X) (hn16 : n ≤ 4096) : Calls prog 32 #[.agg #[.int .i64 t, .int .u64 ke, .int .u64 ro, .slice ao n cap], .int .u64 i] w fun e w' => e = .returned (.tuple #[.agg (fC X Cf i), .bool (fnd X i).isSome]) ∧ Below w.heap.size w w' := by
 have hn : Hid (X.length = n) := h.1
 have hsH : Hid (Srt X) := hs
 have hle : ahd X i ≤ n := by rw [← hn.out]; exact jfz X i
 have ga3 := isAgg23
 have hbs := fun (W : World) (hk : Below w.heap.size w W) => bsf_any (i := i) (ObsF.obs (h.next hk)) hs hn16
 have c3 : (#[.int .i64 t, .int .u64 ke, .int .u64 ro, .slice ao n cap] : Array Value)[3]? = some (.slice ao n cap) := rfl
 obtain ⟨G, hG⟩ : ∃ G : Array Value, G = #[.int .i64 t, .int .u64 ke, .int .u64 ro, .slice ao n cap] := ⟨_, rfl⟩
 rw [← hG] at c3
 rw [← hG]
 clear hG
 obtain ⟨k, hke⟩ : ∃ k, Hid (ahd X i = k) := ⟨_, rfl⟩
 rw [hke.out] at hbs hle
 clear hs
 by_cases hf : (fnd X i).isSome = true
 obtain ⟨x, hx⟩ := Option.isSome_iff_exists.1 hf
 have hq : ahd X i < X.length ∧ (oat X (ahd X i)).id = i := Classical.byContradiction fun q => by rw [w5z hsH.out q] at hx; cases hx
 have hkn : k < n := by have := hq.1; rw [hke.out, hn.out] at this; exact this
 have hfC : Hid (fC X Cf i = Cf k) := by show _ = _; unfold fC; rw [if_pos hf, hke.out]
 rw [hf] at hbs ⊢
 rw [hfC.out]
 obtain ⟨b, off, rfl, hbb, hrr⟩ := h.2.2.2.1 (by omega)
 have hr := hrr k hkn
 have hz := (h.2.2.2.2 k hkn).size
 have h1c := (h.2.2.2.2 k hkn).one
 have hkn' : (k : Int) < n := by omega
 generalize Cf k = C at hr hz h1c ⊢
 clear hx hq hf hrr
 rotate_left
 have hx : (fnd X i).isSome = false := by simpa using hf
 have hfC : Hid (fC X Cf i = zC) := by show _ = _; unfold fC; rw [if_neg hf]
 rw [hx] at hbs ⊢
 rw [hfC.out]
 clear hx hf
 rotate_left
 all_goals go_enter func32, ntmps32
 all_goals go_wp2_with (first
  | go_skip
  | (with_reducible refine qcz rfl _ _ rfl G rfl ?_; intro B W hB hb hk)
  | ((with_reducible refine qfz rfl _ rfl zC qzz ?_); intro R W1 hB1 hR hk1; replace hb := hb.next hk1; replace hk := btz hk hk1)
  | (with_reducible refine qaz (by kernel_rfl) _ _ rfl B _ rfl _ _ hb _ c3 ga3 ?_)
  | (go_at_call 63; (with_reducible refine (hbs _ hk).mono ?_); rintro e w2 ⟨rfl, hb2⟩; replace hb := hb.next hb2; replace hR := hR.next hb2; replace hk := btz hk hb2; replace hr := qmz hr (hk.block b hbb))
  | (go_at_call 63; (with_reducible refine (hbs _ hk).mono ?_); rintro e w2 ⟨rfl, hb2⟩; replace hb := hb.next hb2; replace hR := hR.next hb2; replace hk := btz hk hb2)
  | ((with_reducible refine qLz rfl _ [] rfl zC ?hf ?_); (case hf => exact gTz))
  | ((with_reducible refine qbz rfl _ _ _ rfl R rfl zC rfl zC hR (qez qoz) rfl (zC_d (fun _ => True) w).one ?_); intro W4 hR4 o4)
  | (with_reducible refine qGz (by kernel_rfl) 43 _ rfl b _ rfl C hr _ underlying43 (by kernel_rfl) (qez hz) ?_)
  | ((with_reducible refine qbz rfl _ _ _ rfl R rfl C rfl zC hR (qez hz) (qoz.trans hz.symm) h1c ?_); intro W4 hR4 o4))
 ·have hRl : w.heap.size ≤ R := by have := hB.out; have := hB1.out; omega
  refine bodyPost_ret (v := .tuple #[.agg C, .bool true]) (xGz results32 rfl rfl hR4 hz) rfl ?_
  exact ⟨rfl, o4.below _ _ hRl hk⟩
 ·have hRl : w.heap.size ≤ R := by have := hB.out; have := hB1.out; omega
  refine bodyPost_ret (v := .tuple #[.agg zC, .bool false]) (xGz results32 rfl rfl hR4 qoz) rfl ?_
  exact ⟨rfl, o4.below _ _ hRl hk⟩
section
variable {F : Fence} (hF : ∀ f, F.fn f) {N : Nat} {ops : Array Oper} {rest : List Oper} {op : Oper} {a : Act} {Q : Exit → Act → World → Prop} {w w' : World}
include hF
theorem kGz {v : Value} (hd : ∀ c, op.op ≠ .defer c) (hw : Region.wanted op (yielded ops a.tmps) = true) (hr : (execOp a.eval op).run prog w = .ok (.value v) w') (h : wpListIn F N prog ops Q rest (a.put op.dst v) w') : wpListIn F N prog ops Q (op :: rest) a w := by
 simp only [wpListIn, hw, if_true]
 refine ⟨fun f _ => hF f, ?_⟩
 rw [Oper.semAt_plain F _ _ hd, hr, Oper.uponIn_value]
 exact h
theorem jAz (hd : ∀ c, op.op ≠ .defer c) (hw : Region.wanted op (yielded ops a.tmps) = true) (hr : (execOp a.eval op).run prog w = .ok .skip w') (h : wpListIn F N prog ops Q rest (a.put op.dst undef) w') : wpListIn F N prog ops Q (op :: rest) a w := by
 simp only [wpListIn, hw, if_true]
 refine ⟨fun f _ => hF f, ?_⟩
 rw [Oper.semAt_plain F _ _ hd, hr, Oper.uponIn_skip]
 exact h
theorem vlz (hw : Region.wanted op (yielded ops a.tmps) = true) (ty : TypeId) (x : Operand) (ho : op.op = .load ty x) (b o : Nat) (hx : a.eval x = .pointer (some ⟨b, o, none⟩)) (C : Array Value) (hr : w.rangeAt b o C.toList) (d : TypeDesc)
  (hu : prog.underlying ty = some d) (hd : d.isRow = true) (hi : (prog.info? ty).map (·.size) = some C.size) (h : wpListIn F N prog ops Q rest (a.put op.dst (.agg C)) w) : wpListIn F N prog ops Q (op :: rest) a w := by
 refine kGz hF (by rw [ho]; intro c hc; cases hc) hw ?_ h
 have := run_loadVar_mid (P := prog) w b o ty C.toList d hr hu hd (by simpa using hi)
 rw [Array.toArray_toList] at this
 unfold execOp
 simp [ho, hx, Instr.loadAt, Instr.sureAddr, this]
theorem qQz (hw : Region.wanted op (yielded ops a.tmps) = true) (ty : TypeId) (x : Operand) (ho : op.op = .load ty x) (B : Nat) (hx : a.eval x = .pointer (some ⟨B, 0, none⟩)) (C : Array Value) (t : TypeId) (hB : Blk w B C t) (d : TypeDesc)
  (hu : prog.underlying ty = some d) (hd : d.isRow = true) (hi : (prog.info? ty).map (·.size) = some C.size) (h : wpListIn F N prog ops Q rest (a.put op.dst (.agg C)) w) : wpListIn F N prog ops Q (op :: rest) a w :=
 vlz hF hw ty x ho B 0 hx C hB.range0 d hu hd hi h
theorem wxz (hw : Region.wanted op (yielded ops a.tmps) = true) (ty : TypeId) (ho : op.op = .alloc ty) (z : Array Value) (hz : ∀ w, (zeroValue ty).run prog w = .ok (.agg z) w)
  (h : ∀ B W, Hid (w.heap.size = B ∧ W.heap.size = B + 1) → Blk W B z ty → Below w.heap.size w W → wpListIn F N prog ops Q rest (a.put op.dst (.pointer (some ⟨B, 0, none⟩))) W) : wpListIn F N prog ops Q (op :: rest) a w := by
 refine kGz hF (by rw [ho]; intro c hc; cases hc) hw (w' := w.alloc (.cells z ty)) (v := .pointer (some ⟨w.heap.size, 0, none⟩)) ?_ (h _ _ ⟨rfl, by simp⟩ (Blk.new w z ty) ((brz _ w).alloc (lrz _) _))
 unfold execOp
 simp [ho, Instr.alloc, hz, newVar, newRow, newObj, Value.cells]
 rfl
theorem x0z (hw : Region.wanted op (yielded ops a.tmps) = true) (ty : TypeId) (x : Operand) (ho : op.op = .box ty x) (C : Array Value) (hx : a.eval x = .agg C)
  (h : ∀ B W, Hid (w.heap.size = B ∧ W.heap.size = B + 1) → Blk W B C ty → Below w.heap.size w W → wpListIn F N prog ops Q rest (a.put op.dst (.pointer (some ⟨B, 0, none⟩))) W) : wpListIn F N prog ops Q (op :: rest) a w := by
 refine kGz hF (by rw [ho]; intro c hc; cases hc) hw (w' := w.alloc (.cells C ty)) (v := .pointer (some ⟨w.heap.size, 0, none⟩)) ?_ (h _ _ ⟨rfl, by simp⟩ (Blk.new w C ty) ((brz _ w).alloc (lrz _) _))
 unfold execOp
 simp [ho, hx, Instr.box, newVar, newRow, newObj, Value.cells]
 rfl
theorem qPz (hw : Region.wanted op (yielded ops a.tmps) = true) (ty : TypeId) (x y : Operand) (ho : op.op = .store ty x y) (B : Nat) (hx : a.eval x = .pointer (some ⟨B, 0, none⟩)) (C : Array Value) (hy : a.eval y = .agg C) (old : Array Value) (hB : Blk w B old ty)
  (hi : (prog.info? ty).map (·.size) = some C.size) (hs : old.size = C.size) (h1 : C.all (·.oneCell') = true)
  (h : ∀ W, Blk W B C ty → Oth B w W → wpListIn F N prog ops Q rest (a.put op.dst undef) W) : wpListIn F N prog ops Q (op :: rest) a w := by
 obtain ⟨W, hr, hb, ho'⟩ := wlz hB hi hs h1
 refine jAz hF (by rw [ho]; intro c hc; cases hc) hw (w' := W) ?_ (h W hb ho')
 unfold execOp
 simp only [ho, hx, hy, Instr.storeAt, Instr.sureAddr, Sem.run_bind, Sem.run_pure, Result.andThen_ok, hr]
end
def cfo (X : List Ob) (Cf : Nat → Array Value) (i : Nat) : Array Value := if i < X.length then Cf i else zC
variable {X : List Ob} {Cf : Nat → Array Value}
theorem cfo_lt {i : Nat} (h : i < X.length) : cfo X Cf i = Cf i := if_pos h
variable {ao : Option Addr} {w : World} {n cap : Nat}
theorem jcz {E D : Nat → Prop} (h : ObsF E D w ao n cap X Cf) (i : Nat) : ObD D w (cfo X Cf i) (oat X i) := by
 unfold cfo
 split
 ·rename_i q; exact h.2.2.2.2 i (by rw [← h.1]; exact q)
 ·rename_i q
  have : oat X i = zOb := by unfold oat; rw [List.getD_eq_getElem?_getD, List.getElem?_eq_none (by omega)]; rfl
  rw [this]; exact zC_d D w
def wh (X : List Ob) (i : Int) : Option Nat := if (fnd X i).isSome = true then some (ahd X i) else none
def hitO (X : List Ob) (l : List Int) : List Nat := l.filterMap (wh X)
theorem gzz {l : List Int} {k : Nat} (h : k < l.length) : hitO X (l.take (k + 1)) = hitO X (l.take k) ++ (wh X (l.getD k 0)).toList := by
 unfold hitO
 have e : ([l[k]] : List Int).filterMap (wh X) = (wh X l[k]).toList := by
  simp only [List.filterMap_cons, List.filterMap_nil]
  cases wh X l[k] <;> rfl
 rw [List.take_add_one, List.getElem?_eq_getElem h, Option.toList_some, List.filterMap_append, List.getD_eq_getElem?_getD, List.getElem?_eq_getElem h, e]
 rfl
theorem hitO_pre {l : List Int} {k : Nat} : hitO X (l.take k) <+: hitO X l := by
 unfold hitO
 conv => rhs; rw [← List.take_append_drop k l]
 rw [List.filterMap_append]
 exact List.prefix_append _ _
theorem wh_lt (hs : Srt X) {i : Int} {k : Nat} (h : wh X i = some k) : k < X.length ∧ fnd X i = some (oat X k) := by
 unfold wh at h
 split at h
 ·rename_i hf
  cases h
  obtain ⟨x, hx⟩ := Option.isSome_iff_exists.1 hf
  have hq : ahd X i < X.length ∧ (oat X (ahd X i)).id = i := Classical.byContradiction fun q => by rw [w5z hs q] at hx; cases hx
  exact ⟨hq.1, voz hs hq.1 hq.2⟩
 ·cases h
def encO (X : List Ob) (Cf : Nat → Array Value) (i : Nat) : Array Value := #[.agg (cfo X Cf i)]
variable {t ke ro : Int}
theorem uaz (N : Nat) (hN : 1 ≤ N) (l Bd Bv : Nat) (D : Nat → Prop) {ao al : Option Addr} {n cap nl cl : Nat} {Cd : Array Value} {L : List Int} (hs : Srt X) (hn16 : n ≤ 4096) (J Jx : List Nat → World → Prop)
  (hY : ∀ pre x W, J pre W → pre.length < (hitO X L).length → YieldAt Fence.wide (N - 1) prog l (encO X Cf x) W fun e W' =>
   (e = .returned (.bool true) ∧ J (pre ++ [x]) W' ∧ Keeps D W W') ∨ (e = .returned (.bool false) ∧ Jx (pre ++ [x]) W'))
  (W : World) (hJ : AbidesFrom W.heap.size J) (hD : ∀ b, D b → b < W.heap.size) (hDd : D Bd) (hDv : D Bv) (hBd : Blk W Bd Cd 43) (hc5 : Cd[5]? = some (.slice al nl cl)) (hBv : Blk W Bv #[.int .i64 t, .int .u64 ke, .int .u64 ro, .slice ao n cap] 72)
  (hX : ObsF D D W ao n cap X Cf) (hL : CtD D W al nl cl L) (h0 : J [] W) :
  CallsIn Fence.wide N prog 105 #[.func (.yield l) #[] #[], .pointer (some ⟨Bd, 0, none⟩), .pointer (some ⟨Bv, 0, none⟩)] W fun e W' => (∃ v, e = .returned v) ∧
   ((∃ ys, ys = hitO X L ∧ J ys W') ∨ (∃ pre, pre <+: hitO X L ∧ Jx pre W')) := by
 have hln : Hid (L.length = nl) := hL.1
 have hlc := hL.2.1
 have hlm := hL.2.2.1.1
 have ga4 := isAgg28
 have ga1 := isAgg22
 have hzv : (prog.info? 72).map (·.size) = some (#[.int .i64 t, .int .u64 ke, .int .u64 ro, .slice ao n cap] : Array Value).size := by kernel_rfl
 have hfd := fun (W' : World) (i : Int) (hk : Keeps D W W') => xLz (t := t) (ke := ke) (ro := ro) (i := i) ((hX.laterK (fun b hb => hk.2 b hb) (fun b hb => hk.2 b hb)).wide (D' := LtN W') (E' := LtN W') (fun b hb => ltz (hD b hb) hk.1) (fun b hb => ltz (hD b hb) hk.1)) hs hn16
 obtain ⟨G, hG⟩ : ∃ G : Array Value, G = #[.int .i64 t, .int .u64 ke, .int .u64 ro, .slice ao n cap] := ⟨_, rfl⟩
 rw [← hG] at hBv hzv hfd
 clear hG
 have hc : W.cell? ⟨Bd, 5, none⟩ = some (.slice al nl cl) := (hBd.cell 5).trans hc5
 refine callsIn_of_wp func105 rfl trivial ?_ rfl
 simp only [ntmps105, List.size_toArray, List.length_cons, List.length_nil, Nat.reduceAdd, Nat.reduceSub, Array.replicate_succ, Array.replicate_zero, List.push_toArray, List.append_toArray, List.nil_append, List.cons_append]
 gi_wp2
 gi_loopw [11] (fun i wr => ∃ k : Nat, k ≤ nl ∧ i = .int .i64 k ∧ Keeps D W wr ∧ J (hitO X (L.take k)) wr) (fun i _ => nl - (intOf i).toNat)
 case atStart => exact ⟨0, Nat.zero_le _, rfl, Keeps.refl _ _, h0⟩
 case round =>
  obtain ⟨k, hk, rfl, hkp, hJk⟩ := hrel
  by_cases hkn : k < nl
  ·obtain ⟨bl, offl, rfl, hbl, hcl⟩ := kWz (CtD.laterK hL fun b hb => hkp.2 b hb) hkn
   have hv : Blk wr Bv G 72 := (hkp.2 Bv hDv).trans hBv
   have hkn' : (k : Int) < nl := by omega
   have hsu := gzz (X := X) (show k < L.length by rw [hln.out]; exact hkn)
   have hpre : Hid (hitO X (L.take (k + 1)) <+: hitO X L) := hitO_pre
   generalize L.getD k 0 = i at hcl hsu
   have hfi := hfd wr i hkp
   have hzf : (fC X Cf i).size = 51 ∧ (fC X Cf i).all (·.oneCell') = true := by
    unfold fC
    split
    ·rename_i hf
     have := (wh_lt hs (show wh X i = some (ahd X i) by unfold wh; rw [if_pos hf])).1
     exact ⟨(hX.2.2.2.2 _ (by rw [← hX.1]; exact this)).size, (hX.2.2.2.2 _ (by rw [← hX.1]; exact this)).one⟩
    ·exact ⟨qoz, (zC_d (fun _ => True) wr).one⟩
   cases hw : wh X i with
   | none =>
    have hf : (fnd X i).isSome = false := by unfold wh at hw; split at hw; cases hw; rename_i q; simpa using q
    rw [hf] at hfi
    rw [hw] at hsu
    simp only [Option.toList_none, List.append_nil] at hsu
    generalize fC X Cf i = C at hfi hzf
    clear hfd hw hf
    gi_wp2_with (first
     | (with_reducible refine qQz (fun _ => trivial) (by kernel_rfl) _ _ rfl Bv rfl G _ hv _ underlying72 (by kernel_rfl) hzv ?_)
     | (refine ⟨trivial, ?_⟩; gi_at_call 32; (with_reducible refine (callsIn_wide.2 hfi).mono ?_); rintro e w1 ⟨rfl, hb1⟩)
     | ((with_reducible refine wxz (fun _ => trivial) (by kernel_rfl) _ rfl zC qzz ?_); intro R W5 hN5 hR5 hk5)
     | ((with_reducible refine qPz (fun _ => trivial) (by kernel_rfl) _ _ _ rfl R rfl C rfl zC hR5 (qez hzf.1) (qoz.trans hzf.1.symm) hzf.2 ?_); intro W6 hR6 o6)
     | (with_reducible refine qQz (fun _ => trivial) (by kernel_rfl) _ _ rfl R rfl C _ hR6 _ underlying43 (by kernel_rfl) (qez hzf.1) ?_))
    have kb : Below wr.heap.size wr W6 := o6.below wr.heap.size wr (by have := hN5.out; have := hb1.size; omega) (btz hb1 hk5)
    have hk1 : Keeps D wr W6 := ⟨kb.size, fun b hb => kb.block b (ltz (hD b hb) hkp.1)⟩
    have hJ1 := hJ _ wr W6 none hJk (below_grown kb) (fun r e => by cases e)
    refine ⟨fun f e => (by cases e), ?_⟩
    gi_wp2
    go_roundw
    case rel => exact ⟨k + 1, by omega, by go_num, hkp.trans hk1, by rw [hsu]; exact hJ1⟩
    case measure => simp [intOf]; omega
   | some m =>
    have hm := wh_lt hs hw
    have hf : (fnd X i).isSome = true := by rw [hm.2]; rfl
    have hmm : m = ahd X i := by unfold wh at hw; rw [if_pos hf] at hw; cases hw; rfl
    have hfc : fC X Cf i = Cf m := by unfold fC; rw [if_pos hf, hmm]
    have hix : Hid (cfo X Cf m = Cf m) := cfo_lt hm.1
    rw [hfc] at hfi hzf
    rw [hf] at hfi
    rw [hw] at hsu
    simp only [Option.toList_some] at hsu
    have hsu' : Hid (hitO X (L.take (k + 1)) = hitO X (L.take k) ++ [m]) := hsu
    obtain ⟨C, hC⟩ : ∃ C, Hid (C = Cf m) := ⟨_, rfl⟩
    rw [← hC.out] at hfi hzf
    clear hfd hw hf hfc hmm hm hsu
    gi_wp2_with (first
     | (with_reducible refine qQz (fun _ => trivial) (by kernel_rfl) _ _ rfl Bv rfl G _ hv _ underlying72 (by kernel_rfl) hzv ?_)
     | (refine ⟨trivial, ?_⟩; gi_at_call 32; (with_reducible refine (callsIn_wide.2 hfi).mono ?_); rintro e w1 ⟨rfl, hb1⟩)
     | ((with_reducible refine wxz (fun _ => trivial) (by kernel_rfl) _ rfl zC qzz ?_); intro R W5 hN5 hR5 hk5)
     | ((with_reducible refine qPz (fun _ => trivial) (by kernel_rfl) _ _ _ rfl R rfl C rfl zC hR5 (qez hzf.1) (qoz.trans hzf.1.symm) hzf.2 ?_); intro W6 hR6 o6)
     | (with_reducible refine qQz (fun _ => trivial) (by kernel_rfl) _ _ rfl R rfl C _ hR6 _ underlying43 (by kernel_rfl) (qez hzf.1) ?_))
    have kb : Below wr.heap.size wr W6 := o6.below wr.heap.size wr (by have := hN5.out; have := hb1.size; omega) (btz hb1 hk5)
    have hk1 : Keeps D wr W6 := ⟨kb.size, fun b hb => kb.block b (ltz (hD b hb) hkp.1)⟩
    have hJ1 := hJ _ wr W6 none hJk (below_grown kb) (fun r e => by cases e)
    obtain ⟨fn, tmps, assign, body, hyy, hR⟩ := hY (hitO X (L.take k)) m W6 hJ1 (by have := hpre.out.length_le; rw [hsu'.out] at this; simp at this; omega)
    dsimp only [encO] at hyy
    rw [hix.out, ← hC.out] at hyy
    rw [hyy]
    gi_wp2
    refine hR.mono ?_
    rintro e W3 (⟨rfl, hJ3, hk3⟩ | ⟨rfl, hJx3⟩)
    ·gi_wp2
     go_roundw
     case rel => exact ⟨k + 1, by omega, by go_num, (hkp.trans hk1).trans hk3, by rw [hsu'.out]; exact hJ3⟩
     case measure => simp [intOf]; omega
    ·gi_wp2
     refine bodyPost_ret (results_none rfl _ _ _) rfl ?_
     exact ⟨⟨_, rfl⟩, .inr ⟨_, by have h1 := hpre.out; rw [hsu'.out] at h1; exact h1, hJx3⟩⟩
  ·obtain rfl : k = nl := by omega
   gi_wp2
   go_end0
   exact ⟨⟨_, rfl⟩, .inl ⟨_, rfl, by rw [← hln.out, List.take_length] at hJk; exact hJk⟩⟩
theorem xhz (N : Nat) (hN : 1 ≤ N) (Bd Bv : Nat) (D : Nat → Prop) {ao al : Option Addr} {n cap nl cl : Nat} {Cd : Array Value} {L : List Int} (hs : Srt X) (hn16 : n ≤ 4096) (w : World)
  (hD : ∀ b, D b → b < w.heap.size) (hDd : D Bd) (hDv : D Bv) (hBd : Blk w Bd Cd 43) (hc5 : Cd[5]? = some (.slice al nl cl)) (hBv : Blk w Bv #[.int .i64 t, .int .u64 ke, .int .u64 ro, .slice ao n cap] 72) (hX : ObsF D D w ao n cap X Cf) (hL : CtD D w al nl cl L) :
  SeqStopsK Fence.wide N prog 105 #[.pointer (some ⟨Bd, 0, none⟩), .pointer (some ⟨Bv, 0, none⟩)] (encO X Cf) (Keeps D) (fun ys => ys = hitO X L) (fun pre => pre <+: hitO X L) (hitO X L).length w := fun l J Jx W hW hJ _ hY h0 =>
 uaz N hN l Bd Bv D hs hn16 J Jx hY W hJ (fun b hb => ltz (hD b hb) hW.size) hDd hDv ((hW.block Bd (hD Bd hDd)).trans hBd) hc5 ((hW.block Bv (hD Bv hDv)).trans hBv) (hX.laterK (fun b hb => hW.block b (hD b hb)) (fun b hb => hW.block b (hD b hb))) (hL.laterK fun b hb => hW.block b (hD b hb)) h0
variable {C : Array Value}
theorem Blk.own {X Y : World} {R : Nat} {t : TypeId} {row : Option Nat} (h : Blk X R C t) (hg : X.grownBy Y row) (hr : ∀ r, row = some r → ∃ o : Obj, X.heap[r]? = some o ∧ o.isCells = false) : Blk Y R C t :=
 (hg.block R h.lt (fun e => by obtain ⟨o, ho, hc⟩ := hr R e.symm; rw [show X.heap[R]? = _ from h] at ho; cases ho; cases hc)).trans h
theorem xZz {G C : Array Value} : Calls prog 74 #[.agg G, .agg C] w fun e w' => ∃ Bv Bd, e = .returned (.func (.func 105) #[] #[.pointer (some ⟨Bd, 0, none⟩), .pointer (some ⟨Bv, 0, none⟩)]) ∧ Blk w' Bv G 72 ∧ Blk w' Bd C 43 ∧ Bv ≠ Bd ∧ w.heap.size ≤ Bv ∧ w.heap.size ≤ Bd ∧ Below w.heap.size w w' := by
 go_enter func74, ntmps74
 go_wp2_with (first
  | (with_reducible refine qcz rfl 72 _ rfl G rfl ?_; intro Bv W hB hb hk)
  | (with_reducible refine qcz rfl 43 _ rfl C rfl ?_; intro Bd W2 hB2 hb2 hk2; replace hb := hb.next hk2; replace hk := btz hk hk2))
 go_ret
 exact ⟨Bv, Bd, rfl, hb, hb2, by have := hB.out; have := hB2.out; omega, by have := hB.out; omega, by have := hB.out; have := hB2.out; omega, hk⟩
theorem sum_hits (hs : Srt X) (L : List Int) : ((hitO X L).map fun m => (oat X m).quota).sum = (L.map (qOf X)).sum := by
 induction L with
 | nil => rfl
 | cons a r ih =>
  unfold hitO at ih ⊢
  rw [List.map_cons, List.sum_cons, ← ih, List.filterMap_cons]
  cases hw : wh X a with
  | none =>
   have hf : fnd X a = none := by
    unfold wh at hw
    split at hw
    ·cases hw
    ·rename_i q; cases hq : fnd X a with | none => rfl | some x => rw [hq] at q; exact absurd rfl q
   have : qOf X a = 0 := by unfold qOf; rw [hf]
   rw [this]; simp
  | some m =>
   obtain ⟨h1, h2⟩ := wh_lt hs hw
   have : qOf X a = (oat X m).quota := by unfold qOf; rw [h2]
   rw [this]
   simp only [List.map_cons, List.sum_cons]
theorem sumq (hq : ∀ x ∈ X, 0 ≤ x.quota ∧ x.quota ≤ 4096) (pre : List Nat) : 0 ≤ (pre.map fun m => (oat X m).quota).sum ∧ (pre.map fun m => (oat X m).quota).sum ≤ 4096 * pre.length := by
 induction pre with
 | nil => simp
 | cons a r ih =>
  have h1 : 0 ≤ (oat X a).quota ∧ (oat X a).quota ≤ 4096 := by
   by_cases q : a < X.length
   ·exact hq _ (wbz q)
   ·have : oat X a = zOb := by unfold oat; rw [List.getD_eq_getElem?_getD, List.getElem?_eq_none (by omega)]; rfl
    rw [this]; decide
  rw [List.map_cons, List.sum_cons, List.length_cons]
  omega
variable {o : Ob}
theorem u9z (h : Small o) : 0 ≤ pagO o ∧ pagO o ≤ 4294967296 := by
 have := h.c6
 unfold pagO
 split
 ·unfold pagN; omega
 ·omega
theorem uses_v (h : ObsF (LtN w) (LtN w) w ao n cap X Cf) (hs : Srt X) (hn16 : n ≤ 4096) (hq : ∀ x ∈ X, 0 ≤ x.quota ∧ x.quota ≤ 4096) (ho : ObD (LtN w) w C o) (hsm : Small o) : Calls prog 43 #[.agg #[.int .i64 t, .int .u64 ke, .int .u64 ro, .slice ao n cap], .agg C] w fun e w' => e = .returned (.int .i64 (pagO o + (o.links.map (qOf X)).sum)) ∧ Below w.heap.size w w' := by
 have hz := ho.size
 obtain ⟨al, nl, cl, c5, hL⟩ := ho.links
 have hzv : (prog.info? 72).map (·.size) = some (#[.int .i64 t, .int .u64 ke, .int .u64 ro, .slice ao n cap] : Array Value).size := by kernel_rfl
 obtain ⟨G, hG⟩ : ∃ G : Array Value, Hid (G = #[.int .i64 t, .int .u64 ke, .int .u64 ro, .slice ao n cap]) := ⟨_, rfl⟩
 rw [← hG.out] at hzv
 rw [← hG.out]
 refine (callsIn_wide (n := 5)).1 ?_
 refine callsIn_of_wp_marks func43 rfl trivial ?_ rfl
 simp only [ntmps43, List.size_toArray, List.length_cons, List.length_nil, Nat.reduceAdd, Nat.reduceSub, Array.replicate_succ, Array.replicate_zero, List.push_toArray, List.append_toArray, List.nil_append, List.cons_append]
 gi_wp2_with (first
  | (with_reducible refine x0z (fun _ => trivial) (by kernel_rfl) _ _ rfl G rfl ?_; intro B2 W2 hN2 hB2 hk)
  | (with_reducible refine x0z (fun _ => trivial) (by kernel_rfl) _ _ rfl C rfl ?_; intro B3 W3 hN3 hB3 hk3; replace hB2 := hB2.next hk3; replace hk := btz hk hk3)
  | (with_reducible refine qQz (fun _ => trivial) (by kernel_rfl) _ _ rfl B3 rfl C _ hB3 _ underlying43 (by kernel_rfl) (qez hz) ?_)
  | (with_reducible refine qQz (fun _ => trivial) (by kernel_rfl) _ _ rfl B2 rfl G _ hB2 _ underlying72 (by kernel_rfl) hzv ?_)
  | (refine ⟨trivial, ?_⟩; gi_at_call 73; (with_reducible refine (callsIn_wide.2 (u8z (ho.next hk) hsm)).mono ?_); rintro e w1 ⟨rfl, hb1⟩; replace hB2 := hB2.next hb1; replace hB3 := hB3.next hb1; replace hk := btz hk hb1; have hka := (brz w1.heap.size w1).alloc (lrz _) (.cells #[.int .i64 (pagO o)] 3); have hU := Boxed.new w1 3 (.int .i64 (pagO o)); have hB2a := hB2.next hka; have hB3a := hB3.next hka; have hkw := btz hk hka)
  | (with_reducible refine qQz (fun _ => trivial) (by kernel_rfl) _ _ rfl B3 rfl C _ hB3a _ underlying43 (by kernel_rfl) (qez hz) ?_)
  | (with_reducible refine qQz (fun _ => trivial) (by kernel_rfl) _ _ rfl B2 rfl G _ hB2a _ underlying72 (by kernel_rfl) hzv ?_)
  | (refine ⟨trivial, ?_⟩; gi_at_call 74; (with_reducible refine (callsIn_wide.2 xZz).mono ?_); rintro e w2 ⟨Bv, Bd, rfl, hBv, hBd, hvd, hv1, hd1, hb2⟩))
 have hwU : w.heap.size ≤ w1.heap.size := hk.size
 have hsz : (w1.alloc (.cells #[.int .i64 (pagO o)] 3)).heap.size = w1.heap.size + 1 := by simp
 rw [hsz] at hv1 hd1 hb2
 have hU2 : Boxed w2 w1.heap.size 3 (.int .i64 (pagO o)) := (hb2.block _ (by omega)).trans hU
 have hk2 : Below w.heap.size w w2 := hkw.trans (hb2.mono (by omega))
 generalize w1.heap.size = U at hwU hv1 hd1 hU2 ⊢
 clear hU hB2a hB3a hka hkw hb2 hB2 hB3 hb1 hk hk3 hN2 hN3 hsz
 have hD : ∀ b, (b < w.heap.size ∨ b = Bd ∨ b = Bv) → b < w2.heap.size := fun b hb => by
  rcases hb with q | q | q
  ·exact ltz q hk2.size
  ·rw [q]; exact hBd.lt
  ·rw [q]; exact hBv.lt
 have hX2 : ObsF (fun b => b < w.heap.size ∨ b = Bd ∨ b = Bv) (fun b => b < w.heap.size ∨ b = Bd ∨ b = Bv) w2 ao n cap X Cf := (h.laterK (fun b hb => hk2.block b hb) (fun b hb => hk2.block b hb)).wide (fun b hb => .inl hb) (fun b hb => .inl hb)
 have hL2 : CtD (fun b => b < w.heap.size ∨ b = Bd ∨ b = Bv) w2 al nl cl o.links := (hL.laterK fun b hb => hk2.block b hb).wide fun b hb => .inl hb
 refine wpIn_rangeFunc_ownH rfl (by omega) (gf := 105) (lb := #[.pointer (some ⟨Bd, 0, none⟩), .pointer (some ⟨Bv, 0, none⟩)]) rfl trivial (enters_of func105 (by kernel_rfl) rfl)
  (xhz _ (by omega) Bd Bv (fun b => b < w.heap.size ∨ b = Bd ∨ b = Bv) hs hn16 w2 hD (.inr (.inl rfl)) (.inr (.inr rfl)) hBd c5 (by rw [← hG.out]; exact hBv) hX2 hL2) keepsK_t (keepsK_b hD) (brz _ _) (fun _ => rfl)
  (fun pre W => Boxed W U 3 (.int .i64 (pagO o + (pre.map fun m => (oat X m).quota).sum)) ∧ Below w.heap.size w2 W)
  (fun cd pre W => False ∧ Below w.heap.size w2 W)
  (OwnFrom.and (Own.from (boxed_own _ _ _) _) (ownFrom_below hk2.size hk2.size))
  (fun cd => OwnFrom.and (ownFrom_pure _ _) (ownFrom_below hk2.size hk2.size))
  ⟨by simpa using hU2, brz _ _⟩
  (fun x a2 W => ∃ R, a2 = { tmps := #[.agg G, .agg C, .pointer (some ⟨B2, 0, none⟩), .pointer (some ⟨B3, 0, none⟩), .int .i64 0, .pointer (some ⟨U, 0, none⟩), .pointer (some ⟨R, 0, none⟩), .agg C, .int .i64 (pagO o), .agg G, .agg C, .func (.func 105) #[] #[.pointer (some ⟨Bd, 0, none⟩), .pointer (some ⟨Bv, 0, none⟩)], .agg (cfo X Cf x), undef, undef, undef, undef, undef], defers := [] } ∧ Blk W R (cfo X Cf x) 43 ∧ R ≠ U)
  (fun x a2 s A B row ⟨R, e, hb, hn⟩ hg hr => ⟨R, e, hb.own hg (fun r q => (hr r q).2), hn⟩)
  ?assign ?body ?done ?stop
 case assign =>
  rintro l pre x W K ⟨hI1, hI2⟩ hK
  have hco := jcz h x
  dsimp only [encO]
  generalize cfo X Cf x = Cx at hco hK ⊢
  refine (fun (hh : ∀ T : Array Value, T = #[.agg G, .agg C, .pointer (some ⟨B2, 0, none⟩), .pointer (some ⟨B3, 0, none⟩), .int .i64 0, .pointer (some ⟨U, 0, none⟩), undef, .agg C, .int .i64 (pagO o), .agg G, .agg C, .func (.func 105) #[] #[.pointer (some ⟨Bd, 0, none⟩), .pointer (some ⟨Bv, 0, none⟩)], .agg Cx, undef, undef, undef, undef, undef] → Code.wpIn _ _ _ _ _ { tmps := T, defers := [] } W) => hh _ (by kernel_rfl)) ?_
  rintro T rfl
  have hsx := hco.size
  have h1x := hco.one
  clear hco
  gi_wp2_with (first
   | ((with_reducible refine wxz (fun _ => trivial) (by kernel_rfl) _ rfl zC qzz ?_); intro R W5 hN5 hR5 hk5)
   | ((with_reducible refine qPz (fun _ => trivial) (by kernel_rfl) _ _ _ rfl R rfl Cx rfl zC hR5 (qez hsx) (qoz.trans hsx.symm) h1x ?_); intro W6 hR6 o6))
  have kb : Below W.heap.size W W6 := o6.below W.heap.size W (by have := hN5.out; omega) hk5
  have hRU : R ≠ U := by have := hN5.out; have := hI1.lt; omega
  have hDW : ∀ b, (b < w.heap.size ∨ b = Bd ∨ b = Bv) → b < W.heap.size := fun b hb => ltz (hD b hb) hI2.size
  exact hK _ _ ⟨kb.size, fun k o' _ hk' _ => (kb.block k (Array.getElem?_eq_some_iff.1 hk').1).trans hk'⟩ ⟨kb.size, fun b hb => kb.block b (hDW b hb)⟩ ⟨(kb.block U hI1.lt).trans hI1, hI2.trans (kb.mono (Nat.le_trans hk2.size hI2.size))⟩ ⟨R, rfl, hR6, hRU⟩
 case body =>
  rintro l pre x a2 W hl ⟨r2, hr2⟩ ⟨d1, hB1⟩ ⟨R, rfl, hR, hRU⟩ hlt
  have hco := jcz h x
  have c1 := d1.cell
  have f1 := d1.frozen
  have c2 : W.cell? ⟨R, 3, none⟩ = some (.int .i64 (oat X x).quota) := (hR.cell 3).trans hco.quota
  generalize cfo X Cf x = Cx at hR ⊢
  have hqx : 0 ≤ (oat X x).quota ∧ (oat X x).quota ≤ 4096 := by
   by_cases q : x < X.length
   ·exact hq _ (wbz q)
   ·have : oat X x = zOb := by unfold oat; rw [List.getD_eq_getElem?_getD, List.getElem?_eq_none (by omega)]; rfl
    rw [this]; decide
  have hsum := sumq hq pre
  have hle : (hitO X o.links).length ≤ o.links.length := List.length_filterMap_le ..
  have hlen := hsm.c5
  have hpg := u9z hsm
  have hw : IntKind.i64.wrap ((pagO o + (pre.map fun m => (oat X m).quota).sum) + (oat X x).quota) = pagO o + ((pre ++ [x]).map fun m => (oat X m).quota).sum := by
   rw [List.map_append, List.sum_append, IntKind.wrap_i64]
   simp only [List.map_cons, List.map_nil, List.sum_cons, List.sum_nil]
   omega
  clear hsum hle hlen hpg hqx
  gi_wp2
  exact ⟨(KeepsOthers.setCell _ _ _).from _, ⟨by simp, fun b hb => Below.heap_setCell _ _ _ _ (by show b ≠ U; rcases hb with q | q | q <;> omega)⟩, by simpa [hw] using d1.set _, hB1.setCell (p := ⟨U, 0, none⟩) (by show w.heap.size ≤ U; omega) _⟩
 case done =>
  rintro D ys W hD rfl ⟨d1, hB⟩ hK
  rw [sum_hits hs] at d1
  have c1 := d1.cell
  gi_wp2
  refine ⟨by simp, .inl ⟨_, _, rfl, run_takeDeferred hK, ?_⟩⟩
  refine ⟨.int .i64 (pagO o + (o.links.map (qOf X)).sum), ?_, rfl, (hk2.trans hB).trans (belowK_b (w := w) (lrz _) _ D _ _ (by have := hk2.size; omega) hK rfl rfl)⟩
  simp [results, Tryz.f43, go_sem]
 case stop =>
  rintro D cd pre W hD hpre ⟨h, _⟩ hK
  exact h.elim
theorem uzz {S : World → Prop} {x y : Operand} {a b : Int} (hw : IntKind.i64.wrap (a - b) = a - b) : Obl.holds prog S (.test .sub 3 x y (.int .i64 a) (.int .i64 b) (.int .i64 (a - b))) := fun w hS => by
 go_simp
theorem qO_le (hq : ∀ x ∈ X, 0 ≤ x.quota ∧ x.quota ≤ 4096) (i : Int) : 0 ≤ qOf X i ∧ qOf X i ≤ 4096 := by
 unfold qOf
 cases hf : fnd X i with
 | none => exact ⟨by decide, by decide⟩
 | some x => exact hq x (List.mem_of_find?_eq_some (show X.find? _ = some x from hf))
theorem use_le (hq : ∀ x ∈ X, 0 ≤ x.quota ∧ x.quota ≤ 4096) (hsm : Small o) : 0 ≤ pagO o + (o.links.map (qOf X)).sum ∧ pagO o + (o.links.map (qOf X)).sum ≤ 17596481011712 := by
 have h1 := sum_le (l := o.links) (f := qOf X) (k := 4096) fun i _ => qO_le hq i
 have h2 := u9z hsm
 have h3 := hsm.c5
 omega
theorem ygz (h : ObsF (LtN w) (LtN w) w ao n cap X Cf) (hs : Srt X) (hn16 : n ≤ 4096) (hq : ∀ x ∈ X, 0 ≤ x.quota ∧ x.quota ≤ 4096) (ho : ObD (LtN w) w C o) (hsm : Small o) (hoq : 0 ≤ o.quota ∧ o.quota ≤ 4096) : Calls prog 42 #[.agg #[.int .i64 t, .int .u64 ke, .int .u64 ro, .slice ao n cap], .agg C] w fun e w' => e = .returned (.int .i64 (o.quota - (pagO o + (o.links.map (qOf X)).sum))) ∧ Below w.heap.size w w' := by
 have hmx : prog.follows .mixedOrders = true := by kernel_rfl
 have hz := ho.size
 have c3 := ho.quota
 have hul := use_le hq hsm
 have hzv : (prog.info? 72).map (·.size) = some (#[.int .i64 t, .int .u64 ke, .int .u64 ro, .slice ao n cap] : Array Value).size := by kernel_rfl
 have hus := fun (W : World) (hk : Below w.heap.size w W) => uses_v (t := t) (ke := ke) (ro := ro) (h.next hk) hs hn16 hq (ho.next hk) hsm
 obtain ⟨G, hG⟩ : ∃ G : Array Value, G = #[.int .i64 t, .int .u64 ke, .int .u64 ro, .slice ao n cap] := ⟨_, rfl⟩
 rw [← hG] at hzv hus
 rw [← hG]
 clear hG
 obtain ⟨u, hu⟩ : ∃ u, Hid ((pagO o + (o.links.map (qOf X)).sum) = u) := ⟨_, rfl⟩
 rw [hu.out] at hus hul ⊢
 have hw : IntKind.i64.wrap (o.quota - u) = o.quota - u := by rw [IntKind.wrap_i64]; omega
 go_enter func42, ntmps42
 go_wp2_with (first
  | (with_reducible refine qcz rfl 72 _ rfl G rfl ?_; intro B2 W2 hN2 hB2 hk)
  | (with_reducible refine qcz rfl 43 _ rfl C rfl ?_; intro B3 W3 hN3 hB3 hk3; replace hB2 := hB2.next hk3; replace hk := btz hk hk3))
 refine PgM.region_out (S := fun W => Blk W B2 G 72 ∧ Blk W B3 C 43) hmx ⟨hB2.next (brz _ _).drew, hB3.next (brz _ _).drew⟩ (fun hS => ?_)
 replace hk := hk.trans ((brz W3.heap.size W3).drew.mono hk.size)
 generalize W3.drew = W5 at hS hk ⊢
 clear hB2 hB3 hk3 hN2 hN3
 refine qvz (by kernel_rfl) (fun _ _ _ _ _ h => h) hS [(0, none), (1, some (.int .i64 o.quota)), (2, some (.agg G)), (3, some (.agg C))] (obs := [.load 3 B3 3 (.int .i64 o.quota), .load 72 B2 0 (.agg G), .load 43 B3 0 (.agg C)]) (n := 3) (by kernel_rfl) (by kernel_rfl) ⟨qhz (fun _ h => h.2) c3 isAgg3, qyz (fun _ h => h.1) underlying72 (by kernel_rfl) hzv, qyz (fun _ h => h.2) underlying43 (by kernel_rfl) (qez hz), trivial⟩ ?_
 refine qnz (i := 4) (fuel := 2) (f := 43) (vs := [.agg G, .agg C]) (d := some 9) (by kernel_rfl) (by kernel_rfl) (by kernel_rfl) call43 (hus _ hk) ?_
 rintro e W6 ⟨rfl, hb6⟩
 have hS2 : Blk W6 B2 G 72 ∧ Blk W6 B3 C 43 := ⟨hS.1.next hb6, hS.2.next hb6⟩
 refine ⟨_, rfl, hS2, ?_⟩
 refine qjz (by kernel_rfl) (fun _ _ _ _ _ h => h) hS2 [(5, some (.int .i64 (o.quota - u))), (6, none)] (l' := #[tt, tt, tt, tt, tt, tt, tt]) (a' := { tmps := #[.agg G, .agg C, .pointer (some ⟨B2, 0, none⟩), .pointer (some ⟨B3, 0, none⟩), .int .i64 (o.quota - u), .pointer (some ⟨B3, 3, none⟩), .int .i64 o.quota, .agg G, .agg C, .int .i64 u, .int .i64 (o.quota - u)], defers := [] }) (obs := [.test .sub 3 (.tmp 6) (.tmp 9) (.int .i64 o.quota) (.int .i64 u) (.int .i64 (o.quota - u))]) (n := 0) (by kernel_rfl) (by kernel_rfl) ⟨uzz hw, trivial⟩ ?_
 refine wpAnyH_done (by kernel_rfl) ?_ _
 go_wp2
 go_ret
 exact ⟨rfl, btz hk hb6⟩
theorem room_w (h : ObsF (LtN w) (LtN w) w ao n cap X Cf) (hs : Srt X) (hn16 : n ≤ 4096) (hq : ∀ x ∈ X, 0 ≤ x.quota ∧ x.quota ≤ 4096) (ho : ObD (LtN w) w C o) (hsm : Small o) (hoq : 0 ≤ o.quota ∧ o.quota ≤ 4096) : Calls prog 31 #[.agg #[.int .i64 t, .int .u64 ke, .int .u64 ro, .slice ao n cap], .agg C] w fun e w' => e = .returned (.int .i64 (o.quota - (pagO o + (o.links.map (qOf X)).sum))) ∧ Below w.heap.size w w' := by
 have hz := ho.size
 have hzv : (prog.info? 25).map (·.size) = some (#[.int .i64 t, .int .u64 ke, .int .u64 ro, .slice ao n cap] : Array Value).size := by kernel_rfl
 have hbt : prog.built 72 [(0, .agg #[.int .i64 t, .int .u64 ke, .int .u64 ro, .slice ao n cap])] = some #[.int .i64 t, .int .u64 ke, .int .u64 ro, .slice ao n cap] := by kernel_rfl
 have hus := fun (W : World) (hk : Below w.heap.size w W) => ygz (t := t) (ke := ke) (ro := ro) (h.next hk) hs hn16 hq (ho.next hk) hsm hoq
 obtain ⟨G, hG⟩ : ∃ G : Array Value, G = #[.int .i64 t, .int .u64 ke, .int .u64 ro, .slice ao n cap] := ⟨_, rfl⟩
 rw [← hG] at hzv hus hbt
 rw [← hG]
 clear hG
 obtain ⟨u, hu⟩ : ∃ u, Hid ((o.quota - (pagO o + (o.links.map (qOf X)).sum)) = u) := ⟨_, rfl⟩
 rw [hu.out] at hus ⊢
 go_enter func31, ntmps31
 go_wp2_with (first
  | (with_reducible refine qcz rfl 25 _ rfl G rfl ?_; intro B2 W2 hN2 hB2 hk)
  | (with_reducible refine qcz rfl 43 _ rfl C rfl ?_; intro B3 W3 hN3 hB3 hk3; replace hB2 := hB2.next hk3; replace hk := btz hk hk3)
  | (with_reducible refine qdz (by kernel_rfl) _ _ rfl B3 rfl C hB3 _ underlying43 (by kernel_rfl) (qez hz) ?_)
  | (with_reducible refine qdz (by kernel_rfl) _ _ rfl B2 rfl G hB2 _ underlying25 (by kernel_rfl) hzv ?_)
  | ((with_reducible refine qRz (by kernel_rfl) _ [(0, .tmp 5)] rfl G ?hf ?_); (case hf => exact hbt))
  | (go_at_call 42; (with_reducible refine (hus _ hk).mono ?_); rintro e w1 ⟨rfl, hb1⟩))
 go_ret
 exact ⟨rfl, btz hk hb1⟩
def sngO (o : Ob) : Bool := decide (o.kind = 2) || decide (o.kind = 4)
theorem xPz {D : Nat → Prop} (ho : ObD D w C o) : Calls prog 37 #[.agg C] w fun e w' => e = .returned (.bool (sngO o)) ∧ Below w.heap.size w w' := by
 have hz := ho.size
 have c1 := ho.kind
 clear hz
 have hg : sngO o = (decide (o.kind = 2) || decide (o.kind = 4)) := rfl
 rw [hg]
 clear hg
 generalize o.kind = k at c1 ⊢
 by_cases q : k = 2
 ·subst q
  go_enter func37, ntmps37
  go_wp2_with (first
   | (with_reducible refine qcz rfl 43 _ rfl C rfl ?_; intro B3 W3 hN3 hB3 hk; replace c1 := (hB3.cell 1).trans c1))
  go_ret
  exact ⟨rfl, hk⟩
 ·have qb : (k == 2) = false := by simpa using q
  go_enter func37, ntmps37
  go_wp2_with (first
   | (with_reducible refine qcz rfl 43 _ rfl C rfl ?_; intro B3 W3 hN3 hB3 hk; replace c1 := (hB3.cell 1).trans c1))
  go_ret
  exact ⟨by rw [decide_eq_false q, Bool.false_or]; rfl, hk⟩
def fO (X : List Ob) (i : Int) : Ob := (fnd X i).getD zOb
theorem vqz {E D : Nat → Prop} (h : ObsF E D w ao n cap X Cf) (hs : Srt X) (i : Int) : ObD D w (fC X Cf i) (fO X i) := by
 unfold fC fO
 split
 ·rename_i hf
  obtain ⟨x, hx⟩ := Option.isSome_iff_exists.1 hf
  have hq : ahd X i < X.length ∧ (oat X (ahd X i)).id = i := Classical.byContradiction fun q => by rw [w5z hs q] at hx; cases hx
  rw [voz hs hq.1 hq.2]
  exact h.2.2.2.2 _ (by rw [← h.1]; exact hq.1)
 ·rename_i hf
  have : fnd X i = none := by cases hq : fnd X i with | none => rfl | some x => rw [hq] at hf; exact absurd rfl hf
  rw [this]
  exact zC_d D w
def rotB (X : List Ob) (ro : Int) : Bool := (fnd X ro).isSome && (decide ((fO X ro).kind = 2) && decide ((fO X ro).quota ≤ 1024))
theorem rooted_v (h : ObsF (LtN w) (LtN w) w ao n cap X Cf) (hs : Srt X) (hn16 : n ≤ 4096) : Calls prog 59 #[.agg #[.int .i64 t, .int .u64 ke, .int .u64 ro, .slice ao n cap]] w fun e w' => e = .returned (.bool (rotB X ro)) ∧ Below w.heap.size w w' := by
 have hzv : (prog.info? 72).map (·.size) = some (#[.int .i64 t, .int .u64 ke, .int .u64 ro, .slice ao n cap] : Array Value).size := by kernel_rfl
 have g2 : (#[.int .i64 t, .int .u64 ke, .int .u64 ro, .slice ao n cap] : Array Value)[2]? = some (.int .u64 ro) := rfl
 have hfd := fun (W : World) (hk : Below w.heap.size w W) => xLz (t := t) (ke := ke) (ro := ro) (i := ro) (h.next hk) hs hn16
 have hfo := vqz h hs ro
 have hz := hfo.size
 have h1c := hfo.one
 have c1 := hfo.kind
 have c3 := hfo.quota
 clear hfo
 obtain ⟨G, hG⟩ : ∃ G : Array Value, G = #[.int .i64 t, .int .u64 ke, .int .u64 ro, .slice ao n cap] := ⟨_, rfl⟩
 rw [← hG] at hzv hfd g2
 rw [← hG]
 clear hG
 generalize fC X Cf ro = C at hfd hz h1c c1 c3
 have hg : rotB X ro = ((fnd X ro).isSome && (decide ((fO X ro).kind = 2) && decide ((fO X ro).quota ≤ 1024))) := rfl
 rw [hg]
 clear hg
 generalize (fO X ro).kind = k at c1 ⊢
 generalize (fO X ro).quota = q at c3 ⊢
 generalize (fnd X ro).isSome = b at hfd ⊢
 by_cases hb : b = true
 subst hb
 by_cases hk2 : k = 2
 subst hk2
 rotate_left
 have hkb : (k == 2) = false := by simpa using hk2
 rotate_left
 have hbf : b = false := by simpa using hb
 subst hbf
 clear hb
 rotate_left
 all_goals go_enter func59, ntmps59
 all_goals go_wp2_with (first
  | go_skip
  | (with_reducible refine qcz rfl _ _ rfl G rfl ?_; intro B W hB hb hk; have g2' := (hb.cell 2).trans g2)
  | ((with_reducible refine qfz rfl _ rfl zC qzz ?_); intro R W1 hB1 hR hk1; replace hb := hb.next hk1; replace hk := btz hk hk1)
  | (with_reducible refine qdz (by kernel_rfl) _ _ rfl B rfl G hb _ underlying72 (by kernel_rfl) hzv ?_)
  | (go_at_call 32; (with_reducible refine (hfd _ hk).mono ?_); rintro e w2 ⟨rfl, hb2⟩; replace hb := hb.next hb2; replace hk := btz hk hb2)
  | ((with_reducible refine qbz rfl _ _ _ rfl R rfl C rfl zC hR (qez hz) (qoz.trans hz.symm) h1c ?_); intro W4 hR4 o4; have c1' := (hR4.cell 1).trans c1; have c3' := (hR4.cell 3).trans c3))
 ·go_ret
  exact ⟨rfl, o4.below _ _ (by have := hB.out; have := hB1.out; have := hb2.size; omega) hk⟩
 ·go_ret
  exact ⟨by rw [decide_eq_false hk2]; rfl, o4.below _ _ (by have := hB.out; have := hB1.out; have := hb2.size; omega) hk⟩
 ·go_ret
  exact ⟨rfl, o4.below _ _ (by have := hB.out; have := hB1.out; have := hb2.size; omega) hk⟩
def gmz (ro : Int) (o : Ob) (c : Int) : Bool := if o.id = ro then decide (c = 0) else decide (c = 1) || (decide (1 < c) && (o.fixed && !sngO o))
theorem lies_v {c f : Int} (ho : ObD (LtN w) w C o) : Calls prog 91 #[.agg #[.int .i64 t, .int .u64 ke, .int .u64 ro, .slice ao n cap], .agg C, .agg #[.int .i64 c, .int .u64 f]] w fun e w' => e = .returned (.bool (gmz ro o c)) ∧ Below w.heap.size w w' := by
 have g2 : (#[.int .i64 t, .int .u64 ke, .int .u64 ro, .slice ao n cap] : Array Value)[2]? = some (.int .u64 ro) := rfl
 have e0 : (#[.int .i64 c, .int .u64 f] : Array Value)[0]? = some (.int .i64 c) := rfl
 have hsn := fun (W : World) (hk : Below w.heap.size w W) => xPz (ho.next hk)
 have hz := ho.size
 have c0 := ho.id
 have c4 := ho.fixed
 have hg : gmz ro o c = if o.id = ro then decide (c = 0) else decide (c = 1) || (decide (1 < c) && (o.fixed && !sngO o)) := rfl
 rw [hg]
 clear hg
 generalize (#[.int .i64 t, .int .u64 ke, .int .u64 ro, .slice ao n cap] : Array Value) = G at g2 ⊢
 generalize (#[.int .i64 c, .int .u64 f] : Array Value) = H at e0 ⊢
 clear ho
 generalize o.id = i at c0 ⊢
 generalize o.fixed = x at c4 ⊢
 generalize sngO o = s at hsn ⊢
 by_cases hi : i = ro
 ·subst hi
  go_enter func91, ntmps91
  go_wp2_with (first
   | (with_reducible refine qcz rfl 72 _ rfl G rfl ?_; intro B W hB hb hk)
   | (with_reducible refine qcz rfl 43 _ rfl C rfl ?_; intro B3 W3 hN3 hB3 hk3; replace hb := hb.next hk3; replace hk := btz hk hk3)
   | (with_reducible refine qcz rfl 125 _ rfl H rfl ?_; intro B4 W4 hN4 hB4 hk4; replace hb := hb.next hk4; replace hB3 := hB3.next hk4; replace hk := btz hk hk4; replace g2 := (hb.cell 2).trans g2; replace c0 := (hB3.cell 0).trans c0; replace c4 := (hB3.cell 4).trans c4; replace e0 := (hB4.cell 0).trans e0)
   | (go_at_call 37; (with_reducible refine (hsn _ hk).mono ?_); rintro e w2 ⟨rfl, hb2⟩; replace hk := btz hk hb2))
  go_ret
  exact ⟨rfl, hk⟩
 ·have hib : (i == ro) = false := by simpa using hi
  rw [if_neg hi]
  by_cases h1 : c = 1
  ·subst h1
   go_enter func91, ntmps91
   go_wp2_with (first
    | (with_reducible refine qcz rfl 72 _ rfl G rfl ?_; intro B W hB hb hk)
    | (with_reducible refine qcz rfl 43 _ rfl C rfl ?_; intro B3 W3 hN3 hB3 hk3; replace hb := hb.next hk3; replace hk := btz hk hk3)
    | (with_reducible refine qcz rfl 125 _ rfl H rfl ?_; intro B4 W4 hN4 hB4 hk4; replace hb := hb.next hk4; replace hB3 := hB3.next hk4; replace hk := btz hk hk4; replace g2 := (hb.cell 2).trans g2; replace c0 := (hB3.cell 0).trans c0; replace c4 := (hB3.cell 4).trans c4; replace e0 := (hB4.cell 0).trans e0)
    | (go_at_call 37; (with_reducible refine (hsn _ hk).mono ?_); rintro e w2 ⟨rfl, hb2⟩; replace hk := btz hk hb2))
   go_ret
   exact ⟨rfl, hk⟩
  ·have h1b : (c == 1) = false := by simpa using h1
   rw [decide_eq_false h1, Bool.false_or]
   by_cases h2 : 1 < c
   ·rw [decide_eq_true h2, Bool.true_and]
    cases x with
    | false =>
     go_enter func91, ntmps91
     go_wp2_with (first
      | (with_reducible refine qcz rfl 72 _ rfl G rfl ?_; intro B W hB hb hk)
      | (with_reducible refine qcz rfl 43 _ rfl C rfl ?_; intro B3 W3 hN3 hB3 hk3; replace hb := hb.next hk3; replace hk := btz hk hk3)
      | (with_reducible refine qcz rfl 125 _ rfl H rfl ?_; intro B4 W4 hN4 hB4 hk4; replace hb := hb.next hk4; replace hB3 := hB3.next hk4; replace hk := btz hk hk4; replace g2 := (hb.cell 2).trans g2; replace c0 := (hB3.cell 0).trans c0; replace c4 := (hB3.cell 4).trans c4; replace e0 := (hB4.cell 0).trans e0)
      | (go_at_call 37; (with_reducible refine (hsn _ hk).mono ?_); rintro e w2 ⟨rfl, hb2⟩; replace hk := btz hk hb2))
     go_ret
     exact ⟨rfl, hk⟩
    | true =>
     go_enter func91, ntmps91
     go_wp2_with (first
      | (with_reducible refine qcz rfl 72 _ rfl G rfl ?_; intro B W hB hb hk)
      | (with_reducible refine qcz rfl 43 _ rfl C rfl ?_; intro B3 W3 hN3 hB3 hk3; replace hb := hb.next hk3; replace hk := btz hk hk3)
      | (with_reducible refine qcz rfl 125 _ rfl H rfl ?_; intro B4 W4 hN4 hB4 hk4; replace hb := hb.next hk4; replace hB3 := hB3.next hk4; replace hk := btz hk hk4; replace g2 := (hb.cell 2).trans g2; replace c0 := (hB3.cell 0).trans c0; replace c4 := (hB3.cell 4).trans c4; replace e0 := (hB4.cell 0).trans e0)
      | (with_reducible refine qdz (by kernel_rfl) _ _ rfl B3 rfl C hB3 _ underlying43 (by kernel_rfl) (qez hz) ?_)
      | (go_at_call 37; (with_reducible refine (hsn _ hk).mono ?_); rintro e w2 ⟨rfl, hb2⟩; replace hk := btz hk hb2))
     go_ret
     exact ⟨rfl, hk⟩
   ·rw [decide_eq_false h2, Bool.false_and]
    go_enter func91, ntmps91
    go_wp2_with (first
     | (with_reducible refine qcz rfl 72 _ rfl G rfl ?_; intro B W hB hb hk)
     | (with_reducible refine qcz rfl 43 _ rfl C rfl ?_; intro B3 W3 hN3 hB3 hk3; replace hb := hb.next hk3; replace hk := btz hk hk3)
     | (with_reducible refine qcz rfl 125 _ rfl H rfl ?_; intro B4 W4 hN4 hB4 hk4; replace hb := hb.next hk4; replace hB3 := hB3.next hk4; replace hk := btz hk hk4; replace g2 := (hb.cell 2).trans g2; replace c0 := (hB3.cell 0).trans c0; replace c4 := (hB3.cell 4).trans c4; replace e0 := (hB4.cell 0).trans e0)
     | (go_at_call 37; (with_reducible refine (hsn _ hk).mono ?_); rintro e w2 ⟨rfl, hb2⟩; replace hk := btz hk hb2))
    go_ret
    exact ⟨rfl, hk⟩
theorem wiz {i : Int} (h : (fnd X i).isSome = true) : fO X i ∈ X ∧ (fO X i).id = i := by
 obtain ⟨x, hx⟩ := Option.isSome_iff_exists.1 h
 have e : fO X i = x := by unfold fO; rw [hx]; rfl
 unfold fnd at hx
 rw [e]
 exact ⟨List.mem_of_find?_eq_some hx, by simpa using List.find?_some hx⟩
end
end Go.Proofs.YtchgingkmkhbhaaGreat
