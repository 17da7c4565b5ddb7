/-
 PROVED HERE: a new thread's numbers are apart from its maker's, both out of what that had, and its name is none of either; it has the words and labels that were asked for (KobjParts), over the landed code. No condition besides the statement's own.
-/
import Derived.Test.YtloghnpfplljgaaGreatRows
import Derived.WalkKit
import Derived.ProofKit
import Derived.OpenShut
import Derived.Below
import Derived.ShutString
import Derived.Deep.QuietTactic
import Derived.Deep.DeepCutAuto
import Derived.Test.YtloghnpfplljgaaGreatZ7
import Derived.Test.YtloghnpfplljgaaGreatZ8
import Derived.Test.YtloghnpfplljgaaGreatZ16
import Derived.Test.YtloghnpfplljgaaGreatZ20
set_option maxRecDepth 100000
set_option maxHeartbeats 8000000
set_option linter.unusedVariables false
open Go.Proofs.Tryz
namespace Go.Proofs.YtloghnpfplljgaaGreat
namespace kobjParts
open Go.ChangeShapes Go.WideShapes Go.ChangeAt Go.RowKit
open Go.ChangeMaps (open_string shut_string)
theorem own : ownKnob prog.godebug = none := by kernel_rfl
theorem walk (t0 : Int) (ke0 : Nat) (ro0 : Int) (ao0 : Option Addr) (n0 cap0 : Nat) (X0 : List Ob) (a1 : Int) (pa2 pb2 pc2 pd2 pe2 pf2 pg2 : Nat) (w : World) (l0 : Obs w ao0 n0 cap0 X0 ∧ ∀ x ∈ X0, WdO x) (w1 : (Lit.int .u64 a1).wf = true) (l2 : pb2 < 18446744073709551616 ∧ pc2 < 18446744073709551616) :
  Calls prog 6 #[.agg #[.int .i64 t0, .int .u64 (ke0 : Int), .int .u64 ro0, .slice ao0 n0 cap0], .int .u64 a1, .agg #[.int .u64 (pa2 : Int), .int .u64 (pb2 : Int), .int .u64 (pc2 : Int), .int .u64 (pd2 : Int), .int .u64 (pe2 : Int), .int .u64 (pf2 : Int), .int .u64 (pg2 : Int)]] w fun e w' => e = .returned (.bool true) ∧ Below w.heap.size w w' := by
 have hmx : prog.follows .mixedOrders = true := by kernel_rfl
 obtain ⟨hX, hwd⟩ := l0
 have hn0 : X0.length = n0 := hX.1
 have hfw := fun {W : World} (hk : Below w.heap.size w W) => bEz (t := t0) (ro := ro0) (key := ke0) (qwz hX hk) hwd
 have hWr : Wr w #[.int .i64 t0, .int .u64 (ke0 : Int), .int .u64 ro0, .slice ao0 n0 cap0] t0 (ke0 : Int) ro0 X0 := ⟨_, _, _, rfl, hX⟩
 have hth := fun {W : World} (hk : Below w.heap.size w W) => voz (hWr.next hk) a1
 have hdo := fun {W : World} {a b : Nat} (hk : Below w.heap.size w W) => kdo_th (t := t0) (ro := ro0) (key := ke0) (i := a1) (a := a) (b := b) (k1 := pb2) (k2 := pc2) (A := [(pa2 : Int), (pb2 : Int), (pc2 : Int), (pd2 : Int), (pe2 : Int), (pf2 : Int), (pg2 : Int)]) (qwz hX hk)
 have hzD : (prog.info? 25).map (·.size) = some (#[.int .i64 t0, .int .u64 (ke0 : Int), .int .u64 ro0, .slice ao0 n0 cap0] : Array Value).size := by kernel_rfl
 have d1 : (#[.int .i64 t0, .int .u64 (ke0 : Int), .int .u64 ro0, .slice ao0 n0 cap0] : Array Value)[1]? = some (.int .u64 (ke0 : Int)) := rfl
 have hk := brz w.heap.size w
 rw [show (#[.int .u64 (pa2 : Int), .int .u64 (pb2 : Int), .int .u64 (pc2 : Int), .int .u64 (pd2 : Int), .int .u64 (pe2 : Int), .int .u64 (pf2 : Int), .int .u64 (pg2 : Int)] : Array Value) = argV [(pa2 : Int), (pb2 : Int), (pc2 : Int), (pd2 : Int), (pe2 : Int), (pf2 : Int), (pg2 : Int)] from rfl]
 have aA : ∀ j, j < 7 → (argV [(pa2 : Int), (pb2 : Int), (pc2 : Int), (pd2 : Int), (pe2 : Int), (pf2 : Int), (pg2 : Int)])[j]? = some (.int .u64 ([(pa2 : Int), (pb2 : Int), (pc2 : Int), (pd2 : Int), (pe2 : Int), (pf2 : Int), (pg2 : Int)].getD j 0)) := fun j hj => arg_at _ hj
 have aA1 : (argV [(pa2 : Int), (pb2 : Int), (pc2 : Int), (pd2 : Int), (pe2 : Int), (pf2 : Int), (pg2 : Int)])[1]? = some (.int .u64 (pb2 : Int)) := rfl
 have aA2 : (argV [(pa2 : Int), (pb2 : Int), (pc2 : Int), (pd2 : Int), (pe2 : Int), (pf2 : Int), (pg2 : Int)])[2]? = some (.int .u64 (pc2 : Int)) := rfl
 have aA3 : (argV [(pa2 : Int), (pb2 : Int), (pc2 : Int), (pd2 : Int), (pe2 : Int), (pf2 : Int), (pg2 : Int)])[3]? = some (.int .u64 (pd2 : Int)) := rfl
 have aA4 : (argV [(pa2 : Int), (pb2 : Int), (pc2 : Int), (pd2 : Int), (pe2 : Int), (pf2 : Int), (pg2 : Int)])[4]? = some (.int .u64 (pe2 : Int)) := rfl
 have aA5 : (argV [(pa2 : Int), (pb2 : Int), (pc2 : Int), (pd2 : Int), (pe2 : Int), (pf2 : Int), (pg2 : Int)])[5]? = some (.int .u64 (pf2 : Int)) := rfl
 have aA6 : (argV [(pa2 : Int), (pb2 : Int), (pc2 : Int), (pd2 : Int), (pe2 : Int), (pf2 : Int), (pg2 : Int)])[6]? = some (.int .u64 (pg2 : Int)) := rfl
 have zA : (prog.info? 27).map (·.size) = some (argV [(pa2 : Int), (pb2 : Int), (pc2 : Int), (pd2 : Int), (pe2 : Int), (pf2 : Int), (pg2 : Int)]).size := by kernel_rfl
 clear aA
 generalize argV [(pa2 : Int), (pb2 : Int), (pc2 : Int), (pd2 : Int), (pe2 : Int), (pf2 : Int), (pg2 : Int)] = AA at *
 obtain ⟨D, hD⟩ : ∃ D : Array Value, D = #[.int .i64 t0, .int .u64 (ke0 : Int), .int .u64 ro0, .slice ao0 n0 cap0] := ⟨_, rfl⟩
 rw [← hD] at hzD d1 hWr
 simp only [← hD] at hfw hth hdo
 rw [← hD]
 clear hD
 by_cases hF : few20P t0 ke0 ro0 X0
 rotate_left
 ·clear hdo hth
  go_enter func6, ntmps6
  go_wp2_with (first
   | go_skip
   | (with_reducible refine qcz rfl 25 _ rfl D rfl ?_; intro B W0 hN0 hB hk0; replace hk := btz hk hk0; clear hk0)
   | (with_reducible refine qcz rfl 27 _ rfl AA rfl ?_; intro Q W1 hN1 hQ hk1; replace hB := hB.next hk1; replace hk := btz hk hk1; clear hk1)
   | (with_reducible refine qhz (by kernel_rfl) 25 _ rfl B rfl D hB _ underlying25 (by kernel_rfl) hzD ?_)
   | (go_at_call 7; (with_reducible refine ((hfw hk).no hF).mono ?_); rintro e w44 ⟨rfl, hb4⟩; replace hB := hB.next hb4; replace hQ := hQ.next hb4; replace hk := btz hk hb4; clear hb4)
   | (go_at_call 9; (with_reducible refine (w0z _).mono ?_); rintro e w99 ⟨rfl, hb9⟩; replace hk := btz hk hb9))
  go_ret
  exact ⟨rfl, hk⟩
 by_cases hT : thr20P X0 a1
 rotate_left
 ·clear hdo
  go_enter func6, ntmps6
  go_wp2_with (first
   | go_skip
   | (with_reducible refine qcz rfl 25 _ rfl D rfl ?_; intro B W0 hN0 hB hk0; replace hk := btz hk hk0; clear hk0)
   | (with_reducible refine qcz rfl 27 _ rfl AA rfl ?_; intro Q W1 hN1 hQ hk1; replace hB := hB.next hk1; replace hk := btz hk hk1; clear hk1)
   | (with_reducible refine qhz (by kernel_rfl) 25 _ rfl B rfl D hB _ underlying25 (by kernel_rfl) hzD ?_)
   | (go_at_call 7; (with_reducible refine ((hfw hk).yes hF).mono ?_); rintro e w44 ⟨rfl, hb4⟩; replace hB := hB.next hb4; replace hQ := hQ.next hb4; replace hk := btz hk hb4; clear hb4)
   | (go_at_call 8; (with_reducible refine ((hth hk).no hT).mono ?_); rintro e w55 ⟨rfl, hb5⟩; replace hB := hB.next hb5; replace hQ := hQ.next hb5; replace hk := btz hk hb5; clear hb5)
   | (go_at_call 9; (with_reducible refine (w0z _).mono ?_); rintro e w99 ⟨rfl, hb9⟩; replace hk := btz hk hb9))
  go_ret
  exact ⟨rfl, hk⟩
 obtain ⟨a, b, hC, hid⟩ := bQz hF.2 hwd hT.1 hT.2
 have hL := knz (vnz hF.2)
 replace hdo := fun {W : World} (hk : Below w.heap.size w W) => hdo (a := a) (b := b) hk hL (by have := hF.1.1; omega) hC rfl rfl
 have hfo : fnd X0 a1 = some (fO X0 a1) := by have h9 := hC.fd; rw [hid] at h9; exact h9
 go_enter func6, ntmps6
 go_upto_region 4 with (first
  | go_skip
  | (with_reducible refine qcz rfl 25 _ rfl D rfl ?_; intro B W0 hN0 hB hk0; replace hk := btz hk hk0; clear hk0)
  | (with_reducible refine qcz rfl 27 _ rfl AA rfl ?_; intro Q W1 hN1 hQ hk1; replace hB := hB.next hk1; replace hk := btz hk hk1; clear hk1)
  | (with_reducible refine qhz (by kernel_rfl) 25 _ rfl B rfl D hB _ underlying25 (by kernel_rfl) hzD ?_)
  | (go_at_call 7; (with_reducible refine ((hfw hk).yes hF).mono ?_); rintro e w44 ⟨rfl, hb4⟩; replace hB := hB.next hb4; replace hQ := hQ.next hb4; replace hk := btz hk hb4; clear hb4)
  | (go_at_call 8; (with_reducible refine ((hth hk).yes hT).mono ?_); rintro e w55 ⟨rfl, hb5⟩; replace hB := hB.next hb5; replace hQ := hQ.next hb5; replace hk := btz hk hb5; clear hb5)
  | (with_reducible refine qhz (by kernel_rfl) 27 _ rfl Q rfl AA hQ _ underlying27 (by kernel_rfl) zA ?_)
  | (go_at_call 10; (with_reducible refine (hdo hk).mono ?_); rintro e w5 ⟨V', v', k', X3, rfl, hW5, hb5, hE⟩; replace hB := hB.next hb5; replace hQ := hQ.next hb5; replace hk := btz hk hb5; have zV5 : V'.size = 4 := (by obtain ⟨_, _, _, rfl, _⟩ := hW5; rfl); have oV5 : V'.all (·.oneCell') = true := (by obtain ⟨_, _, _, rfl, _⟩ := hW5; kernel_rfl); have sV5 : zW.size = V'.size := (by rw [zV5]; rfl); have iV5 : (prog.info? 25).map (·.size) = some V'.size := (by rw [zV5]; exact q0z))
  | ((with_reducible refine qdz rfl 25 rfl zW wyz ?_); intro P7 W6 hN6 hP7a hk6; have h6w := hN6.out.1; have h6g := hk.size; have hBl6 := hB.lt; have hQl6 := hQ.lt; replace hB := hB.next hk6; replace hQ := hQ.next hk6; replace hk := btz hk hk6;)
  | ((with_reducible refine qbz rfl _ _ _ rfl P7 rfl V' rfl zW hP7a iV5 sV5 oV5 ?_); intro V6 hP7 q6))
 replace hB := hB.other q6 (by omega)
 replace hQ := hQ.other q6 (by omega)
 have b56 : Below w5.heap.size w5 V6 := q6.below _ _ (by omega) hk6
 replace hW5 := hW5.next b56
 replace hk : Below w.heap.size w V6 := q6.below _ _ (by omega) hk
 clear q6 b56 hk6 hP7a hN6 hb5 hdo hth hfw
 rcases hE with ⟨hok, rfl, rfl, rfl⟩ | ⟨_, hk0, rfl, rfl⟩
 rotate_left
 ·have hk0' : (k' != 0) = true := by simpa using hk0
  have hk0'' : (k' == 0) = false := by simpa using hk0
  go_wp2_with (first
   | go_skip
   | (go_at_call 9; (with_reducible refine (w0z _).mono ?_); rintro e w99 ⟨rfl, hb9⟩; replace hk := btz hk hb9))
  go_ret
  exact ⟨rfl, hk⟩
 have hk00 : ((0 : Int) != 0) = false := rfl
 obtain ⟨⟨hk1, hk2⟩, hsh, hat⟩ := hok
 obtain ⟨hf1, hf2⟩ := made_th hL hC.fd hC.kd hat
 rw [hid] at hf1
 change fnd (thX X0 (fO X0 a1) ke0 a b [(pa2 : Int), (pb2 : Int), (pc2 : Int), (pd2 : Int), (pe2 : Int), (pf2 : Int), (pg2 : Int)] pb2 pc2) a1 = _ at hf1
 change fnd (thX X0 (fO X0 a1) ke0 a b [(pa2 : Int), (pb2 : Int), (pc2 : Int), (pd2 : Int), (pe2 : Int), (pf2 : Int), (pg2 : Int)] pb2 pc2) ((Pm.nameN ke0 a : Nat) : Int) = some (nthN (fO X0 a1) ke0 a b [(pa2 : Int), (pb2 : Int), (pc2 : Int), (pd2 : Int), (pe2 : Int), (pf2 : Int), (pg2 : Int)] pb2 pc2) at hf2
 generalize thX X0 (fO X0 a1) ke0 a b [(pa2 : Int), (pb2 : Int), (pc2 : Int), (pd2 : Int), (pe2 : Int), (pf2 : Int), (pg2 : Int)] pb2 pc2 = X3 at *
 have hfd1 := xbz (hWr.next hk) (i := a1)
 have hfd2 := xbz hW5 (i := a1)
 have hfd3 := xbz hW5 (i := ((Pm.nameN ke0 a : Nat) : Int))
 clear hfd1 hfd2 hfd3
 have hfd1 := fun {W : World} (k : Below V6.heap.size V6 W) => xbz ((hWr.next hk).next k) (i := a1)
 have hfd2 := fun {W : World} (k : Below V6.heap.size V6 W) => xbz (hW5.next k) (i := a1)
 have hfd3 := fun {W : World} (k : Below V6.heap.size V6 W) => xbz (hW5.next k) (i := ((Pm.nameN ke0 a : Nat) : Int))
 simp only [hfo, hf1, hf2, j3z hf1, j3z hf2, Option.isSome_some] at hfd1 hfd2 hfd3
 have hkv := brz V6.heap.size V6
 have hBl1 := hB.lt
 have hQl1 := hQ.lt
 have hP7l1 := hP7.lt
 go_upto_region 7 with (first
  | go_skip
  | (with_reducible refine qhz (by kernel_rfl) 25 _ rfl B rfl D hB _ underlying25 (by kernel_rfl) hzD ?_)
  | (go_at_call 14; (with_reducible refine (hfd1 hkv).mono ?_); rintro e v1 ⟨C1, rfl, oC1, hb1⟩; replace hB := hB.next hb1; replace hQ := hQ.next hb1; replace hP7 := hP7.next hb1; replace hk := btz hk hb1; have zC1 := oC1.size; have nC1 := oC1.one)
  | ((with_reducible refine qdz rfl 55 rfl zC qsz ?_); intro O1 Y1 hM1 hOa1 hj1; have hm1 := hM1.out.1; have hg1 := hk.size; have tk1 : True := trivial; replace hB := hB.next hj1; replace hQ := hQ.next hj1; replace hP7 := hP7.next hj1; replace hk := btz hk hj1;)
  | ((with_reducible refine qbz rfl _ _ _ rfl O1 rfl C1 rfl zC hOa1 (qfz zC1) (qoz.trans zC1.symm) nC1 ?_); intro T1 hO1 p1))
 have b1a : Below v1.heap.size v1 T1 := p1.below _ _ (by omega) hj1
 replace oC1 := oC1.next b1a
 have hbs1 := hb1.size
 replace hB := hB.other p1 (by omega)
 replace hQ := hQ.other p1 (by omega)
 replace hP7 := hP7.other p1 (by omega)
 replace hk : Below w.heap.size w T1 := p1.below _ _ (by omega) hk
 have bb1 := btz hb1 b1a
 have kv1 : Below V6.heap.size V6 T1 := btz hkv bb1
 clear hb1 b1a hj1 p1 hM1 hOa1 hfd1
 have hBl2 := hB.lt
 have hQl2 := hQ.lt
 have hP7l2 := hP7.lt
 have hO1l2 := hO1.lt
 go_upto_region 8 with (first
  | go_skip
  | (with_reducible refine qhz (by kernel_rfl) 25 _ rfl P7 rfl V' hP7 _ underlying25 (by kernel_rfl) iV5 ?_)
  | (go_at_call 14; (with_reducible refine (hfd2 kv1).mono ?_); rintro e v2 ⟨C2, rfl, oC2, hb2⟩; replace hB := hB.next hb2; replace hQ := hQ.next hb2; replace hP7 := hP7.next hb2; replace hO1 := hO1.next hb2; replace hk := btz hk hb2; have zC2 := oC2.size; have nC2 := oC2.one)
  | ((with_reducible refine qdz rfl 55 rfl zC qsz ?_); intro O2 Y2 hM2 hOa2 hj2; have hm2 := hM2.out.1; have hg2 := hk.size; have tk2 : True := trivial; replace hB := hB.next hj2; replace hQ := hQ.next hj2; replace hP7 := hP7.next hj2; replace hO1 := hO1.next hj2; replace hk := btz hk hj2;)
  | ((with_reducible refine qbz rfl _ _ _ rfl O2 rfl C2 rfl zC hOa2 (qfz zC2) (qoz.trans zC2.symm) nC2 ?_); intro T2 hO2 p2))
 have b2a : Below v2.heap.size v2 T2 := p2.below _ _ (by omega) hj2
 replace oC2 := oC2.next b2a
 have hbs2 := hb2.size
 replace hB := hB.other p2 (by omega)
 replace hQ := hQ.other p2 (by omega)
 replace hP7 := hP7.other p2 (by omega)
 replace hO1 := hO1.other p2 (by omega)
 replace hk : Below w.heap.size w T2 := p2.below _ _ (by omega) hk
 have bb2 := btz hb2 b2a
 replace oC1 := oC1.next bb2
 have kv2 : Below V6.heap.size V6 T2 := btz kv1 bb2
 clear hb2 b2a hj2 p2 hM2 hOa2 hfd2
 have hBl3 := hB.lt
 have hQl3 := hQ.lt
 have hP7l3 := hP7.lt
 have hO1l3 := hO1.lt
 have hO2l3 := hO2.lt
 go_upto_region 9 with (first
  | go_skip
  | (with_reducible refine qhz (by kernel_rfl) 25 _ rfl P7 rfl V' hP7 _ underlying25 (by kernel_rfl) iV5 ?_)
  | (go_at_call 14; (with_reducible refine (hfd3 kv2).mono ?_); rintro e v3 ⟨C3, rfl, oC3, hb3⟩; replace hB := hB.next hb3; replace hQ := hQ.next hb3; replace hP7 := hP7.next hb3; replace hO1 := hO1.next hb3; replace hO2 := hO2.next hb3; replace hk := btz hk hb3; have zC3 := oC3.size; have nC3 := oC3.one)
  | ((with_reducible refine qdz rfl 55 rfl zC qsz ?_); intro O3 Y3 hM3 hOa3 hj3; have hm3 := hM3.out.1; have hg3 := hk.size; have tk3 : True := trivial; replace hB := hB.next hj3; replace hQ := hQ.next hj3; replace hP7 := hP7.next hj3; replace hO1 := hO1.next hj3; replace hO2 := hO2.next hj3; replace hk := btz hk hj3;)
  | ((with_reducible refine qbz rfl _ _ _ rfl O3 rfl C3 rfl zC hOa3 (qfz zC3) (qoz.trans zC3.symm) nC3 ?_); intro T3 hO3 p3))
 have b3a : Below v3.heap.size v3 T3 := p3.below _ _ (by omega) hj3
 replace oC3 := oC3.next b3a
 have hbs3 := hb3.size
 replace hB := hB.other p3 (by omega)
 replace hQ := hQ.other p3 (by omega)
 replace hP7 := hP7.other p3 (by omega)
 replace hO1 := hO1.other p3 (by omega)
 replace hO2 := hO2.other p3 (by omega)
 replace hk : Below w.heap.size w T3 := p3.below _ _ (by omega) hk
 have bb3 := btz hb3 b3a
 replace oC1 := oC1.next bb3
 replace oC2 := oC2.next bb3
 clear hb3 b3a hj3 p3 hM3 hOa3 hfd3 kv1 kv2 hkv hW5 hWr
 obtain ⟨c, hcc⟩ : ∃ c, Hid (b - SrM.share a b = c) := ⟨_, rfl⟩
 obtain ⟨s, hss⟩ : ∃ s, Hid (a + 1 = s) := ⟨_, rfl⟩
 have hac : a < c ∧ c ≤ 2305843009213693952 := by have := hC.kw.ab; have := hC.kw.le; have := hcc.out; unfold SrM.share at *; omega
 unfold nthN at oC3
 simp only [hcc.out] at oC3 oC2
 rw [hss.out] at oC2
 have x37 : C1[37]? = some (.int .u64 (a : Int)) := by have := oC1.th.lo; rw [hC.kw.lo] at this; exact this
 have x38 : C1[38]? = some (.int .u64 (b : Int)) := by have := oC1.th.hi; rw [hC.kw.hi] at this; exact this
 have y37 : C2[37]? = some (.int .u64 (s : Int)) := oC2.th.lo
 have y38 : C2[38]? = some (.int .u64 (c : Int)) := oC2.th.hi
 have z37 : C3[37]? = some (.int .u64 (c : Int)) := oC3.th.lo
 have z38 : C3[38]? = some (.int .u64 (b : Int)) := oC3.th.hi
 have z24 : C3[24]? = some (.int .u64 (pd2 : Int)) := oC3.th.pc
 have z9 : C3[9]? = some (.int .u64 (pe2 : Int)) := oC3.th.regs 1 (by omega)
 have z26 : C3[26]? = some (.int .u64 (pf2 : Int)) := oC3.th.sc
 have z27 : C3[27]? = some (.int .u64 (pg2 : Int)) := oC3.th.si
 have z30 : C3[30]? = some (.int .i64 0) := oC3.th.state
 obtain ⟨l1a, l1n, l1c, e1, lb1⟩ := oC1.th.labs hk1
 obtain ⟨l2a, l2n, l2c, e2, lb2⟩ := oC1.th.labs hk2
 obtain ⟨l3a, l3n, l3c, e3, lb3⟩ := oC3.label
 obtain ⟨l4a, l4n, l4c, e4, lb4⟩ := oC3.th.clear
 replace e1 : C1[39 + pb2]? = some (.slice l1a l1n l1c) := by rw [← e1, show 8 + (31 + pb2) = 39 + pb2 by omega]
 replace e2 : C1[39 + pc2]? = some (.slice l2a l2n l2c) := by rw [← e2, show 8 + (31 + pc2) = 39 + pc2 by omega]
 replace e4 : C3[25]? = some (.slice l4a l4n l4c) := e4
 have zs1 := w4z (S := #[.int .u64 (c : Int), .int .u64 (b : Int)]) rfl
 have zs2 := w4z (S := #[.int .u64 (s : Int), .int .u64 (c : Int)]) rfl
 have hkz := brz T3.heap.size T3
 have hO2l9 := hO2.lt
 have hO3l9 := hO3.lt
 refine PgM.region_out (S := fun W => Blk W O3 C3 55 ∧ Blk W O2 C2 55 ∧ Below T3.heap.size T3 W) hmx (⟨hO3.next (brz _ _).drew, hO2.next (brz _ _).drew, hkz.trans ((brz _ _).drew.mono hkz.size)⟩) (fun hS9 => ?_)
 generalize T3.drew = v9 at hS9 ⊢
 refine qCz (by kernel_rfl) (fun _ _ _ _ _ h => h) hS9 [(0, none), (1, none), (2, some (.agg #[.int .u64 (c : Int), .int .u64 (b : Int)])), (3, none), (4, none), (5, some (.agg #[.int .u64 (s : Int), .int .u64 (c : Int)]))] (l' := #[tt, tt, tt, tt, tt, tt, ff, ff, ff, ff]) (a' := { tmps := #[.agg D, .int .u64 a1, .agg AA, .pointer (some ⟨B, 0, none⟩), undef, .pointer (some ⟨Q, 0, none⟩), .bool false, .pointer (some ⟨P7, 0, none⟩), .int .u64 ((Pm.nameN ke0 a : Nat) : Int), .int .i64 0, .bool true, .pointer (some ⟨O1, 0, none⟩), .bool true, .pointer (some ⟨O2, 0, none⟩), .bool true, .pointer (some ⟨O3, 0, none⟩), .bool true, ud, ud, ud, undef, .agg D, .bool true, .bool false, .bool false, .agg D, .int .u64 a1, .bool true, .bool false, .bool false, undef, .tuple #[.agg V', .int .u64 ((Pm.nameN ke0 a : Nat) : Int), .int .i64 0, .bool true], .agg D, .int .u64 a1, .agg AA, .tuple #[.agg V', .int .u64 ((Pm.nameN ke0 a : Nat) : Int), .int .i64 0, .bool true], .agg V', .int .u64 ((Pm.nameN ke0 a : Nat) : Int), .int .i64 0, .bool true, .int .i64 0, .bool false, undef, .tuple #[.agg C1, .bool true], .agg D, .int .u64 a1, .tuple #[.agg C1, .bool true], .agg C1, .bool true, .tuple #[.agg C2, .bool true], .agg V', .int .u64 a1, .tuple #[.agg C2, .bool true], .agg C2, .bool true, .tuple #[.agg C3, .bool true], .agg V', .int .u64 ((Pm.nameN ke0 a : Nat) : Int), .tuple #[.agg C3, .bool true], .agg C3, .bool true, .pointer (some ⟨O3, 8, none⟩), .pointer (some ⟨O3, 37, none⟩), .agg #[.int .u64 (c : Int), .int .u64 (b : Int)], .pointer (some ⟨O2, 8, none⟩), .pointer (some ⟨O2, 37, none⟩), .agg #[.int .u64 (s : Int), .int .u64 (c : Int)], ud, ud, ud, ud, ud, ud, ud, ud, ud, ud, ud, ud, ud, ud, ud, ud, ud, ud, ud, ud, ud, ud, ud, ud, ud, ud, ud, ud, ud, ud, ud, ud, ud, ud, ud, ud, ud, ud, ud, ud, ud, ud, ud, ud, ud, ud, ud, ud, ud, ud, ud, ud, ud, ud, ud, ud, ud, ud, ud, ud, ud, ud, ud, ud, ud, ud, ud, ud, ud, ud, ud, ud, ud, ud, ud, ud, ud, ud, ud, ud, ud, ud, ud, ud, ud, ud, ud, ud, ud, ud, ud, ud, ud, ud, ud, ud, ud, ud, ud, ud, ud, ud, ud, ud, ud, ud, ud, ud, ud, ud, ud, ud, ud, ud, ud, ud, ud, ud, undef], defers := [] }) (obs := [.load 48 O3 37 (.agg #[.int .u64 (c : Int), .int .u64 (b : Int)]), .load 48 O2 37 (.agg #[.int .u64 (s : Int), .int .u64 (c : Int)])]) (n := 4) (by kernel_rfl) (by kernel_rfl) ⟨wHz (fun W hS => kHz (hS.1) z37 z38) underlying48 rfl zs1, wHz (fun W hS => kHz (hS.2.1) y37 y38) underlying48 rfl zs2, trivial⟩ ?_
 refine share 2 #[true, true, true, true, true, true, true, true, false, false] (fun A W => ∃ A1 A2, A = { tmps := #[.agg D, .int .u64 a1, .agg AA, .pointer (some ⟨B, 0, none⟩), undef, .pointer (some ⟨Q, 0, none⟩), .bool false, .pointer (some ⟨P7, 0, none⟩), .int .u64 ((Pm.nameN ke0 a : Nat) : Int), .int .i64 0, .bool true, .pointer (some ⟨O1, 0, none⟩), .bool true, .pointer (some ⟨O2, 0, none⟩), .bool true, .pointer (some ⟨O3, 0, none⟩), .bool true, .pointer (some ⟨A1, 0, none⟩), .pointer (some ⟨A2, 0, none⟩), ud, undef, .agg D, .bool true, .bool false, .bool false, .agg D, .int .u64 a1, .bool true, .bool false, .bool false, undef, .tuple #[.agg V', .int .u64 ((Pm.nameN ke0 a : Nat) : Int), .int .i64 0, .bool true], .agg D, .int .u64 a1, .agg AA, .tuple #[.agg V', .int .u64 ((Pm.nameN ke0 a : Nat) : Int), .int .i64 0, .bool true], .agg V', .int .u64 ((Pm.nameN ke0 a : Nat) : Int), .int .i64 0, .bool true, .int .i64 0, .bool false, undef, .tuple #[.agg C1, .bool true], .agg D, .int .u64 a1, .tuple #[.agg C1, .bool true], .agg C1, .bool true, .tuple #[.agg C2, .bool true], .agg V', .int .u64 a1, .tuple #[.agg C2, .bool true], .agg C2, .bool true, .tuple #[.agg C3, .bool true], .agg V', .int .u64 ((Pm.nameN ke0 a : Nat) : Int), .tuple #[.agg C3, .bool true], .agg C3, .bool true, .pointer (some ⟨O3, 8, none⟩), .pointer (some ⟨O3, 37, none⟩), .agg #[.int .u64 (c : Int), .int .u64 (b : Int)], .pointer (some ⟨O2, 8, none⟩), .pointer (some ⟨O2, 37, none⟩), .agg #[.int .u64 (s : Int), .int .u64 (c : Int)], ud, ud, ud, ud, ud, ud, ud, ud, ud, ud, ud, ud, ud, ud, ud, ud, ud, ud, ud, ud, ud, ud, ud, ud, ud, ud, ud, ud, ud, ud, ud, ud, ud, ud, ud, ud, ud, ud, ud, ud, ud, ud, ud, ud, ud, ud, ud, ud, ud, ud, ud, ud, ud, ud, ud, ud, ud, ud, ud, ud, ud, ud, ud, ud, ud, ud, ud, ud, ud, ud, ud, ud, ud, ud, ud, ud, ud, ud, ud, ud, ud, ud, ud, ud, ud, ud, ud, ud, ud, ud, ud, ud, ud, ud, ud, ud, ud, ud, ud, ud, ud, ud, ud, ud, ud, ud, ud, ud, ud, ud, ud, ud, ud, ud, ud, ud, ud, ud, undef], defers := [] } ∧ (Blk W O3 C3 55 ∧ Blk W O2 C2 55 ∧ Below T3.heap.size T3 W) ∧ Blk W A1 #[.int .u64 0, .int .u64 0] 48 ∧ Blk W A2 #[.int .u64 0, .int .u64 0] 48 ∧ A1 ≠ A2 ∧ T3.heap.size ≤ A1 ∧ T3.heap.size ≤ A2) ?_ (fun rest => ?_)
 rotate_left
 ·refine wBz (i := 6) (j := 7) (n := 3) rfl (by kernel_rfl) ?_ ?_
  ·refine qRz (ty := 48) (z := #[.int .u64 0, .int .u64 0]) (d := some 17) (by kernel_rfl) kBz ?_
   intro A1 U1 hM1 hA1 k1
   have r1 : Blk U1 O3 C3 55 ∧ Blk U1 O2 C2 55 ∧ Below T3.heap.size T3 U1 := ⟨hS9.1.next k1, hS9.2.1.next k1, hS9.2.2.trans (k1.mono hS9.2.2.size)⟩
   refine ⟨r1, qkz (i := 7) (n := 2) rfl (by kernel_rfl) ?_⟩
   refine qRz (ty := 48) (z := #[.int .u64 0, .int .u64 0]) (d := some 18) (by kernel_rfl) kBz ?_
   intro A2 U2 hM2 hA2 k2
   have r2 : Blk U2 O3 C3 55 ∧ Blk U2 O2 C2 55 ∧ Below T3.heap.size T3 U2 := ⟨r1.1.next k2, r1.2.1.next k2, r1.2.2.trans (k2.mono r1.2.2.size)⟩
   have m1 := hM1.out
   have m2 := hM2.out
   have m3 := hS9.2.2.size
   exact ⟨r2, rest _ _ ⟨A1, A2, rfl, r2, hA1.next k2, hA2, by omega, by omega, by omega⟩⟩
  ·refine qRz (ty := 48) (z := #[.int .u64 0, .int .u64 0]) (d := some 18) (by kernel_rfl) kBz ?_
   intro A2 U1 hM1 hA2 k1
   have r1 : Blk U1 O3 C3 55 ∧ Blk U1 O2 C2 55 ∧ Below T3.heap.size T3 U1 := ⟨hS9.1.next k1, hS9.2.1.next k1, hS9.2.2.trans (k1.mono hS9.2.2.size)⟩
   refine ⟨r1, qkz (i := 6) (n := 2) rfl (by kernel_rfl) ?_⟩
   refine qRz (ty := 48) (z := #[.int .u64 0, .int .u64 0]) (d := some 17) (by kernel_rfl) kBz ?_
   intro A1 U2 hM2 hA1 k2
   have r2 : Blk U2 O3 C3 55 ∧ Blk U2 O2 C2 55 ∧ Below T3.heap.size T3 U2 := ⟨r1.1.next k2, r1.2.1.next k2, r1.2.2.trans (k2.mono r1.2.2.size)⟩
   have m1 := hM1.out
   have m2 := hM2.out
   have m3 := hS9.2.2.size
   exact ⟨r2, rest _ _ ⟨A1, A2, rfl, r2, hA1, hA2.next k2, by omega, by omega, by omega⟩⟩
 rintro A W ⟨A1, A2, rfl, hS, hA1, hA2, hne, hg1, hg2⟩
 have hl1 := hA1.lt
 have hl2 := hA2.lt
 obtain ⟨U3, hr3, hA13, q3⟩ := qPz (ty := 48) hA1 (C := #[.int .u64 (c : Int), .int .u64 (b : Int)]) zs1 rfl (by kernel_rfl)
 refine qkz (i := 8) (n := 1) rfl (by kernel_rfl) ?_
 refine qQz (ty := 48) (B := A1) (off := 0) (v := .agg #[.int .u64 (c : Int), .int .u64 (b : Int)]) (d := none) (by kernel_rfl) hr3 ?_
 have r3 : Blk U3 O3 C3 55 ∧ Blk U3 O2 C2 55 ∧ Below T3.heap.size T3 U3 := ⟨hS.1.other q3 (by have := hO3l9; omega), hS.2.1.other q3 (by have := hO2l9; omega), q3.below _ _ hg1 hS.2.2⟩
 refine ⟨r3, ?_⟩
 replace hA2 := hA2.other q3 (by omega)
 obtain ⟨U4, hr4, hA24, q4⟩ := qPz (ty := 48) hA2 (C := #[.int .u64 (s : Int), .int .u64 (c : Int)]) zs2 rfl (by kernel_rfl)
 refine qkz (i := 9) (n := 0) rfl (by kernel_rfl) ?_
 refine qQz (ty := 48) (B := A2) (off := 0) (v := .agg #[.int .u64 (s : Int), .int .u64 (c : Int)]) (d := none) (by kernel_rfl) hr4 ?_
 have r4 : Blk U4 O3 C3 55 ∧ Blk U4 O2 C2 55 ∧ Below T3.heap.size T3 U4 := ⟨r3.1.other q4 (by have := hO3l9; omega), r3.2.1.other q4 (by have := hO2l9; omega), q4.below _ _ hg2 r3.2.2⟩
 refine ⟨r4, ?_⟩
 refine wpAnyH_done (by kernel_rfl) ?_ _
 replace hA13 := hA13.other q4 (by omega)
 have k9 := r4.2.2
 replace hk := btz hk k9
 replace hB := hB.next k9
 replace hQ := hQ.next k9
 replace hP7 := hP7.next k9
 replace hO1 := hO1.next k9
 replace hO2 := r4.2.1
 replace hO3 := r4.1
 have ga1 := isAgg22
 have hap : ∀ W : World, Calls prog 22 #[.agg #[.int .u64 (c : Int), .int .u64 (b : Int)], .agg #[.int .u64 (s : Int), .int .u64 (c : Int)]] W fun e w' => e = .returned (.bool true) ∧ Below W.heap.size W w' := fun W => by
  have h9 := jpz c b s c W
  rw [show rapB c b s c = true from by rw [← hss.out]; exact rap_yes a b c] at h9
  exact h9
 have hvl : Pm.nameN ke0 a < 18446744073709551616 := by have := Pm.name_hi ke0 a; omega
 have hh1 : ∀ W : World, Calls prog 23 #[.int .u64 (ke0 : Int), .agg #[.int .u64 (c : Int), .int .u64 (b : Int)], .int .u64 ((Pm.nameN ke0 a : Nat) : Int)] W fun e w' => e = .returned (.bool false) ∧ Below W.heap.size W w' := fun W => by
  have h9 := jQz (k := ke0) (a := c) (b := b) hvl W
  rw [has_not1 hac.1 hac.2] at h9
  exact h9
 have hh2 : ∀ W : World, Calls prog 23 #[.int .u64 (ke0 : Int), .agg #[.int .u64 (s : Int), .int .u64 (c : Int)], .int .u64 ((Pm.nameN ke0 a : Nat) : Int)] W fun e w' => e = .returned (.bool false) ∧ Below W.heap.size W w' := fun W => by
  have h9 := jQz (k := ke0) (a := s) (b := c) hvl W
  rw [show SrM.hasK ke0 s c (Pm.nameN ke0 a) = false from by rw [← hss.out]; exact has_not2 (by omega)] at h9
  exact h9
 have f10 : (#[.int .u64 (c : Int), .int .u64 (b : Int)] : Array Value)[0]? = some (.int .u64 (c : Int)) := rfl
 have f11 : (#[.int .u64 (c : Int), .int .u64 (b : Int)] : Array Value)[1]? = some (.int .u64 (b : Int)) := rfl
 have f20 : (#[.int .u64 (s : Int), .int .u64 (c : Int)] : Array Value)[0]? = some (.int .u64 (s : Int)) := rfl
 have f21 : (#[.int .u64 (s : Int), .int .u64 (c : Int)] : Array Value)[1]? = some (.int .u64 (c : Int)) := rfl
 have hlt : ¬ ((c : Int) < (a : Int)) := by omega
 have hlt2 : decide ((c : Int) < (a : Int)) = false := decide_eq_false hlt
 have hadd2 : ((a : Int) + 1) % 18446744073709551616 = (s : Int) := by have := hss.out; omega
 have hadd : IntKind.u64.wrap ((a : Int) + 1) = (s : Int) := by rw [IntKind.wrap_u64]; exact hadd2
 replace hss : Hid (Hid (a + 1 = s)) := hss
 replace hcc : Hid (Hid (b - SrM.share a b = c)) := hcc
 go_upto_region 12 with (first
  | go_skip
  | ((with_reducible refine qgz (by with_unfolding_all rfl) .lss 22 _ _ _ rfl (.int .u64 (c : Int)) (.int .u64 (a : Int)) rfl rfl (wnz _ _ _ _ _ _) ?_ ?_) <;> intro e77 <;> first | (exfalso; have := e77.out; omega) | clear e77)
  | (with_reducible refine qhz (by with_unfolding_all rfl) 48 _ rfl A1 rfl #[.int .u64 (c : Int), .int .u64 (b : Int)] hA13 _ underlying48 (by kernel_rfl) zs1 ?_)
  | (with_reducible refine qhz (by with_unfolding_all rfl) 48 _ rfl A2 rfl #[.int .u64 (s : Int), .int .u64 (c : Int)] hA24 _ underlying48 (by kernel_rfl) zs2 ?_)
  | (with_reducible refine qaz (by with_unfolding_all rfl) _ _ rfl A1 _ rfl _ _ hA13 _ f10 ga1 ?_)
  | (with_reducible refine qaz (by with_unfolding_all rfl) _ _ rfl A1 _ rfl _ _ hA13 _ f11 ga1 ?_)
  | (with_reducible refine qaz (by with_unfolding_all rfl) _ _ rfl A2 _ rfl _ _ hA24 _ f20 ga1 ?_)
  | (with_reducible refine qaz (by with_unfolding_all rfl) _ _ rfl A2 _ rfl _ _ hA24 _ f21 ga1 ?_)
  | (with_reducible refine qaz (by with_unfolding_all rfl) _ _ rfl O1 _ rfl _ _ hO1 _ x37 ga1 ?_)
  | (with_reducible refine qaz (by with_unfolding_all rfl) _ _ rfl O1 _ rfl _ _ hO1 _ x38 ga1 ?_)
  | (with_reducible refine qaz (by with_unfolding_all rfl) _ _ rfl B _ rfl _ _ hB _ d1 ga1 ?_)
  | (go_at_call 22; (with_reducible refine (hap _).mono ?_); rintro e x1 ⟨rfl, hbA⟩; replace hB := hB.next hbA; replace hQ := hQ.next hbA; replace hO1 := hO1.next hbA; replace hO2 := hO2.next hbA; replace hO3 := hO3.next hbA; replace hA13 := hA13.next hbA; replace hA24 := hA24.next hbA; replace hk := btz hk hbA; replace k9 := btz k9 hbA; clear hbA)
  | (go_at_call 23; (with_reducible refine (hh1 _).mono ?_); rintro e x2 ⟨rfl, hbB⟩; replace hB := hB.next hbB; replace hQ := hQ.next hbB; replace hO1 := hO1.next hbB; replace hO2 := hO2.next hbB; replace hO3 := hO3.next hbB; replace hA13 := hA13.next hbB; replace hA24 := hA24.next hbB; replace hk := btz hk hbB; replace k9 := btz k9 hbB; clear hbB)
  | (go_at_call 23; (with_reducible refine (hh2 _).mono ?_); rintro e x3 ⟨rfl, hbC⟩; replace hB := hB.next hbC; replace hQ := hQ.next hbC; replace hO1 := hO1.next hbC; replace hO2 := hO2.next hbC; replace hO3 := hO3.next hbC; replace hA13 := hA13.next hbC; replace hA24 := hA24.next hbC; replace hk := btz hk hbC; replace k9 := btz k9 hbC; clear hbC))
 have hkx := brz x3.heap.size x3
 refine PgM.region_out (S := fun W => Blk W Q AA 27 ∧ Blk W O1 C1 55 ∧ Below x3.heap.size x3 W) hmx (⟨hQ.next (brz _ _).drew, hO1.next (brz _ _).drew, hkx.trans ((brz _ _).drew.mono hkx.size)⟩) (fun hS8 => ?_)
 generalize x3.drew = v8 at hS8 ⊢
 refine qCz (by kernel_rfl) (fun _ _ _ _ _ h => h) hS8 [(0, some (.pointer (some ⟨Q, 1, none⟩))), (1, some (.int .u64 (pb2 : Int))), (2, some (.int .u64 (pb2 : Int))), (3, none), (4, none), (5, some (.pointer (some ⟨O1, 39 + pb2, none⟩))), (6, some (.slice l1a l1n l1c)), (7, some (.pointer (some ⟨Q, 2, none⟩))), (8, some (.int .u64 (pc2 : Int))), (9, some (.int .u64 (pc2 : Int))), (10, none), (11, none), (12, some (.pointer (some ⟨O1, 39 + pc2, none⟩))), (13, some (.slice l2a l2n l2c)), (14, none), (15, none)] (l' := #[tt, tt, tt, tt, tt, tt, tt, tt, tt, tt, tt, tt, tt, tt, tt, tt]) (a' := { tmps := #[.agg D, .int .u64 a1, .agg AA, .pointer (some ⟨B, 0, none⟩), undef, .pointer (some ⟨Q, 0, none⟩), .bool false, .pointer (some ⟨P7, 0, none⟩), .int .u64 ((Pm.nameN ke0 a : Nat) : Int), .int .i64 0, .bool true, .pointer (some ⟨O1, 0, none⟩), .bool true, .pointer (some ⟨O2, 0, none⟩), .bool true, .pointer (some ⟨O3, 0, none⟩), .bool true, .pointer (some ⟨A1, 0, none⟩), .pointer (some ⟨A2, 0, none⟩), .slice l1a l1n l1c, .slice l2a l2n l2c, .agg D, .bool true, .bool false, .bool false, .agg D, .int .u64 a1, .bool true, .bool false, .bool false, undef, .tuple #[.agg V', .int .u64 ((Pm.nameN ke0 a : Nat) : Int), .int .i64 0, .bool true], .agg D, .int .u64 a1, .agg AA, .tuple #[.agg V', .int .u64 ((Pm.nameN ke0 a : Nat) : Int), .int .i64 0, .bool true], .agg V', .int .u64 ((Pm.nameN ke0 a : Nat) : Int), .int .i64 0, .bool true, .int .i64 0, .bool false, undef, .tuple #[.agg C1, .bool true], .agg D, .int .u64 a1, .tuple #[.agg C1, .bool true], .agg C1, .bool true, .tuple #[.agg C2, .bool true], .agg V', .int .u64 a1, .tuple #[.agg C2, .bool true], .agg C2, .bool true, .tuple #[.agg C3, .bool true], .agg V', .int .u64 ((Pm.nameN ke0 a : Nat) : Int), .tuple #[.agg C3, .bool true], .agg C3, .bool true, .pointer (some ⟨O3, 8, none⟩), .pointer (some ⟨O3, 37, none⟩), .agg #[.int .u64 (c : Int), .int .u64 (b : Int)], .pointer (some ⟨O2, 8, none⟩), .pointer (some ⟨O2, 37, none⟩), .agg #[.int .u64 (s : Int), .int .u64 (c : Int)], .bool true, .bool false, .bool false, .agg #[.int .u64 (c : Int), .int .u64 (b : Int)], .agg #[.int .u64 (s : Int), .int .u64 (c : Int)], .bool true, .bool false, .bool false, .bool false, .pointer (some ⟨A1, 0, none⟩), .int .u64 (c : Int), .pointer (some ⟨O1, 8, none⟩), .pointer (some ⟨O1, 37, none⟩), .pointer (some ⟨O1, 37, none⟩), .int .u64 (a : Int), .bool false, .bool false, .bool false, .pointer (some ⟨A1, 1, none⟩), .int .u64 (b : Int), .pointer (some ⟨O1, 8, none⟩), .pointer (some ⟨O1, 37, none⟩), .pointer (some ⟨O1, 38, none⟩), .int .u64 (b : Int), .bool false, .bool false, .bool false, .pointer (some ⟨A2, 0, none⟩), .int .u64 (s : Int), .pointer (some ⟨O1, 8, none⟩), .pointer (some ⟨O1, 37, none⟩), .pointer (some ⟨O1, 37, none⟩), .int .u64 (a : Int), .int .u64 (s : Int), .bool false, .bool false, .bool false, .pointer (some ⟨A2, 1, none⟩), .int .u64 (c : Int), .pointer (some ⟨A1, 0, none⟩), .int .u64 (c : Int), .bool false, .bool false, .bool false, .pointer (some ⟨B, 1, none⟩), .int .u64 (ke0 : Int), .agg #[.int .u64 (c : Int), .int .u64 (b : Int)], .int .u64 ((Pm.nameN ke0 a : Nat) : Int), .bool false, .bool false, .bool false, .pointer (some ⟨B, 1, none⟩), .int .u64 (ke0 : Int), .agg #[.int .u64 (s : Int), .int .u64 (c : Int)], .int .u64 ((Pm.nameN ke0 a : Nat) : Int), .bool false, .bool false, .pointer (some ⟨Q, 1, none⟩), .int .u64 (pb2 : Int), .int .u64 (pb2 : Int), .pointer (some ⟨O1, 8, none⟩), .pointer (some ⟨O1, 39, none⟩), .pointer (some ⟨O1, 39 + pb2, none⟩), .slice l1a l1n l1c, .pointer (some ⟨Q, 2, none⟩), .int .u64 (pc2 : Int), .int .u64 (pc2 : Int), .pointer (some ⟨O1, 8, none⟩), .pointer (some ⟨O1, 39, none⟩), .pointer (some ⟨O1, 39 + pc2, none⟩), .slice l2a l2n l2c, ud, ud, ud, ud, ud, ud, ud, ud, ud, ud, ud, ud, ud, ud, ud, ud, ud, ud, ud, ud, ud, ud, ud, ud, ud, ud, ud, ud, ud, ud, ud, ud, ud, ud, ud, ud, ud, ud, ud, ud, ud, ud, ud, ud, ud, ud, ud, undef], defers := [] }) (obs := [.ia 27 (.pointer (some ⟨Q, 0, none⟩)) (.int .i64 1) (.pointer (some ⟨Q, 1, none⟩)), .load 22 Q 1 (.int .u64 (pb2 : Int)), .test .and 22 (.tmp 125) (.const (.int .u64 3)) (.int .u64 (pb2 : Int)) (.int .u64 3) (.int .u64 (pb2 : Int)), .ia 49 (.pointer (some ⟨O1, 39, none⟩)) (.int .u64 (pb2 : Int)) (.pointer (some ⟨O1, 39 + pb2, none⟩)), .load 39 O1 (39 + pb2) (.slice l1a l1n l1c), .ia 27 (.pointer (some ⟨Q, 0, none⟩)) (.int .i64 2) (.pointer (some ⟨Q, 2, none⟩)), .load 22 Q 2 (.int .u64 (pc2 : Int)), .test .and 22 (.tmp 132) (.const (.int .u64 3)) (.int .u64 (pc2 : Int)) (.int .u64 3) (.int .u64 (pc2 : Int)), .ia 49 (.pointer (some ⟨O1, 39, none⟩)) (.int .u64 (pc2 : Int)) (.pointer (some ⟨O1, 39 + pc2, none⟩)), .load 39 O1 (39 + pc2) (.slice l2a l2n l2c)]) (n := 0) (by kernel_rfl) (by kernel_rfl) ⟨wEz (i := 1) (by omega), qez (fun W hS => hS.1) aA1 ga1, g5z hk1, ob_ia4 hk1, qez (fun W hS => hS.2.1) e1 isAgg39, wEz (i := 2) (by omega), qez (fun W hS => hS.1) aA2 ga1, g5z hk2, ob_ia4 hk2, qez (fun W hS => hS.2.1) e2 isAgg39, trivial⟩ ?_
 refine wpAnyH_done (by kernel_rfl) ?_ _
 have kx := hS8.2.2
 replace hk := btz hk kx
 replace k9 := btz k9 kx
 replace hQ := hS8.1
 replace hO3 := hO3.next kx
 clear hB hA13 hA24 hO2 hS8 kx hkx hap hh1 hh2 hlt2 hadd hadd2 f10 f11 f20 f21 x37 x38 y37 y38 z37 z38 zs1 zs2
 have hj : ∀ {i : Nat}, i < 7 → ∀ W : World, (Instr.indexAt 27 (.pointer (some ⟨Q, 0, none⟩)) (.int .i64 (i : Int))).run prog W = .ok (.pointer (some ⟨Q, i, none⟩)) W := fun {i} hi W => by have := xDz (b := Q) (o := 0) hi W; rw [Nat.zero_add] at this; exact this
 have hj3 : ∀ W : World, (Instr.indexAt 27 (.pointer (some ⟨Q, 0, none⟩)) (.int .i64 3)).run prog W = .ok (.pointer (some ⟨Q, 3, none⟩)) W := hj (i := 3) (by omega)
 have hj4 : ∀ W : World, (Instr.indexAt 27 (.pointer (some ⟨Q, 0, none⟩)) (.int .i64 4)).run prog W = .ok (.pointer (some ⟨Q, 4, none⟩)) W := hj (i := 4) (by omega)
 have hj5 : ∀ W : World, (Instr.indexAt 27 (.pointer (some ⟨Q, 0, none⟩)) (.int .i64 5)).run prog W = .ok (.pointer (some ⟨Q, 5, none⟩)) W := hj (i := 5) (by omega)
 have hj6 : ∀ W : World, (Instr.indexAt 27 (.pointer (some ⟨Q, 0, none⟩)) (.int .i64 6)).run prog W = .ok (.pointer (some ⟨Q, 6, none⟩)) W := hj (i := 6) (by omega)
 have hr16 : ∀ W : World, (Instr.indexAt 42 (.pointer (some ⟨O3, 8, none⟩)) (.int .i64 1)).run prog W = .ok (.pointer (some ⟨O3, 9, none⟩)) W := fun W => yUz (b := O3) (o := 8) (i := 1) (by omega) W
 have hs1 : ∀ {W : World}, Below T3.heap.size T3 W → Calls prog 16 #[.slice l3a l3n l3c, .slice l1a l1n l1c] W fun e w' => e = .returned (.bool true) ∧ Below W.heap.size W w' := fun {W} k => by
  have h9 := rsame_any (L := labT (fO X0 a1).th (pb2 : Int)) (LabD.lab' lb3 k) (lrz _) (LabD.lab' lb1 k) (lrz _)
  rw [sameB_refl] at h9
  exact h9
 have hs2 : ∀ {W : World}, Below T3.heap.size T3 W → Calls prog 16 #[.slice l4a l4n l4c, .slice l2a l2n l2c] W fun e w' => e = .returned (.bool true) ∧ Below W.heap.size W w' := fun {W} k => by
  have h9 := rsame_any (L := labT (fO X0 a1).th (pc2 : Int)) (LabD.lab' lb4 k) (lrz _) (LabD.lab' lb2 k) (lrz _)
  rw [sameB_refl] at h9
  exact h9
 clear hj lb1 lb2 lb3 lb4 oC1 oC2 oC3
 go_wp2_with (first
  | go_skip
  | (with_reducible refine qaz (by with_unfolding_all rfl) _ _ rfl O3 _ rfl _ _ hO3 _ z24 ga1 ?_)
  | (with_reducible refine qVz (by with_unfolding_all rfl) _ _ _ rfl _ _ rfl rfl _ (hj3 _) ?_)
  | (with_reducible refine qaz (by with_unfolding_all rfl) _ _ rfl Q _ rfl _ _ hQ _ aA3 ga1 ?_)
  | (with_reducible refine qVz (by with_unfolding_all rfl) _ _ _ rfl _ _ rfl rfl _ (hr16 _) ?_)
  | (with_reducible refine qaz (by with_unfolding_all rfl) _ _ rfl O3 _ rfl _ _ hO3 _ z9 ga1 ?_)
  | (with_reducible refine qVz (by with_unfolding_all rfl) _ _ _ rfl _ _ rfl rfl _ (hj4 _) ?_)
  | (with_reducible refine qaz (by with_unfolding_all rfl) _ _ rfl Q _ rfl _ _ hQ _ aA4 ga1 ?_)
  | (with_reducible refine qxz (by with_unfolding_all rfl) 44 _ rfl O3 _ rfl #[.int .u64 (pf2 : Int), .int .u64 (pg2 : Int)] (kHz hO3 z26 z27) _ underlying44 (by kernel_rfl) (sizeR2 _ _) ?_)
  | (with_reducible refine qVz (by with_unfolding_all rfl) _ _ _ rfl _ _ rfl rfl _ (hj5 _) ?_)
  | (with_reducible refine qaz (by with_unfolding_all rfl) _ _ rfl Q _ rfl _ _ hQ _ aA5 ga1 ?_)
  | (with_reducible refine qVz (by with_unfolding_all rfl) _ _ _ rfl _ _ rfl rfl _ (hj6 _) ?_)
  | (with_reducible refine qaz (by with_unfolding_all rfl) _ _ rfl Q _ rfl _ _ hQ _ aA6 ga1 ?_)
  | ((with_reducible refine qTz (by with_unfolding_all rfl) 44 [(0, .tmp 158), (1, .tmp 160)] rfl #[.int .u64 (pf2 : Int), .int .u64 (pg2 : Int)] ?hf ?_); (case hf => kernel_rfl))
  | ((with_reducible refine qgz (by with_unfolding_all rfl) .eql 44 _ _ _ rfl (.agg #[.int .u64 (pf2 : Int), .int .u64 (pg2 : Int)]) (.agg #[.int .u64 (pf2 : Int), .int .u64 (pg2 : Int)]) rfl rfl (kaz _ _ _ _ _ _) ?_ ?_) <;> intro e78 <;> first | (exfalso; exact e78.out ⟨rfl, rfl⟩) | clear e78)
  | (with_reducible refine qaz (by with_unfolding_all rfl) _ _ rfl O3 _ rfl _ _ hO3 _ z30 isAgg3 ?_)
  | (with_reducible refine qaz (by with_unfolding_all rfl) _ _ rfl O3 _ rfl _ _ hO3 _ e3 isAgg39 ?_)
  | (with_reducible refine qaz (by with_unfolding_all rfl) _ _ rfl O3 _ rfl _ _ hO3 _ e4 isAgg39 ?_)
  | (go_at_call 16; (with_reducible refine (hs1 k9).mono ?_); rintro e x4 ⟨rfl, hbD⟩; replace hQ := hQ.next hbD; replace hO3 := hO3.next hbD; replace hk := btz hk hbD; replace k9 := btz k9 hbD; clear hbD)
  | (go_at_call 16; (with_reducible refine (hs2 k9).mono ?_); rintro e x5 ⟨rfl, hbE⟩; replace hQ := hQ.next hbE; replace hO3 := hO3.next hbE; replace hk := btz hk hbE; replace k9 := btz k9 hbE; clear hbE)
  | (go_at_call 9; (with_reducible refine (w0z _).mono ?_); rintro e w99 ⟨rfl, hb9⟩; replace hk := btz hk hb9))
 go_ret
 exact ⟨rfl, hk⟩
theorem lifted (os : Os) (started : os.Started) (H : Type) (enc : TypeId × Value → H) :
  ReturnsInHanded {} Tryz.checked os 6 .any (Rows.kobjPartsSpec.pre6 enc prog Tryz.f6 Rows.kobjPartsRow.domain false) (Rows.kobjPartsSpec.post enc prog Tryz.f6 false true false false) := by
 refine returnsInHanded_of_change (C := Tryz.checked) own started (by kernel_rfl) func6
  (ChangeSpec.witness6 (enc := enc) (C := Tryz.checked) false ⟨#[], #[.agg #[.int .i64 0, .int .u64 0, .int .u64 0, .slice none 0 0], .int .u64 0, .agg #[.int .u64 0, .int .u64 0, .int .u64 0, .int .u64 0, .int .u64 0, .int .u64 0, .int .u64 0]], []⟩ 8 (by kernel_rfl) (by kernel_rfl) (by kernel_rfl) (by kernel_rfl)) ?_
 intro W base args ds gs before hval0 hW hcnd _
 have hval : ∀ (j : Nat) t v, Tryz.f6.params[j]? = some t → args[j]? = some v → Value.okWide prog W .any base t v := hval0
 have hW' := hW
 obtain ⟨p, q, hA0, hV, rfl, hfz, hnd⟩ := hW
 have hA : DataW.TrodAll enc prog W 0 (fun _ => true) true Tryz.f6.params.toList args.toList ds p := hA0
 rw [Tryz.params6] at hA hval
 obtain ⟨v0, vs0, d0, ds0, p0, q0, hargs, rfl, rfl, h0, r0⟩ := trodAll_cons hA
 obtain ⟨v1, vs1, d1, ds1, p1, q1, rfl, rfl, rfl, h1, r1⟩ := trodAll_cons r0
 obtain ⟨v2, vs2, d2, ds2, p2, q2, rfl, rfl, rfl, h2, r2⟩ := trodAll_cons r1
 obtain ⟨rfl, rfl, rfl⟩ := trodAll_nil r2
 obtain rfl : args = #[v0, v1, v2] := by cases args; simp_all
 obtain ⟨rfl, rfl⟩ := trodVars_none hV
 obtain ⟨t0, ke0, ro0, ao0, n0, cap0, X0, rfl, l0⟩ := jaz (hval 0 25 v0 rfl rfl) h0
 have k0 := h0
 have lt0 : ∀ x ∈ p0, x.block < W.heap.size := by obtain ⟨m, hm⟩ := k0; exact DataW.trod_lt m _ _ _ hm
 obtain ⟨a1, rfl, rfl, rfl, w1⟩ := open_int underlying22 (hval 1 22 v1 rfl rfl) h1
 obtain ⟨pa2, pb2, pc2, pd2, pe2, pf2, pg2, rfl, l2⟩ := v2z (hval 2 27 v2 rfl rfl) h2
 have k2 := h2
 have lt2 : ∀ x ∈ p2, x.block < W.heap.size := by obtain ⟨m, hm⟩ := k2; exact DataW.trod_lt m _ _ _ hm
 clear hA0 hval0
 refine (walk t0 ke0 ro0 ao0 n0 cap0 X0 a1 pa2 pb2 pc2 pd2 pe2 pf2 pg2 W l0 w1 l2).mono fun e W' ⟨he, bel⟩ => ?_
 subst he
 exact ⟨_, rfl, _, _, _, [], _, [], hW', trodAll_mk1 (shut_bool underlying4 _), (trodAll_cons_mk (Below.trod bfz (by kernel_rfl) (of_decide_eq_true (by kernel_rfl)) k0 bel lt0) (trodAll_cons_mk (shut_int underlying22 w1) (trodAll_cons_mk (Below.trod bfz (by kernel_rfl) (of_decide_eq_true (by kernel_rfl)) k2 bel lt2) trodAll_mk0))), rfl, bel.frame _, fun h => by cases h⟩
theorem over : Rows.kobjPartsRow.holds Tryz.pinned (OpenSpec.ofChange Rows.kobjPartsSpec) :=
 OpenClaim.holds_of_wide 6 Tryz.f6 rfl rfl rfl rfl rfl rfl rfl ⟨rfl, rfl, rfl, rfl, rfl⟩ rfl rfl rfl rfl rfl (by kernel_rfl) func6 (by kernel_rfl)
  (of_decide_eq_true (by kernel_rfl)) (by unfold Func.isWrapper; first | (rw [if_pos (by decide +kernel)]; kernel_rfl) | (rw [if_neg (by decide +kernel)]; exact ⟨rfl, rfl⟩))
  (fun os started H enc _ => lifted os started H enc)
end kobjParts
theorem kobjParts_holds : Rows.KobjPartsSaid :=
 kobjParts.over
#print axioms kobjParts_holds
end Go.Proofs.YtloghnpfplljgaaGreat
