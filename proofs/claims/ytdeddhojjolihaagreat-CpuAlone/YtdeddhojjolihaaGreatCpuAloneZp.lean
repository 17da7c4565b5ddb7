/-
 PROVED HERE: behind an instruction nothing but the thread is another one, and one word of one segment at most. No condition besides the statement's own.
-/
import Derived.Test.YtdeddhojjolihaaGreatRows
import Derived.WalkKit
import Derived.ProofKit
import Derived.OpenShut
import Derived.Below
import Derived.ShutString
import Derived.Deep.QuietTactic
import Derived.Deep.DeepCutAuto
import Derived.Test.YtdeddhojjolihaaGreatZ14
import Derived.Test.YtdeddhojjolihaaGreatZ15
import Derived.Test.YtdeddhojjolihaaGreatZ25
import Derived.Test.YtdeddhojjolihaaGreatZ37
import Derived.Test.YtdeddhojjolihaaGreatZ42
import Derived.Test.YtdeddhojjolihaaGreatZ52
import Derived.Test.YtdeddhojjolihaaGreatZ53
import Derived.Test.YtdeddhojjolihaaGreatZ54
set_option maxRecDepth 100000
set_option maxHeartbeats 8000000
set_option linter.unusedVariables false
open Go.Proofs.Tryz
namespace Go.Proofs.YtdeddhojjolihaaGreat
namespace cpuAlone
open Go.ChangeShapes Go.WideShapes Go.ChangeAt Go.RowKit
open Go.ChangeMaps (open_string shut_string)
theorem own : ownKnob prog.godebug = none := by kernel_rfl
theorem walk (t0 : Int) (ke0 : Nat) (ro0 : Int) (ao0 : Option Addr) (n0 cap0 : Nat) (X0 : List Ob) (a1 : Int) (w : World) (l0 : Obs w ao0 n0 cap0 X0 ∧ ∀ x ∈ X0, WdO x ∧ WdC x) (w1 : (Lit.int .u64 a1).wf = true) :
  Calls prog 5 #[.agg #[.int .i64 t0, .int .u64 (ke0 : Int), .int .u64 ro0, .slice ao0 n0 cap0], .int .u64 a1] w fun e w' => e = .returned (.bool true) ∧ Below w.heap.size w w' := by
 obtain ⟨hX, hwc⟩ := l0
 have hwd := fun x hx => (hwc x hx).1
 have hfw := fun (W : World) (hk : Below w.heap.size w W) => gez (t := t0) (ro := ro0) (key := ke0) (quz hX hk) hwd
 have hzg : (prog.info? 25).map (·.size) = some (#[.int .i64 t0, .int .u64 (ke0 : Int), .int .u64 ro0, .slice ao0 n0 cap0] : Array Value).size := by kernel_rfl
 by_cases hF : few19P t0 ke0 ro0 X0
 ·skip
  have htr := xbz hF.2
  have hn0 : X0.length = n0 := hX.1
  have hn24 : n0 ≤ 24 := by have := hF.1.1; omega
  have hsm : wfz X0 := fun x hx => wPz (htr.snd x hx)
  have hGd : Gd t0 ke0 ro0 n0 X0 := ⟨hF.2, hwc, hn0⟩
  have c1 := fun (W : World) (hk : Below w.heap.size w W) => step_all (t := t0) (ro := ro0) (key := ke0) (i := a1) (quz hX hk) hF.2 (hGd.wk hn24 a1)
  have c2 := fun (W : World) (hk : Below w.heap.size w W) => kbz (t := t0) (ke := (ke0 : Int)) (ro := ro0) (i := a1) hX hk
  have ga2 := isAgg3
  have ga1 := isAgg22
  have ga3 := isAgg23
  have ga4 := isAgg35
  have hmx : prog.follows .mixedOrders = true := by kernel_rfl
  cases hr : ruB X0 a1 with
  | false =>
   obtain ⟨e1, e2⟩ := stp_no hr
   rw [e1, e2] at c1
   have hsa := fun (W : World) (ao : Option Addr) (n cap : Nat) (o : Obs W ao n cap X0) (hk : Below w.heap.size w W) => (rsame_w (t := t0) (ke := (ke0 : Int)) (ro := ro0) (t' := t0) (ke' := (ke0 : Int)) (ro' := ro0) o (quz hX hk)).yes rfl
   have hcase : (fnd X0 a1).isSome = false ∨ ((fnd X0 a1).isSome = true ∧ ((fO X0 a1).kind != 4) = true) ∨ ((fnd X0 a1).isSome = true ∧ ((fO X0 a1).kind != 4) = false ∧ ((fO X0 a1).th.state != 0) = true) := by
    unfold ruB at hr
    cases h1 : (fnd X0 a1).isSome with
    | false => exact .inl rfl
    | true =>
     by_cases h2 : (fO X0 a1).kind = 4
     ·refine .inr (.inr ⟨rfl, by simp [h2], ?_⟩)
      rw [h1, Bool.true_and, decide_eq_true h2, Bool.true_and] at hr
      simpa using hr
     ·exact .inr (.inl ⟨rfl, by simpa using h2⟩)
   clear hr e1 e2
   generalize fO X0 a1 = y at c2 hcase
   rcases hcase with h1 | ⟨h1, h2⟩ | ⟨h1, h2, h3⟩
   ·rw [h1] at c2
    obtain ⟨D, hD⟩ : ∃ D : Array Value, D = #[.int .i64 t0, .int .u64 (ke0 : Int), .int .u64 ro0, .slice ao0 n0 cap0] := ⟨_, rfl⟩
    rw [← hD] at hzg hfw c1 c2 hsa
    rw [← hD]
    clear hD
    go_enter func5, ntmps5
    go_wp2_with (first
     | go_skip
     | (with_reducible refine qdz rfl 25 _ rfl D rfl ?_; intro B V1 hNB hB hk)
     | (with_reducible refine qez (by kernel_rfl) 25 _ rfl B rfl D hB _ underlying25 (by kernel_rfl) hzg ?_)
     | (go_at_call 6; (with_reducible refine ((hfw _ hk).yes hF).mono ?_); rintro e w44 ⟨rfl, hb4⟩; replace hB := hB.next hb4; replace hk := btz hk hb4; clear hb4)
     | (go_at_call 8; (with_reducible refine (c1 _ hk).mono ?_); rintro e w66 ⟨ao3, n3, cap3, rfl, oW3, hbW3⟩)
     | ((with_reducible refine qcz rfl 25 rfl zW wzz ?_); have hx := oW3; clear hx; intro P3 U3 hN23 hPa3 hka3)
     | ((with_reducible refine qbz rfl _ _ _ rfl P3 rfl #[.int .i64 t0, .int .u64 (ke0 : Int), .int .u64 ro0, .slice ao3 n3 cap3] rfl zW hPa3 (kCz _ _ _ _ _ _) (zW4 _ _ _ _ _ _) (oneW4 _ _ _ _ _ _) ?_); intro X3 hP3 q3; obtain ⟨hbz, oV3⟩ := laidW hbW3 oW3 hN23 hka3 q3; clear oW3 hbW3 hN23 hka3 q3 hPa3; replace hB := hB.next hbz; replace hk := btz hk hbz; clear hbz; skip)
     | (with_reducible refine qez (by kernel_rfl) 25 _ rfl P3 rfl #[.int .i64 t0, .int .u64 (ke0 : Int), .int .u64 ro0, .slice ao3 n3 cap3] hP3 _ underlying25 (by kernel_rfl) (kCz _ _ _ _ _ _) ?_)
     | (go_at_call 12; (with_reducible refine (c2 _ hk).mono ?_); rintro e w77 ⟨CF4, rfl, oF4, hb4⟩)
     | ((with_reducible refine qcz rfl 50 rfl zC qsz ?_); have hx := oF4; clear hx; intro P4 U4 hN24 hPa4 hka4)
     | ((with_reducible refine qbz rfl _ _ _ rfl P4 rfl CF4 rfl zC hPa4 (qhz oF4.size) (qmz.trans oF4.size.symm) oF4.one ?_); intro X4 hP4 q4; obtain ⟨hbz, oG4⟩ := laidO hk hb4 oF4 hN24 hka4 q4; have zG4 := oG4.size; clear oF4 hb4 hN24 hka4 q4 hPa4; replace hB := hB.next hbz; replace hP3 := hP3.next hbz; replace oV3 := oV3.next hbz; replace hk := btz hk hbz; clear hbz; have f1 := oG4.lt.kind; have f30 : CF4[30]? = some (.int .i64 y.th.state) := oG4.lt.th.state; skip)
     | (with_reducible refine qaz (by kernel_rfl) _ _ rfl P4 _ rfl _ _ hP4 _ f1 ga2 ?_)
     | (with_reducible refine qaz (by kernel_rfl) _ _ rfl P4 _ rfl _ _ hP4 _ f30 ga2 ?_)
     | (go_at_call 10; (with_reducible refine (hsa _ _ _ _ oV3 hk).mono ?_); rintro e w2 ⟨rfl, hb7⟩; replace hB := hB.next hb7; replace hP3 := hP3.next hb7; replace hP4 := hP4.next hb7; replace oV3 := oV3.next hb7; replace oG4 := oG4.next hb7; replace hk := btz hk hb7; clear hb7; skip)
     | (go_at_call 7; (with_reducible refine (wNz _).mono ?_); rintro e w99 ⟨rfl, hb9⟩; replace hk := btz hk hb9))
    go_ret
    exact ⟨rfl, hk⟩
   ·rw [h1] at c2
    obtain ⟨D, hD⟩ : ∃ D : Array Value, D = #[.int .i64 t0, .int .u64 (ke0 : Int), .int .u64 ro0, .slice ao0 n0 cap0] := ⟨_, rfl⟩
    rw [← hD] at hzg hfw c1 c2 hsa
    rw [← hD]
    clear hD
    go_enter func5, ntmps5
    go_wp2_with (first
     | go_skip
     | (with_reducible refine qdz rfl 25 _ rfl D rfl ?_; intro B V1 hNB hB hk)
     | (with_reducible refine qez (by kernel_rfl) 25 _ rfl B rfl D hB _ underlying25 (by kernel_rfl) hzg ?_)
     | (go_at_call 6; (with_reducible refine ((hfw _ hk).yes hF).mono ?_); rintro e w44 ⟨rfl, hb4⟩; replace hB := hB.next hb4; replace hk := btz hk hb4; clear hb4)
     | (go_at_call 8; (with_reducible refine (c1 _ hk).mono ?_); rintro e w66 ⟨ao3, n3, cap3, rfl, oW3, hbW3⟩)
     | ((with_reducible refine qcz rfl 25 rfl zW wzz ?_); have hx := oW3; clear hx; intro P3 U3 hN23 hPa3 hka3)
     | ((with_reducible refine qbz rfl _ _ _ rfl P3 rfl #[.int .i64 t0, .int .u64 (ke0 : Int), .int .u64 ro0, .slice ao3 n3 cap3] rfl zW hPa3 (kCz _ _ _ _ _ _) (zW4 _ _ _ _ _ _) (oneW4 _ _ _ _ _ _) ?_); intro X3 hP3 q3; obtain ⟨hbz, oV3⟩ := laidW hbW3 oW3 hN23 hka3 q3; clear oW3 hbW3 hN23 hka3 q3 hPa3; replace hB := hB.next hbz; replace hk := btz hk hbz; clear hbz; skip)
     | (with_reducible refine qez (by kernel_rfl) 25 _ rfl P3 rfl #[.int .i64 t0, .int .u64 (ke0 : Int), .int .u64 ro0, .slice ao3 n3 cap3] hP3 _ underlying25 (by kernel_rfl) (kCz _ _ _ _ _ _) ?_)
     | (go_at_call 12; (with_reducible refine (c2 _ hk).mono ?_); rintro e w77 ⟨CF4, rfl, oF4, hb4⟩)
     | ((with_reducible refine qcz rfl 50 rfl zC qsz ?_); have hx := oF4; clear hx; intro P4 U4 hN24 hPa4 hka4)
     | ((with_reducible refine qbz rfl _ _ _ rfl P4 rfl CF4 rfl zC hPa4 (qhz oF4.size) (qmz.trans oF4.size.symm) oF4.one ?_); intro X4 hP4 q4; obtain ⟨hbz, oG4⟩ := laidO hk hb4 oF4 hN24 hka4 q4; have zG4 := oG4.size; clear oF4 hb4 hN24 hka4 q4 hPa4; replace hB := hB.next hbz; replace hP3 := hP3.next hbz; replace oV3 := oV3.next hbz; replace hk := btz hk hbz; clear hbz; have f1 := oG4.lt.kind; have f30 : CF4[30]? = some (.int .i64 y.th.state) := oG4.lt.th.state; skip)
     | (with_reducible refine qaz (by kernel_rfl) _ _ rfl P4 _ rfl _ _ hP4 _ f1 ga2 ?_)
     | (with_reducible refine qaz (by kernel_rfl) _ _ rfl P4 _ rfl _ _ hP4 _ f30 ga2 ?_)
     | (go_at_call 10; (with_reducible refine (hsa _ _ _ _ oV3 hk).mono ?_); rintro e w2 ⟨rfl, hb7⟩; replace hB := hB.next hb7; replace hP3 := hP3.next hb7; replace hP4 := hP4.next hb7; replace oV3 := oV3.next hb7; replace oG4 := oG4.next hb7; replace hk := btz hk hb7; clear hb7; skip)
     | (go_at_call 7; (with_reducible refine (wNz _).mono ?_); rintro e w99 ⟨rfl, hb9⟩; replace hk := btz hk hb9))
    go_ret
    exact ⟨rfl, hk⟩
   ·rw [h1] at c2
    obtain ⟨D, hD⟩ : ∃ D : Array Value, D = #[.int .i64 t0, .int .u64 (ke0 : Int), .int .u64 ro0, .slice ao0 n0 cap0] := ⟨_, rfl⟩
    rw [← hD] at hzg hfw c1 c2 hsa
    rw [← hD]
    clear hD
    go_enter func5, ntmps5
    go_wp2_with (first
     | go_skip
     | (with_reducible refine qdz rfl 25 _ rfl D rfl ?_; intro B V1 hNB hB hk)
     | (with_reducible refine qez (by kernel_rfl) 25 _ rfl B rfl D hB _ underlying25 (by kernel_rfl) hzg ?_)
     | (go_at_call 6; (with_reducible refine ((hfw _ hk).yes hF).mono ?_); rintro e w44 ⟨rfl, hb4⟩; replace hB := hB.next hb4; replace hk := btz hk hb4; clear hb4)
     | (go_at_call 8; (with_reducible refine (c1 _ hk).mono ?_); rintro e w66 ⟨ao3, n3, cap3, rfl, oW3, hbW3⟩)
     | ((with_reducible refine qcz rfl 25 rfl zW wzz ?_); have hx := oW3; clear hx; intro P3 U3 hN23 hPa3 hka3)
     | ((with_reducible refine qbz rfl _ _ _ rfl P3 rfl #[.int .i64 t0, .int .u64 (ke0 : Int), .int .u64 ro0, .slice ao3 n3 cap3] rfl zW hPa3 (kCz _ _ _ _ _ _) (zW4 _ _ _ _ _ _) (oneW4 _ _ _ _ _ _) ?_); intro X3 hP3 q3; obtain ⟨hbz, oV3⟩ := laidW hbW3 oW3 hN23 hka3 q3; clear oW3 hbW3 hN23 hka3 q3 hPa3; replace hB := hB.next hbz; replace hk := btz hk hbz; clear hbz; skip)
     | (with_reducible refine qez (by kernel_rfl) 25 _ rfl P3 rfl #[.int .i64 t0, .int .u64 (ke0 : Int), .int .u64 ro0, .slice ao3 n3 cap3] hP3 _ underlying25 (by kernel_rfl) (kCz _ _ _ _ _ _) ?_)
     | (go_at_call 12; (with_reducible refine (c2 _ hk).mono ?_); rintro e w77 ⟨CF4, rfl, oF4, hb4⟩)
     | ((with_reducible refine qcz rfl 50 rfl zC qsz ?_); have hx := oF4; clear hx; intro P4 U4 hN24 hPa4 hka4)
     | ((with_reducible refine qbz rfl _ _ _ rfl P4 rfl CF4 rfl zC hPa4 (qhz oF4.size) (qmz.trans oF4.size.symm) oF4.one ?_); intro X4 hP4 q4; obtain ⟨hbz, oG4⟩ := laidO hk hb4 oF4 hN24 hka4 q4; have zG4 := oG4.size; clear oF4 hb4 hN24 hka4 q4 hPa4; replace hB := hB.next hbz; replace hP3 := hP3.next hbz; replace oV3 := oV3.next hbz; replace hk := btz hk hbz; clear hbz; have f1 := oG4.lt.kind; have f30 : CF4[30]? = some (.int .i64 y.th.state) := oG4.lt.th.state; skip)
     | (with_reducible refine qaz (by kernel_rfl) _ _ rfl P4 _ rfl _ _ hP4 _ f1 ga2 ?_)
     | (with_reducible refine qaz (by kernel_rfl) _ _ rfl P4 _ rfl _ _ hP4 _ f30 ga2 ?_)
     | (go_at_call 10; (with_reducible refine (hsa _ _ _ _ oV3 hk).mono ?_); rintro e w2 ⟨rfl, hb7⟩; replace hB := hB.next hb7; replace hP3 := hP3.next hb7; replace hP4 := hP4.next hb7; replace oV3 := oV3.next hb7; replace oG4 := oG4.next hb7; replace hk := btz hk hb7; clear hb7; skip)
     | (go_at_call 7; (with_reducible refine (wNz _).mono ?_); rintro e w99 ⟨rfl, hb9⟩; replace hk := btz hk hb9))
    go_ret
    exact ⟨rfl, hk⟩
  | true =>
   have hm := vZz hr
   have h1 : (fnd X0 a1).isSome = true := by unfold ruB at hr; cases h : (fnd X0 a1).isSome with | true => rfl | false => rw [h] at hr; cases hr
   have h2 : ((fO X0 a1).kind != 4) = false := by simp [hm.2.2.1]
   have h3 : ((fO X0 a1).th.state != 0) = false := by simp [hm.2.2.2]
   obtain ⟨p, hp⟩ := stp_at hF.2 hr
   have hN := stp_n X0 a1
   have hl := stp_len (i := a1) hF.2
   rw [h1] at c2
   clear hr h1
   generalize fO X0 a1 = y at c2 h2 h3 hm
   generalize stpX X0 a1 = XS at c1 hp hl
   generalize stpN X0 a1 = NS at c1 hp hN
   have hN' : ¬ (NS < -1) := by omega
   have hnn : ¬ ¬ ((n0 : Int) = (n0 : Int)) := fun q => q rfl
   have htt : ¬ ¬ (t0 = t0) := fun q => q rfl
   have e03 : (#[.int .i64 t0, .int .u64 (ke0 : Int), .int .u64 ro0, .slice ao0 n0 cap0] : Array Value)[3]? = some (.slice ao0 n0 cap0) := rfl
   have e00 : (#[.int .i64 t0, .int .u64 (ke0 : Int), .int .u64 ro0, .slice ao0 n0 cap0] : Array Value)[0]? = some (.int .i64 t0) := rfl
   obtain ⟨D, hD⟩ : ∃ D : Array Value, D = #[.int .i64 t0, .int .u64 (ke0 : Int), .int .u64 ro0, .slice ao0 n0 cap0] := ⟨_, rfl⟩
   rw [← hD] at hzg hfw c1 c2 e03 e00
   rw [← hD]
   clear hD
   go_enter func5, ntmps5
   go_wp2_with (first
    | go_skip
    | (with_reducible refine qdz rfl 25 _ rfl D rfl ?_; intro B V1 hNB hB hk)
    | (with_reducible refine qez (by kernel_rfl) 25 _ rfl B rfl D hB _ underlying25 (by kernel_rfl) hzg ?_)
    | (go_at_call 6; (with_reducible refine ((hfw _ hk).yes hF).mono ?_); rintro e w44 ⟨rfl, hb4⟩; replace hB := hB.next hb4; replace hk := btz hk hb4; clear hb4)
    | (go_at_call 8; (with_reducible refine (c1 _ hk).mono ?_); rintro e w66 ⟨ao3, n3, cap3, rfl, oW3, hbW3⟩; obtain rfl : n0 = n3 := (by have := oW3.1; omega))
    | ((with_reducible refine qcz rfl 25 rfl zW wzz ?_); have hx := oW3; clear hx; intro P3 U3 hN23 hPa3 hka3)
    | ((with_reducible refine qbz rfl _ _ _ rfl P3 rfl #[.int .i64 t0, .int .u64 (ke0 : Int), .int .u64 ro0, .slice ao3 n0 cap3] rfl zW hPa3 (kCz _ _ _ _ _ _) (zW4 _ _ _ _ _ _) (oneW4 _ _ _ _ _ _) ?_); intro X3 hP3 q3; obtain ⟨hbz, oV3⟩ := laidW hbW3 oW3 hN23 hka3 q3; clear oW3 hbW3 hN23 hka3 q3 hPa3; replace hB := hB.next hbz; replace hk := btz hk hbz; clear hbz; skip)
    | (go_at_call 12; (with_reducible refine (c2 _ hk).mono ?_); rintro e w77 ⟨CF4, rfl, oF4, hb4⟩)
    | ((with_reducible refine qcz rfl 50 rfl zC qsz ?_); have hx := oF4; clear hx; intro P4 U4 hN24 hPa4 hka4)
    | ((with_reducible refine qbz rfl _ _ _ rfl P4 rfl CF4 rfl zC hPa4 (qhz oF4.size) (qmz.trans oF4.size.symm) oF4.one ?_); intro X4 hP4 q4; obtain ⟨hbz, oG4⟩ := laidO hk hb4 oF4 hN24 hka4 q4; have zG4 := oG4.size; clear oF4 hb4 hN24 hka4 q4 hPa4; replace hB := hB.next hbz; replace hP3 := hP3.next hbz; replace oV3 := oV3.next hbz; replace hk := btz hk hbz; clear hbz; have f1 := oG4.lt.kind; have f30 : CF4[30]? = some (.int .i64 y.th.state) := oG4.lt.th.state; skip)
    | (with_reducible refine qaz (by kernel_rfl) _ _ rfl P4 _ rfl _ _ hP4 _ f1 ga2 ?_)
    | (with_reducible refine qaz (by kernel_rfl) _ _ rfl P4 _ rfl _ _ hP4 _ f30 ga2 ?_)
    | (with_reducible refine qaz (by kernel_rfl) _ _ rfl P3 _ rfl _ _ hP3 _ (show (#[.int .i64 t0, .int .u64 (ke0 : Int), .int .u64 ro0, .slice ao3 n0 cap3] : Array Value)[3]? = some (.slice ao3 n0 cap3) from rfl) ga3 ?_)
    | (with_reducible refine qaz (by kernel_rfl) _ _ rfl P3 _ rfl _ _ hP3 _ (show (#[.int .i64 t0, .int .u64 (ke0 : Int), .int .u64 ro0, .slice ao3 n0 cap3] : Array Value)[0]? = some (.int .i64 t0) from rfl) ga2 ?_)
    | (with_reducible refine qaz (by kernel_rfl) _ _ rfl B _ rfl _ _ hB _ e03 ga3 ?_)
    | (with_reducible refine qaz (by kernel_rfl) _ _ rfl B _ rfl _ _ hB _ e00 ga2 ?_))
   have e33 : (#[.int .i64 t0, .int .u64 (ke0 : Int), .int .u64 ro0, .slice ao3 n0 cap3] : Array Value)[3]? = some (.slice ao3 n0 cap3) := rfl
   go_loopw [9, 75] (fun c j wr => ∃ (k cc : Nat), k ≤ n0 ∧ c = .int .i64 (cc : Int) ∧ j = .int .i64 k ∧ Hid (cc ≤ 1 ∧ (cc = 1 → p < k)) ∧ Below X4.heap.size X4 wr) (fun _ j _ => n0 - (intOf j).toNat)
   case atStart => exact ⟨0, 0, Nat.zero_le _, rfl, rfl, ⟨by omega, fun q => by cases q⟩, Below.refl _ _⟩
   case round =>
    obtain ⟨k, cc, hkl, rfl, rfl, hcc, hbr⟩ := hrel
    have hbs := hbr.size
    by_cases hkn : k < n0
    ·have hkn' : (k : Int) < n0 := by omega
     obtain ⟨b, off, C, rfl, hbb, hC, hrg⟩ := wQz (oV3.next hbr) hkn
     obtain ⟨b0, off0, C0, rfl, hbb0, hC0, hrg0⟩ := wQz (quz (quz hX hk) hbr) hkn
     have hz := hC.size
     have hz0 := hC0.size
     have hPk := hp k (by omega)
     obtain ⟨hid, hPk⟩ := hPk
     have hds : (oat X0 k).data.length < 4294967296 := (hsm _ (q4z (show k < X0.length by omega))).c6
     generalize oat X0 k = x at hC0 hPk hid hds
     generalize oat XS k = z at hC hPk hid
     have idC := hC.id
     rw [hid] at idC
     have tk1 : True := trivial
     go_upto_region 14 with (first
      | go_skip
      | (with_reducible refine qLz (by kernel_rfl) 50 _ rfl b _ rfl C hrg _ underlying50 (by kernel_rfl) (qhz hz) ?_)
      | ((with_reducible refine qcz rfl 50 rfl zC qsz ?_); have hx := tk1; clear hx tk1; intro P11 W11 hN11 hQ11 hk11)
      | ((with_reducible refine qbz rfl _ _ _ rfl P11 rfl C rfl zC hQ11 (qhz hz) (qmz.trans hz.symm) hC.one ?_); intro V11 hP11 q11; have k11 : Below wr.heap.size wr V11 := q11.below _ _ (by have := hN11.out.1; omega) hk11; clear hQ11 q11 hk11)
      | (with_reducible refine qaz (by kernel_rfl) _ _ rfl B _ rfl _ _ (hB.next (hbr.trans (k11.mono hbs))) _ e03 ga3 ?_)
      | (with_reducible refine qLz (by kernel_rfl) 50 _ rfl b0 _ rfl C0 (qyz hrg0 (k11.block b0 hbb0)) _ underlying50 (by kernel_rfl) (qhz hz0) ?_)
      | ((with_reducible refine qcz rfl 50 rfl zC qsz ?_); intro P12 W12 hN12 hQ12 hk12)
      | ((with_reducible refine qbz rfl _ _ _ rfl P12 rfl C0 rfl zC hQ12 (qhz hz0) (qmz.trans hz0.symm) hC0.one ?_); intro V12 hP12 q12; have hne : P11 ≠ P12 := (by have := hP11.lt; have := hN12.out.1; omega); have hge : Hid (wr.heap.size ≤ P11 ∧ wr.heap.size ≤ P12) := ⟨by have := hN11.out; omega, by have := hN12.out; have := k11.size; omega⟩; replace hP11 := (hP11.next hk12).other q12 hne; have k12 : Below wr.heap.size wr V12 := q12.below _ _ hge.out.2 (btz k11 hk12); clear hQ12 q12 hk12 k11))
     clear hN11 hN12 hrg hrg0 hbb hbb0
     rcases hPk with ⟨hA, hR⟩ | ⟨hA, rfl⟩ | ⟨hA, rfl, hNS, hW⟩
     ·have hi : (x.id == a1) = true := by simp [hA]
      go_upto_region 16 with (first
       | go_skip
       | (with_reducible refine qaz (by kernel_rfl) _ _ rfl P11 _ rfl _ _ hP11 _ idC ga1 ?_)
       | (with_reducible refine qez (by kernel_rfl) 50 _ rfl P11 rfl C hP11 _ underlying50 (by kernel_rfl) (qhz hz) ?_)
       | ((with_reducible refine qcz rfl 50 rfl zC qsz ?_); intro P13 W13 hN13 hQ13 hk13)
       | ((with_reducible refine qbz rfl _ _ _ rfl P13 rfl C rfl zC hQ13 (qhz hz) (qmz.trans hz.symm) hC.one ?_); intro V13 hP13 q13))
      have hg13 : Hid (wr.heap.size ≤ P13 ∧ P12 ≠ P13) := ⟨by have := hN13.out; have := k12.size; omega, by have := hN13.out; have := hP12.lt; omega⟩
      replace hP12 := (hP12.next hk13).other q13 hg13.out.2
      have k13 : Below wr.heap.size wr V13 := q13.below _ _ hg13.out.1 (btz k12 hk13)
      clear hN13 hQ13 q13 hk13 hP11
      obtain ⟨aL, nL, cL, y36, lL⟩ := hC0.th.alerts
      clear lL
      have y24 : C0[24]? = some (.int .u64 x.th.pc) := hC0.th.pc
      have y28 : C0[28]? = some (.int .u64 x.th.handler) := hC0.th.handler
      have y29 : C0[29]? = some (.int .u64 x.th.vector) := hC0.th.vector
      have y30 : C0[30]? = some (.int .i64 x.th.state) := hC0.th.state
      replace y36 : C0[36]? = some (.slice aL nL cL) := y36
      obtain ⟨R, hRR⟩ : ∃ R, Hid (C0.extract 8 (8 + 16) = R) := ⟨_, rfl⟩
      have hRz : R.size = 16 := by rw [← hRR.out]; simp [hz0]
      have hR1 : R.all (·.oneCell') = true := by rw [← hRR.out]; exact xhz hC0.one
      have hp1 := part_at hz hz0
      rw [hRR.out] at hp1
      have hQ0 := hP13.next (Below.refl V13.heap.size V13).drew
      have ss : (prog.info? 37).map (·.size) = some R.size := by rw [hRz]; exact vWz
      refine PgM.region_out (S := fun W => Blk W P12 C0 50 ∧ Below wr.heap.size wr W) hmx (⟨hP12.next (Below.refl _ _).drew, k13.trans ((Below.refl _ _).drew.mono k13.size)⟩) (fun hS6 => ?_)
      generalize V13.drew = v6 at hS6 hQ0 ⊢
      refine wHz (by kernel_rfl) (fun _ _ _ _ _ h => h) hS6 [(0, none), (1, none), (2, some (.agg R)), (3, none), (4, none), (5, some (.int .u64 x.th.pc)), (6, none), (7, none), (8, some (.int .u64 x.th.handler)), (9, none), (10, none), (11, some (.int .u64 x.th.vector)), (12, none), (13, none), (14, some (.int .i64 x.th.state)), (15, none), (16, none), (17, some (.slice aL nL cL)), (18, none), (19, none)] (obs := [.load 37 P12 8 (.agg R), .load 22 P12 24 (.int .u64 x.th.pc), .load 22 P12 28 (.int .u64 x.th.handler), .load 22 P12 29 (.int .u64 x.th.vector), .load 3 P12 30 (.int .i64 x.th.state), .load 35 P12 36 (.slice aL nL cL)]) (n := 16) (by kernel_rfl) (by kernel_rfl) ⟨q6z 16 (fun W hS => hS.1) hRR.out (by rw [hz0]; decide) underlying37 (by kernel_rfl) vWz, qgz (fun W hS => hS.1) y24 ga1, qgz (fun W hS => hS.1) y28 ga1, qgz (fun W hS => hS.1) y29 ga1, qgz (fun W hS => hS.1) y30 ga2, qgz (fun W hS => hS.1) y36 ga4, trivial⟩ ?_
      obtain ⟨Z1, hr1, hQ1, o1⟩ := wTz (ty := 37) (o := 8) hQ0 ss (by rw [hz, hRz]; decide) hR1
      refine qjz (i := 20) (n := 15) rfl (by kernel_rfl) ?_
      refine qAz (ty := 37) (B := P13) (off := 8) (v := .agg R) (d := none) (by kernel_rfl) hr1 ?_
      have hS61 : Blk Z1 P12 C0 50 ∧ Below wr.heap.size wr Z1 := ⟨hS6.1.other o1 hg13.out.2, o1.below _ _ hg13.out.1 hS6.2⟩
      refine ⟨hS61, ?_⟩
      refine wHz (by kernel_rfl) (fun _ _ _ _ _ h => h) hS61 [(21, none), (22, none)] (obs := []) (n := 13) (by kernel_rfl) (by kernel_rfl) trivial ?_
      obtain ⟨Z2, hr2, hQ2, o2⟩ := qHz (ty := 22) (j := 24) (v := .int .u64 x.th.pc) hQ1 rfl (by kernel_rfl) (by simp [hz, hRz]) rfl
      refine qjz (i := 23) (n := 12) rfl (by kernel_rfl) ?_
      refine qAz (ty := 22) (B := P13) (off := 24) (v := .int .u64 x.th.pc) (d := none) (by kernel_rfl) hr2 ?_
      have hS62 : Blk Z2 P12 C0 50 ∧ Below wr.heap.size wr Z2 := ⟨hS61.1.other o2 hg13.out.2, o2.below _ _ hg13.out.1 hS61.2⟩
      refine ⟨hS62, ?_⟩
      refine wHz (by kernel_rfl) (fun _ _ _ _ _ h => h) hS62 [(24, none), (25, none)] (obs := []) (n := 10) (by kernel_rfl) (by kernel_rfl) trivial ?_
      obtain ⟨Z3, hr3, hQ3, o3⟩ := qHz (ty := 22) (j := 28) (v := .int .u64 x.th.handler) hQ2 rfl (by kernel_rfl) (by simp [hz, hRz]) rfl
      refine qjz (i := 26) (n := 9) rfl (by kernel_rfl) ?_
      refine qAz (ty := 22) (B := P13) (off := 28) (v := .int .u64 x.th.handler) (d := none) (by kernel_rfl) hr3 ?_
      have hS63 : Blk Z3 P12 C0 50 ∧ Below wr.heap.size wr Z3 := ⟨hS62.1.other o3 hg13.out.2, o3.below _ _ hg13.out.1 hS62.2⟩
      refine ⟨hS63, ?_⟩
      refine wHz (by kernel_rfl) (fun _ _ _ _ _ h => h) hS63 [(27, none), (28, none)] (obs := []) (n := 7) (by kernel_rfl) (by kernel_rfl) trivial ?_
      obtain ⟨Z4, hr4, hQ4, o4⟩ := qHz (ty := 22) (j := 29) (v := .int .u64 x.th.vector) hQ3 rfl (by kernel_rfl) (by simp [hz, hRz]) rfl
      refine qjz (i := 29) (n := 6) rfl (by kernel_rfl) ?_
      refine qAz (ty := 22) (B := P13) (off := 29) (v := .int .u64 x.th.vector) (d := none) (by kernel_rfl) hr4 ?_
      have hS64 : Blk Z4 P12 C0 50 ∧ Below wr.heap.size wr Z4 := ⟨hS63.1.other o4 hg13.out.2, o4.below _ _ hg13.out.1 hS63.2⟩
      refine ⟨hS64, ?_⟩
      refine wHz (by kernel_rfl) (fun _ _ _ _ _ h => h) hS64 [(30, none), (31, none)] (obs := []) (n := 4) (by kernel_rfl) (by kernel_rfl) trivial ?_
      obtain ⟨Z5, hr5, hQ5, o5⟩ := qHz (ty := 3) (j := 30) (v := .int .i64 x.th.state) hQ4 rfl (by kernel_rfl) (by simp [hz, hRz]) rfl
      refine qjz (i := 32) (n := 3) rfl (by kernel_rfl) ?_
      refine qAz (ty := 3) (B := P13) (off := 30) (v := .int .i64 x.th.state) (d := none) (by kernel_rfl) hr5 ?_
      have hS65 : Blk Z5 P12 C0 50 ∧ Below wr.heap.size wr Z5 := ⟨hS64.1.other o5 hg13.out.2, o5.below _ _ hg13.out.1 hS64.2⟩
      refine ⟨hS65, ?_⟩
      refine qoz (by kernel_rfl) (fun _ _ _ _ _ h => h) hS65 [(33, none), (34, none)] (l' := #[tt, tt, tt, tt, tt, tt, tt, tt, tt, tt, tt, tt, tt, tt, tt, tt, tt, tt, tt, tt, tt, tt, tt, tt, tt, tt, tt, tt, tt, tt, tt, tt, tt, tt, tt, ff]) (a' := { tmps := #[.agg D, .int .u64 a1, .pointer (some ⟨B, 0, none⟩), undef, u4, .pointer (some ⟨P3, 0, none⟩), .int .i64 NS, .pointer (some ⟨P4, 0, none⟩), .bool true, .int .i64 (cc : Int), .int .i64 (k : Int), .pointer (some ⟨P11, 0, none⟩), .pointer (some ⟨P12, 0, none⟩), .pointer (some ⟨P13, 0, none⟩), u14, .agg D, .bool true, .bool false, undef, .tuple #[.agg #[.int .i64 t0, .int .u64 (ke0 : Int), .int .u64 ro0, .slice (some ⟨b, off, none⟩) n0 cap3], .int .i64 NS], .agg D, .int .u64 a1, .tuple #[.agg #[.int .i64 t0, .int .u64 (ke0 : Int), .int .u64 ro0, .slice (some ⟨b, off, none⟩) n0 cap3], .int .i64 NS], .agg #[.int .i64 t0, .int .u64 (ke0 : Int), .int .u64 ro0, .slice (some ⟨b, off, none⟩) n0 cap3], .int .i64 NS, .tuple #[.agg CF4, .bool true], .agg D, .int .u64 a1, .tuple #[.agg CF4, .bool true], .agg CF4, .bool true, .bool true, .bool false, .bool false, .pointer (some ⟨P4, 1, none⟩), .int .i64 4, .bool false, .bool false, .bool false, .pointer (some ⟨P4, 8, none⟩), .pointer (some ⟨P4, 30, none⟩), .int .i64 0, .bool false, .bool false, undef, undef, undef, undef, undef, undef, undef, undef, undef, undef, .pointer (some ⟨P3, 3, none⟩), .slice (some ⟨b, off, none⟩) n0 cap3, .int .i64 (n0 : Int), .pointer (some ⟨B, 3, none⟩), .slice (some ⟨b0, off0, none⟩) n0 cap0, .int .i64 (n0 : Int), .bool false, .bool false, .pointer (some ⟨P3, 0, none⟩), .int .i64 t0, .pointer (some ⟨B, 0, none⟩), .int .i64 t0, .bool false, .bool false, .bool false, .int .i64 NS, .bool (decide (NS < -1)), .bool (decide (NS < -1)), .pointer (some ⟨P3, 3, none⟩), .slice (some ⟨b, off, none⟩) n0 cap3, .int .i64 (n0 : Int), .int .i64 (k : Int), .bool true, .int .i64 (k : Int), .pointer (some ⟨b, off + k * 51, none⟩), .agg C, .pointer (some ⟨B, 3, none⟩), .slice (some ⟨b0, off0, none⟩) n0 cap0, .int .i64 (k : Int), .pointer (some ⟨b0, off0 + k * 51, none⟩), .agg C0, .pointer (some ⟨P11, 0, none⟩), .int .u64 a1, .int .u64 a1, .bool true, .agg C, .pointer (some ⟨P12, 8, none⟩), .pointer (some ⟨P12, 8, none⟩), .agg R, .pointer (some ⟨P12, 8, none⟩), .pointer (some ⟨P12, 24, none⟩), .int .u64 x.th.pc, .pointer (some ⟨P12, 8, none⟩), .pointer (some ⟨P12, 28, none⟩), .int .u64 x.th.handler, .pointer (some ⟨P12, 8, none⟩), .pointer (some ⟨P12, 29, none⟩), .int .u64 x.th.vector, .pointer (some ⟨P12, 8, none⟩), .pointer (some ⟨P12, 30, none⟩), .int .i64 x.th.state, .pointer (some ⟨P12, 8, none⟩), .pointer (some ⟨P12, 36, none⟩), .slice aL nL cL, .pointer (some ⟨P13, 8, none⟩), .pointer (some ⟨P13, 8, none⟩), .pointer (some ⟨P13, 8, none⟩), .pointer (some ⟨P13, 24, none⟩), .pointer (some ⟨P13, 8, none⟩), .pointer (some ⟨P13, 28, none⟩), .pointer (some ⟨P13, 8, none⟩), .pointer (some ⟨P13, 29, none⟩), .pointer (some ⟨P13, 8, none⟩), .pointer (some ⟨P13, 30, none⟩), .pointer (some ⟨P13, 8, none⟩), .pointer (some ⟨P13, 36, none⟩), u120, u121, u122, u123, u124, u125, u126, u127, u128, u129, u130, u131, u132, u133, u134, u135, u136, u137, u138, u139, u140, u141, u142, u143, u144, u145, u146, u147, u148, u149, u150, u151, u152, undef, undef, undef, undef, undef], defers := [] }) (obs := []) (n := 1) (by kernel_rfl) (by kernel_rfl) trivial ?_
      obtain ⟨Z6, hr6, hQ6, o6⟩ := qHz (ty := 35) (j := 36) (v := .slice aL nL cL) hQ5 rfl (by kernel_rfl) (by simp [hz, hRz]) rfl
      refine qjz (i := 35) (n := 0) rfl (by kernel_rfl) ?_
      refine qAz (ty := 35) (B := P13) (off := 36) (v := .slice aL nL cL) (d := none) (by kernel_rfl) hr6 ?_
      have hS66 : Blk Z6 P12 C0 50 ∧ Below wr.heap.size wr Z6 := ⟨hS65.1.other o6 hg13.out.2, o6.below _ _ hg13.out.1 hS65.2⟩
      refine ⟨hS66, ?_⟩
      refine wpAnyH_done (by kernel_rfl) ?_ _
      obtain ⟨hz6, ha6⟩ := rs_at hp1.1 hp1.2 y24 y28 y29 y30 y36
      have hO6 := rs_ob (hC.next hS66.2) (hC0.next hS66.2) hz6 ha6
      rw [hR] at hO6
      obtain ⟨C6, hC6⟩ : ∃ C6 : Array Value, C6 = ((((((C.extract 0 8 ++ R ++ C.extract (8 + R.size) C.size).setIfInBounds 24 (.int .u64 x.th.pc)).setIfInBounds 28 (.int .u64 x.th.handler)).setIfInBounds 29 (.int .u64 x.th.vector)).setIfInBounds 30 (.int .i64 x.th.state)).setIfInBounds 36 (.slice aL nL cL)) := ⟨_, rfl⟩
      rw [← hC6] at hO6 hQ6 hz6
      clear hC6 ha6
      go_wp2_with (first
       | go_skip
       | (with_reducible refine qez (by kernel_rfl) 50 _ rfl P13 rfl C6 hQ6 _ underlying50 (by kernel_rfl) (qhz hz6) ?_)
       | (with_reducible refine qez (by kernel_rfl) 50 _ rfl P12 rfl C0 hS66.1 _ underlying50 (by kernel_rfl) (qhz hz0) ?_)
       | (go_at_call 13; (with_reducible refine ((qJz hO6 (hC0.next hS66.2)).yes rfl).mono ?_); rintro e w6 ⟨rfl, hb6⟩))
      go_roundw
      case rel => exact ⟨k + 1, cc, by omega, rfl, by go_num, ⟨hcc.out.1, fun q => Nat.lt_succ_of_lt (hcc.out.2 q)⟩, hbr.trans ((hS66.2.trans (hb6.mono hS66.2.size)).mono hbs)⟩
      case measure => simp [intOf]; omega
     ·have hi : (z.id == a1) = false := by simp [hA]
      go_wp2_with (first
       | go_skip
       | (with_reducible refine qaz (by kernel_rfl) _ _ rfl P11 _ rfl _ _ hP11 _ idC ga1 ?_)
       | (with_reducible refine qez (by kernel_rfl) 50 _ rfl P11 rfl C hP11 _ underlying50 (by kernel_rfl) (qhz hz) ?_)
       | (with_reducible refine qez (by kernel_rfl) 50 _ rfl P12 rfl C0 hP12 _ underlying50 (by kernel_rfl) (qhz hz0) ?_)
       | (go_at_call 13; (with_reducible refine ((qJz (hC.next k12) (hC0.next k12)).yes rfl).mono ?_); rintro e w6 ⟨rfl, hb6⟩))
      go_roundw
      case rel => exact ⟨k + 1, cc, by omega, rfl, by go_num, ⟨hcc.out.1, fun q => Nat.lt_succ_of_lt (hcc.out.2 q)⟩, hbr.trans ((btz k12 hb6).mono hbs)⟩
      case measure => simp [intOf]; omega
     ·have hi : (x.id == a1) = false := by simp [hA]
      have hNb : (NS != -1) = false := by rw [hNS]; rfl
      clear hNS
      have hc0 : cc = 0 := by
       have h1 := hcc.out.1
       have h2 := hcc.out.2
       rcases Nat.eq_zero_or_pos cc with q | q
       ·exact q
       ·exact absurd (h2 (by omega)) (Nat.lt_irrefl k)
      replace hc0 : Hid (cc = 0) := hc0
      have hc1 : cc ≤ 1 := hcc.out.1
      obtain ⟨d1, m1, q1, f1, g1⟩ := hC.data
      obtain ⟨d2, m2, q2, f2, g2⟩ := hC0.data
      have hm12 : m1 = m2 := by have a := g1.1; have b := g2.1; have c := hW.len; omega
      subst hm12
      have h32 : m1 < 4294967296 := by have b := g2.1; omega
      have hv : Hid ((if m1 = m1 then (unlN z.data x.data m1 : Int) else -1) = 1) := by show (if _ then _ else _) = _; rw [if_pos rfl, ← g2.1, hW.one]; rfl
      have kz : C[1]? = some (.int .i64 1) := hC.kind.trans (by rw [hW.kind])
      have hun := fun (W : World) (hk : Below wr.heap.size wr W) => unlike_v ((g1.laterK fun b hb => hk.block b hb).wide fun b hb => Nat.lt_of_lt_of_le hb hk.size) ((g2.laterK fun b hb => hk.block b hb).wide fun b hb => Nat.lt_of_lt_of_le hb hk.size) h32
      have tkN : True := trivial
      go_wp2_with (first
       | go_skip
       | (with_reducible refine qaz (by kernel_rfl) _ _ rfl P11 _ rfl _ _ hP11 _ idC ga1 ?_)
       | (with_reducible refine qez (by kernel_rfl) 50 _ rfl P11 rfl C hP11 _ underlying50 (by kernel_rfl) (qhz hz) ?_)
       | (with_reducible refine qez (by kernel_rfl) 50 _ rfl P12 rfl C0 hP12 _ underlying50 (by kernel_rfl) (qhz hz0) ?_)
       | (go_at_call 13; (have hx := tkN; clear hx); (with_reducible refine ((qJz (hC.next k12) (hC0.next k12)).no hW.ne).mono ?_); rintro e w6 ⟨rfl, hb6⟩; replace hP11 := hP11.next hb6; replace hP12 := hP12.next hb6; replace k12 := btz k12 hb6; clear tkN hb6)
       | (with_reducible refine qaz (by kernel_rfl) _ _ rfl P11 _ rfl _ _ hP11 _ f1 ga4 ?_)
       | (with_reducible refine qaz (by kernel_rfl) _ _ rfl P12 _ rfl _ _ hP12 _ f2 ga4 ?_)
       | (with_reducible refine qaz (by kernel_rfl) _ _ rfl P11 _ rfl _ _ hP11 _ kz ga2 ?_)
       | (go_at_call 14; (with_reducible refine (hun _ k12).mono ?_); rintro e w7 ⟨rfl, hb7⟩; rw [hv.out]; replace hP11 := hP11.next hb7; replace hP12 := hP12.next hb7; replace k12 := btz k12 hb7; clear hb7)
       | ((with_reducible refine qkz rfl 35 _ _ rfl P11 6 rfl (.slice d2 m1 q2) rfl rfl C 50 hP11 (by kernel_rfl) (by rw [hz]; decide) rfl ?_); intro V8 hP8 q8; replace hP12 := hP12.other q8 hne.symm; replace k12 := q8.below _ _ hge.out.1 k12; have hO8 := (hC.next k12).set6 (v := .slice d2 m1 q2) ⟨_, _, _, rfl, (g2.laterK fun b hb => k12.block b hb).wide fun b hb => Nat.lt_of_lt_of_le hb k12.size⟩ rfl; rw [hW.rest] at hO8; have hz8 := hO8.size; clear hP11)
       | (with_reducible refine qez (by kernel_rfl) 50 _ rfl P11 rfl _ hP8 _ underlying50 (by kernel_rfl) (qhz hz8) ?_)
       | (go_at_call 13; (with_reducible refine ((qJz hO8 (hC0.next k12)).yes rfl).mono ?_); rintro e w9 ⟨rfl, hb9⟩))
      go_roundw
      case rel => exact ⟨k + 1, cc + 1, by omega, by go_num, by go_num, ⟨by have := hc0.out; omega, fun _ => Nat.lt_succ_self k⟩, hbr.trans ((btz k12 hb9).mono hbs)⟩
      case measure => simp [intOf]; omega
    ·obtain rfl : k = n0 := by omega
     have hcc1 : ((cc : Int) ≤ 1) := by have := hcc.out.1; omega
     go_wp2_with (go_at_call 7; (with_reducible refine (wNz _).mono ?_); rintro e w99 ⟨rfl, hb9⟩)
     go_ret
     exact ⟨rfl, hk.trans ((hbr.trans (hb9.mono hbs)).mono hk.size)⟩
 ·skip
  obtain ⟨D, hD⟩ : ∃ D : Array Value, D = #[.int .i64 t0, .int .u64 (ke0 : Int), .int .u64 ro0, .slice ao0 n0 cap0] := ⟨_, rfl⟩
  rw [← hD] at hzg hfw
  rw [← hD]
  clear hD
  go_enter func5, ntmps5
  go_wp2_with (first
   | go_skip
   | (with_reducible refine qdz rfl 25 _ rfl D rfl ?_; intro B V1 hNB hB hk)
   | (with_reducible refine qez (by kernel_rfl) 25 _ rfl B rfl D hB _ underlying25 (by kernel_rfl) hzg ?_)
   | (go_at_call 6; (with_reducible refine ((hfw _ hk).no hF).mono ?_); rintro e w44 ⟨rfl, hb4⟩; replace hB := hB.next hb4; replace hk := btz hk hb4; clear hb4)
   | (go_at_call 7; (with_reducible refine (wNz _).mono ?_); rintro e w99 ⟨rfl, hb9⟩; replace hk := btz hk hb9))
  go_ret
  exact ⟨rfl, hk⟩
theorem lifted (os : Os) (started : os.Started) (H : Type) (enc : TypeId × Value → H) :
  ReturnsInHanded {} Tryz.checked os 5 .any (Rows.cpuAloneSpec.pre6 enc prog Tryz.f5 Rows.cpuAloneRow.domain false) (Rows.cpuAloneSpec.post enc prog Tryz.f5 false true false false) := by
 refine returnsInHanded_of_change (C := Tryz.checked) own started (by kernel_rfl) func5
  (ChangeSpec.witness6 (enc := enc) (C := Tryz.checked) false ⟨#[], #[.agg #[.int .i64 0, .int .u64 0, .int .u64 0, .slice none 0 0], .int .u64 0], []⟩ 8 (by kernel_rfl) (by kernel_rfl) (by kernel_rfl) (by kernel_rfl)) ?_
 intro W base args ds gs before hval0 hW hcnd _
 have hval : ∀ (j : Nat) t v, Tryz.f5.params[j]? = some t → args[j]? = some v → Value.okWide prog W .any base t v := hval0
 have hW' := hW
 obtain ⟨p, q, hA0, hV, rfl, hfz, hnd⟩ := hW
 have hA : DataW.TrodAll enc prog W 0 (fun _ => true) true Tryz.f5.params.toList args.toList ds p := hA0
 rw [Tryz.params5] at hA hval
 obtain ⟨v0, vs0, d0, ds0, p0, q0, hargs, rfl, rfl, h0, r0⟩ := trodAll_cons hA
 obtain ⟨v1, vs1, d1, ds1, p1, q1, rfl, rfl, rfl, h1, r1⟩ := trodAll_cons r0
 obtain ⟨rfl, rfl, rfl⟩ := trodAll_nil r1
 obtain rfl : args = #[v0, v1] := by cases args; simp_all
 obtain ⟨rfl, rfl⟩ := trodVars_none hV
 obtain ⟨t0, ke0, ro0, ao0, n0, cap0, X0, rfl, l0⟩ := kQz (hval 0 25 v0 rfl rfl) h0
 have k0 := h0
 have lt0 : ∀ x ∈ p0, x.block < W.heap.size := by obtain ⟨m, hm⟩ := k0; exact DataW.trod_lt m _ _ _ hm
 obtain ⟨a1, rfl, rfl, rfl, w1⟩ := open_int underlying22 (hval 1 22 v1 rfl rfl) h1
 clear hA0 hval0
 refine (walk t0 ke0 ro0 ao0 n0 cap0 X0 a1 W l0 w1).mono fun e W' ⟨he, bel⟩ => ?_
 subst he
 exact ⟨_, rfl, _, _, _, [], _, [], hW', trodAll_mk1 (shut_bool underlying4 _), (trodAll_cons_mk (Below.trod laidOut (by kernel_rfl) (of_decide_eq_true (by kernel_rfl)) k0 bel lt0) (trodAll_cons_mk (shut_int underlying22 w1) trodAll_mk0)), rfl, bel.frame _, fun h => by cases h⟩
theorem over : Rows.cpuAloneRow.holds Tryz.pinned (OpenSpec.ofChange Rows.cpuAloneSpec) :=
 OpenClaim.holds_of_wide 5 Tryz.f5 rfl rfl rfl rfl rfl rfl rfl ⟨rfl, rfl, rfl, rfl, rfl⟩ rfl rfl rfl rfl rfl (by kernel_rfl) func5 (by kernel_rfl)
  (of_decide_eq_true (by kernel_rfl)) (by unfold Func.isWrapper; first | (rw [if_pos (by decide +kernel)]; kernel_rfl) | (rw [if_neg (by decide +kernel)]; exact ⟨rfl, rfl⟩))
  (fun os started H enc _ => lifted os started H enc)
end cpuAlone
theorem cpuAlone_holds : Rows.CpuAloneSaid :=
 cpuAlone.over
#print axioms cpuAlone_holds
end Go.Proofs.YtdeddhojjolihaaGreat
