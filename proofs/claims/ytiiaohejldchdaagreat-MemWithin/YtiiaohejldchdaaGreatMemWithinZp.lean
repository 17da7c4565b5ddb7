/-
 PROVED HERE: nothing is loaded that the thread may not see, nothing stored that it may not change, or that the map does not let it. No condition besides the statement's own.
-/
import Derived.Test.YtiiaohejldchdaaGreatRows
import Derived.WalkKit
import Derived.ProofKit
import Derived.OpenShut
import Derived.Below
import Derived.ShutString
import Derived.Deep.QuietTactic
import Derived.Test.YtiiaohejldchdaaGreatZ19
import Derived.Test.YtiiaohejldchdaaGreatZ20
import Derived.Test.YtiiaohejldchdaaGreatZ30
import Derived.Test.YtiiaohejldchdaaGreatZ52
namespace Go.Proofs.YtiiaohejldchdaaGreat
set_option maxRecDepth 100000
set_option maxHeartbeats 8000000
namespace memWithin
open Go.ChangeShapes Go.WideShapes Go.ChangeAt Go.RowKit
open Go.ChangeMaps (open_string shut_string)
set_option linter.unusedVariables false

theorem own : ownKnob Tryz.prog.godebug = none := by kernel_rfl

theorem walk (t0 : Int) (ke0 : Nat) (ro0 : Int) (ao0 : Option Addr) (n0 cap0 : Nat) (X0 : List Ob) (C1 : Array Value) (x1 : Ob) (a2 : Int) (a3 : Int) (w : World) (l0 : Obs w ao0 n0 cap0 X0 ∧ ∀ x ∈ X0, WdO x) (l1 : ObD (LtN w) w C1 x1) (w2 : (Lit.int .u64 a2).wf = true) (w3 : (Lit.int .u64 a3).wf = true) :
  Calls Tryz.prog 5 #[.agg #[.int .i64 t0, .int .u64 (ke0 : Int), .int .u64 ro0, .slice ao0 n0 cap0], .agg C1, .int .u64 a2, .int .u64 a3] w fun e w' => e = .returned (.bool true) ∧ Below w.heap.size w w' := by
 obtain ⟨hX, hwd⟩ := l0
 have hfw := fun (W : World) (hk : Below w.heap.size w W) => few18_any (t := t0) (ro := ro0) (key := ke0) (obs_next hX hk) hwd
 have hz1 := l1.size
 have hth1 := fun (W : World) (hk : Below w.heap.size w W) => thread18_any (l1.next hk)
 have hzg : (Tryz.prog.info? 25).map (·.size) = some (#[.int .i64 t0, .int .u64 (ke0 : Int), .int .u64 ro0, .slice ao0 n0 cap0] : Array Value).size := by kernel_rfl
 by_cases hF : few18P t0 ke0 ro0 X0
 ·by_cases hR1 : thr18P x1
  ·skip
   have htr := tre_of hF.2
   have hsm : Smalls X0 := fun x hx => sound_small0 (htr.snd x hx)
   have hn : n0 < 1024 := by have := hX.1; have := hF.1.1; omega
   have hrw : Rw w ao0 n0 cap0 X0 := ⟨hX, htr.snd, hsm, fun x hx => sound_lab (htr.snd x hx)⟩
   have hln : ∀ d ∈ X0, ∀ j ∈ d.links, (fnd X0 j).isSome = true := fun d hd j hj => (htr.lnk d hd j hj).1
   have hid : ∀ y ∈ X0, y.id ≠ 0 := fun y hy => by have := id_pos (htr.snd y hy); omega
   have hll1 : x1.label.length < 1048576 := by have := hR1.2.1; omega
   have M1 := fun (W : World) (hk : Below w.heap.size w W) => (⟨obs_next hX hk, htr.srt, by omega, hsm, htr.snd, l1.next hk, hll1⟩ : Mw W ao0 n0 cap0 X0 C1 x1)
   have R1 : Rm w ao0 n0 cap0 X0 C1 x1 := ⟨hrw, l1, sound_lab hR1.2.2, hln⟩
   have ha := u64_in w2
   have c1 := fun (W : World) (hk : Below w.heap.size w W) => walk_v (t := t0) (ke := (ke0 : Int)) (ro := ro0) (M1 W hk) ha
   have c3 := fun (W : World) (hk : Below w.heap.size w W) => load_v (t := t0) (ke := (ke0 : Int)) (ro := ro0) (M1 W hk) ha
   have c5 := fun (W : World) (hk : Below w.heap.size w W) => store_v (t := t0) (ke := (ke0 : Int)) (ro := ro0) (v := a3) (M1 W hk) ha hn hid
   unfold WkO at c1
   by_cases hE : wkE X0 x1 a2 = 0
   ·have hwz := wk_zero hE
    have HK : Hid ((wkO X0 x1 a2).kind = 1) := hwz.2.2.2.2.1
    have fy : Fit (wkO X0 x1 a2).label := (hrw.lab _ hwz.2.2.1).1
    have ft : Fit x1.label := (sound_lab hR1.2.2).1
    have HO : Hid (leqB (wkO X0 x1 a2).label (raiseL x1.label) = true) := by
     have := hwz.2.2.2.2.2.1
     unfold seeB shoC at this
     rw [if_neg (by rw [hwz.2.2.2.2.1]; decide)] at this
     exact this
    have ga0 := Tryz.isAgg27
    have ga2 := Tryz.isAgg3
    obtain ⟨at2, nt2, ct2, et2, lt2⟩ := l1.label
    have hnt : nt2 < 1048576 := by have := lt2.1; omega
    have hres : resO 0 (wkO X0 x1 a2) = wkO X0 x1 a2 := rfl
    simp only [hE, if_pos, hres, decide_true] at c1 c3
    clear hwz hres
    cases hB : stB X0 x1 a2 with
    | false =>
     rw [hB] at c5
     clear hE hB
     generalize wkO X0 x1 a2 = y at c1 HK HO fy
     generalize (mpM X0 x1 a2).wr = wb at c1
     generalize mpA X0 x1 a2 = A at c1
     generalize ldV X0 x1 a2 = lv at c3
     generalize stX X0 x1 a2 a3 = XS at c5
     obtain ⟨D, hD⟩ : ∃ D : Array Value, D = #[.int .i64 t0, .int .u64 (ke0 : Int), .int .u64 ro0, .slice ao0 n0 cap0] := ⟨_, rfl⟩
     rw [← hD] at hzg hfw c1 c3 c5
     rw [← hD]
     clear hD
     go_enter Tryz.func5, Tryz.ntmps5
     go_wp2_with (first
      | go_skip
      | (with_reducible refine wpList_box rfl 25 _ rfl D rfl ?_; intro B V1 hNB hB hk)
      | (with_reducible refine wpList_box rfl 43 _ rfl C1 rfl ?_; intro T1 V2 hNT1 hT1 hk2; replace hB := hB.next hk2; replace hk := hk.trans (hk2.mono hk.size); clear hk2)
      | (with_reducible refine wpList_loadb (by first | kernel_rfl | with_unfolding_all rfl) 25 _ rfl B rfl D hB _ Tryz.underlying25 (by kernel_rfl) hzg ?_)
      | (with_reducible refine wpList_loadb (by first | kernel_rfl | with_unfolding_all rfl) 43 _ rfl T1 rfl C1 hT1 _ Tryz.underlying43 (by kernel_rfl) (size40C hz1) ?_)
      | (go_at_call 7; (with_reducible refine ((hfw _ hk).yes hF).mono ?_); rintro e w44 ⟨rfl, hb4⟩; replace hB := hB.next hb4; replace hT1 := hT1.next hb4; replace hk := hk.trans (hb4.mono hk.size); clear hb4)
      | (go_at_call 8; (with_reducible refine ((hth1 _ hk).yes hR1).mono ?_); rintro e w55 ⟨rfl, hb5⟩; clear hth1; replace hB := hB.next hb5; replace hT1 := hT1.next hb5; replace hk := hk.trans (hb5.mono hk.size); clear hb5)
      | (go_at_call 10; (with_reducible refine (c1 _ hk).mono ?_); rintro e w77 ⟨CF1, rfl, oF1, hb1⟩)
      | ((with_reducible refine wpList_alloc rfl 43 rfl zC zero40 ?_); have hx := oF1; clear hx; intro P1 U1 hN21 hPa1 hka1)
      | ((with_reducible refine wpList_store_blk rfl _ _ _ rfl P1 rfl CF1 rfl zC hPa1 (size40C oF1.size) (zC_size.trans oF1.size.symm) oF1.one ?_); intro X1 hP1 q1; obtain ⟨hbz, oG1⟩ := laidF hb1 oF1 hN21 hka1 q1; have zG1 := oG1.size; clear oF1 hb1 hN21 hka1 q1 hPa1; replace hB := hB.next hbz; replace hT1 := hT1.next hbz; replace hk := hk.trans (hbz.mono hk.size); clear hbz; obtain ⟨ay2, ny2, cy2, ey2, ly2⟩ := oG1.lt.label; clear ly2; have ky := oG1.lt.kind; rw [HK.out] at ky; skip)
      | (with_reducible refine wpList_loadb (by first | kernel_rfl | with_unfolding_all rfl) 43 _ rfl P1 rfl CF1 hP1 _ Tryz.underlying43 (by kernel_rfl) (size40C zG1) ?_)
      | (go_at_call 12; (with_reducible refine (c3 _ hk).mono ?_); rintro e w3 ⟨rfl, hb3⟩; replace hB := hB.next hb3; replace hT1 := hT1.next hb3; replace hP1 := hP1.next hb3; replace oG1 := oG1.next hb3; replace hk := hk.trans (hb3.mono hk.size); clear hb3; skip)
      | (go_at_call 14; (with_reducible refine (c5 _ hk).mono ?_); rintro e w66 ⟨ao3, n3, cap3, rfl, oW3, hbW3⟩)
      | ((with_reducible refine wpList_alloc rfl 25 rfl zW zero43 ?_); have hx := oW3; clear hx; intro P3 U3 hN23 hPa3 hka3)
      | ((with_reducible refine wpList_store_blk rfl _ _ _ rfl P3 rfl #[.int .i64 t0, .int .u64 (ke0 : Int), .int .u64 ro0, .slice ao3 n3 cap3] rfl zW hPa3 (infoW4 _ _ _ _ _ _) (zW4 _ _ _ _ _ _) (oneW4 _ _ _ _ _ _) ?_); intro X3 hP3 q3; obtain ⟨hbz, oV3⟩ := laidW hbW3 oW3 hN23 hka3 q3; clear oW3 hbW3 hN23 hka3 q3 hPa3; replace hB := hB.next hbz; replace hT1 := hT1.next hbz; replace hP1 := hP1.next hbz; replace oG1 := oG1.next hbz; replace hk := hk.trans (hbz.mono hk.size); clear hbz; skip)
      | (with_reducible refine wpList_loadb (by first | kernel_rfl | with_unfolding_all rfl) 25 _ rfl P3 rfl #[.int .i64 t0, .int .u64 (ke0 : Int), .int .u64 ro0, .slice ao3 n3 cap3] hP3 _ Tryz.underlying25 (by kernel_rfl) (infoW4 _ _ _ _ _ _) ?_)
      | (with_reducible refine wpList_load1 (by first | kernel_rfl | with_unfolding_all rfl) _ _ rfl T1 _ rfl _ _ hT1 _ et2 ga0 ?_)
      | (with_reducible refine wpList_load1 (by first | kernel_rfl | with_unfolding_all rfl) _ _ rfl P1 _ rfl _ _ hP1 _ ey2 ga0 ?_)
      | (with_reducible refine wpList_load1 (by first | kernel_rfl | with_unfolding_all rfl) _ _ rfl P1 _ rfl _ _ hP1 _ ky ga2 ?_)
      | (go_at_call 19; (with_reducible refine (robs_v (lab_at (l1.next hk) et2) (lab_at oG1.lt ey2) hnt ft fy).mono ?_); rintro e w88 ⟨rfl, hb8⟩; rw [HO.out]; replace hB := hB.next hb8; replace hT1 := hT1.next hb8; replace hP1 := hP1.next hb8; replace hP3 := hP3.next hb8; replace oG1 := oG1.next hb8; replace oV3 := oV3.next hb8; replace hk := hk.trans (hb8.mono hk.size); clear hb8)
      | (go_at_call 9; (with_reducible refine (awake18_any _).mono ?_); rintro e w99 ⟨rfl, hb9⟩; replace hk := hk.trans (hb9.mono hk.size)))
     go_ret
     exact ⟨rfl, hk⟩
    | true =>
     rw [hB] at c5
     have hst := st_zero hB
     have HL : Hid (leqB x1.label (wkO X0 x1 a2).label = true) := hst.2.2
     rw [hst.2.1] at c1
     clear hE hB hst
     generalize wkO X0 x1 a2 = y at c1 HK HO HL fy
     generalize mpA X0 x1 a2 = A at c1
     generalize ldV X0 x1 a2 = lv at c3
     generalize stX X0 x1 a2 a3 = XS at c5
     obtain ⟨D, hD⟩ : ∃ D : Array Value, D = #[.int .i64 t0, .int .u64 (ke0 : Int), .int .u64 ro0, .slice ao0 n0 cap0] := ⟨_, rfl⟩
     rw [← hD] at hzg hfw c1 c3 c5
     rw [← hD]
     clear hD
     go_enter Tryz.func5, Tryz.ntmps5
     go_wp2_with (first
      | go_skip
      | (with_reducible refine wpList_box rfl 25 _ rfl D rfl ?_; intro B V1 hNB hB hk)
      | (with_reducible refine wpList_box rfl 43 _ rfl C1 rfl ?_; intro T1 V2 hNT1 hT1 hk2; replace hB := hB.next hk2; replace hk := hk.trans (hk2.mono hk.size); clear hk2)
      | (with_reducible refine wpList_loadb (by first | kernel_rfl | with_unfolding_all rfl) 25 _ rfl B rfl D hB _ Tryz.underlying25 (by kernel_rfl) hzg ?_)
      | (with_reducible refine wpList_loadb (by first | kernel_rfl | with_unfolding_all rfl) 43 _ rfl T1 rfl C1 hT1 _ Tryz.underlying43 (by kernel_rfl) (size40C hz1) ?_)
      | (go_at_call 7; (with_reducible refine ((hfw _ hk).yes hF).mono ?_); rintro e w44 ⟨rfl, hb4⟩; replace hB := hB.next hb4; replace hT1 := hT1.next hb4; replace hk := hk.trans (hb4.mono hk.size); clear hb4)
      | (go_at_call 8; (with_reducible refine ((hth1 _ hk).yes hR1).mono ?_); rintro e w55 ⟨rfl, hb5⟩; clear hth1; replace hB := hB.next hb5; replace hT1 := hT1.next hb5; replace hk := hk.trans (hb5.mono hk.size); clear hb5)
      | (go_at_call 10; (with_reducible refine (c1 _ hk).mono ?_); rintro e w77 ⟨CF1, rfl, oF1, hb1⟩)
      | ((with_reducible refine wpList_alloc rfl 43 rfl zC zero40 ?_); have hx := oF1; clear hx; intro P1 U1 hN21 hPa1 hka1)
      | ((with_reducible refine wpList_store_blk rfl _ _ _ rfl P1 rfl CF1 rfl zC hPa1 (size40C oF1.size) (zC_size.trans oF1.size.symm) oF1.one ?_); intro X1 hP1 q1; obtain ⟨hbz, oG1⟩ := laidF hb1 oF1 hN21 hka1 q1; have zG1 := oG1.size; clear oF1 hb1 hN21 hka1 q1 hPa1; replace hB := hB.next hbz; replace hT1 := hT1.next hbz; replace hk := hk.trans (hbz.mono hk.size); clear hbz; obtain ⟨ay2, ny2, cy2, ey2, ly2⟩ := oG1.lt.label; clear ly2; have ky := oG1.lt.kind; rw [HK.out] at ky; skip)
      | (with_reducible refine wpList_loadb (by first | kernel_rfl | with_unfolding_all rfl) 43 _ rfl P1 rfl CF1 hP1 _ Tryz.underlying43 (by kernel_rfl) (size40C zG1) ?_)
      | (go_at_call 12; (with_reducible refine (c3 _ hk).mono ?_); rintro e w3 ⟨rfl, hb3⟩; replace hB := hB.next hb3; replace hT1 := hT1.next hb3; replace hP1 := hP1.next hb3; replace oG1 := oG1.next hb3; replace hk := hk.trans (hb3.mono hk.size); clear hb3; skip)
      | (go_at_call 14; (with_reducible refine (c5 _ hk).mono ?_); rintro e w66 ⟨ao3, n3, cap3, rfl, oW3, hbW3⟩)
      | ((with_reducible refine wpList_alloc rfl 25 rfl zW zero43 ?_); have hx := oW3; clear hx; intro P3 U3 hN23 hPa3 hka3)
      | ((with_reducible refine wpList_store_blk rfl _ _ _ rfl P3 rfl #[.int .i64 t0, .int .u64 (ke0 : Int), .int .u64 ro0, .slice ao3 n3 cap3] rfl zW hPa3 (infoW4 _ _ _ _ _ _) (zW4 _ _ _ _ _ _) (oneW4 _ _ _ _ _ _) ?_); intro X3 hP3 q3; obtain ⟨hbz, oV3⟩ := laidW hbW3 oW3 hN23 hka3 q3; clear oW3 hbW3 hN23 hka3 q3 hPa3; replace hB := hB.next hbz; replace hT1 := hT1.next hbz; replace hP1 := hP1.next hbz; replace oG1 := oG1.next hbz; replace hk := hk.trans (hbz.mono hk.size); clear hbz; skip)
      | (with_reducible refine wpList_loadb (by first | kernel_rfl | with_unfolding_all rfl) 25 _ rfl P3 rfl #[.int .i64 t0, .int .u64 (ke0 : Int), .int .u64 ro0, .slice ao3 n3 cap3] hP3 _ Tryz.underlying25 (by kernel_rfl) (infoW4 _ _ _ _ _ _) ?_)
      | (with_reducible refine wpList_load1 (by first | kernel_rfl | with_unfolding_all rfl) _ _ rfl T1 _ rfl _ _ hT1 _ et2 ga0 ?_)
      | (with_reducible refine wpList_load1 (by first | kernel_rfl | with_unfolding_all rfl) _ _ rfl P1 _ rfl _ _ hP1 _ ey2 ga0 ?_)
      | (with_reducible refine wpList_load1 (by first | kernel_rfl | with_unfolding_all rfl) _ _ rfl P1 _ rfl _ _ hP1 _ ky ga2 ?_)
      | (go_at_call 19; (with_reducible refine (robs_v (lab_at (l1.next hk) et2) (lab_at oG1.lt ey2) hnt ft fy).mono ?_); rintro e w88 ⟨rfl, hb8⟩; rw [HO.out]; replace hB := hB.next hb8; replace hT1 := hT1.next hb8; replace hP1 := hP1.next hb8; replace hP3 := hP3.next hb8; replace oG1 := oG1.next hb8; replace oV3 := oV3.next hb8; replace hk := hk.trans (hb8.mono hk.size); clear hb8)
      | (go_at_call 20; (with_reducible refine (rleq_f (lab_at (l1.next hk) et2) (lab_at oG1.lt ey2) ft fy).mono ?_); rintro e w88 ⟨rfl, hb8⟩; rw [HL.out]; replace hB := hB.next hb8; replace hT1 := hT1.next hb8; replace hP1 := hP1.next hb8; replace hP3 := hP3.next hb8; replace oG1 := oG1.next hb8; replace oV3 := oV3.next hb8; replace hk := hk.trans (hb8.mono hk.size); clear hb8)
      | (go_at_call 9; (with_reducible refine (awake18_any _).mono ?_); rintro e w99 ⟨rfl, hb9⟩; replace hk := hk.trans (hb9.mono hk.size)))
     go_ret
     exact ⟨rfl, hk⟩
   ·have hB := st_of hE
    rw [hB] at c5
    have HE : Hid (¬ wkE X0 x1 a2 = 0) := hE
    simp only [decide_eq_false hE] at c3
    clear hB hE
    generalize wkE X0 x1 a2 = ek at c1 HE
    have hb0 : (ek == 0) = false := by simpa using HE.out
    generalize resO ek (wkO X0 x1 a2) = y at c1
    generalize (if ek = 0 then (mpM X0 x1 a2).wr else false) = wb at c1
    generalize (((if ek = 0 then mpA X0 x1 a2 else 0) : Nat) : Int) = A at c1
    generalize ldV X0 x1 a2 = lv at c3
    generalize stX X0 x1 a2 a3 = XS at c5
    obtain ⟨D, hD⟩ : ∃ D : Array Value, D = #[.int .i64 t0, .int .u64 (ke0 : Int), .int .u64 ro0, .slice ao0 n0 cap0] := ⟨_, rfl⟩
    rw [← hD] at hzg hfw c1 c3 c5
    rw [← hD]
    clear hD
    go_enter Tryz.func5, Tryz.ntmps5
    go_wp2_with (first
     | go_skip
     | (with_reducible refine wpList_box rfl 25 _ rfl D rfl ?_; intro B V1 hNB hB hk)
     | (with_reducible refine wpList_box rfl 43 _ rfl C1 rfl ?_; intro T1 V2 hNT1 hT1 hk2; replace hB := hB.next hk2; replace hk := hk.trans (hk2.mono hk.size); clear hk2)
     | (with_reducible refine wpList_loadb (by first | kernel_rfl | with_unfolding_all rfl) 25 _ rfl B rfl D hB _ Tryz.underlying25 (by kernel_rfl) hzg ?_)
     | (with_reducible refine wpList_loadb (by first | kernel_rfl | with_unfolding_all rfl) 43 _ rfl T1 rfl C1 hT1 _ Tryz.underlying43 (by kernel_rfl) (size40C hz1) ?_)
     | (go_at_call 7; (with_reducible refine ((hfw _ hk).yes hF).mono ?_); rintro e w44 ⟨rfl, hb4⟩; replace hB := hB.next hb4; replace hT1 := hT1.next hb4; replace hk := hk.trans (hb4.mono hk.size); clear hb4)
     | (go_at_call 8; (with_reducible refine ((hth1 _ hk).yes hR1).mono ?_); rintro e w55 ⟨rfl, hb5⟩; clear hth1; replace hB := hB.next hb5; replace hT1 := hT1.next hb5; replace hk := hk.trans (hb5.mono hk.size); clear hb5)
     | (go_at_call 10; (with_reducible refine (c1 _ hk).mono ?_); rintro e w77 ⟨CF1, rfl, oF1, hb1⟩)
     | ((with_reducible refine wpList_alloc rfl 43 rfl zC zero40 ?_); have hx := oF1; clear hx; intro P1 U1 hN21 hPa1 hka1)
     | ((with_reducible refine wpList_store_blk rfl _ _ _ rfl P1 rfl CF1 rfl zC hPa1 (size40C oF1.size) (zC_size.trans oF1.size.symm) oF1.one ?_); intro X1 hP1 q1; obtain ⟨hbz, oG1⟩ := laidF hb1 oF1 hN21 hka1 q1; have zG1 := oG1.size; clear oF1 hb1 hN21 hka1 q1 hPa1; replace hB := hB.next hbz; replace hT1 := hT1.next hbz; replace hk := hk.trans (hbz.mono hk.size); clear hbz; skip)
     | (with_reducible refine wpList_loadb (by first | kernel_rfl | with_unfolding_all rfl) 43 _ rfl P1 rfl CF1 hP1 _ Tryz.underlying43 (by kernel_rfl) (size40C zG1) ?_)
     | (go_at_call 12; (with_reducible refine (c3 _ hk).mono ?_); rintro e w3 ⟨rfl, hb3⟩; replace hB := hB.next hb3; replace hT1 := hT1.next hb3; replace hP1 := hP1.next hb3; replace oG1 := oG1.next hb3; replace hk := hk.trans (hb3.mono hk.size); clear hb3; skip)
     | (go_at_call 14; (with_reducible refine (c5 _ hk).mono ?_); rintro e w66 ⟨ao3, n3, cap3, rfl, oW3, hbW3⟩)
     | ((with_reducible refine wpList_alloc rfl 25 rfl zW zero43 ?_); have hx := oW3; clear hx; intro P3 U3 hN23 hPa3 hka3)
     | ((with_reducible refine wpList_store_blk rfl _ _ _ rfl P3 rfl #[.int .i64 t0, .int .u64 (ke0 : Int), .int .u64 ro0, .slice ao3 n3 cap3] rfl zW hPa3 (infoW4 _ _ _ _ _ _) (zW4 _ _ _ _ _ _) (oneW4 _ _ _ _ _ _) ?_); intro X3 hP3 q3; obtain ⟨hbz, oV3⟩ := laidW hbW3 oW3 hN23 hka3 q3; clear oW3 hbW3 hN23 hka3 q3 hPa3; replace hB := hB.next hbz; replace hT1 := hT1.next hbz; replace hP1 := hP1.next hbz; replace oG1 := oG1.next hbz; replace hk := hk.trans (hbz.mono hk.size); clear hbz; skip)
     | (with_reducible refine wpList_loadb (by first | kernel_rfl | with_unfolding_all rfl) 25 _ rfl P3 rfl #[.int .i64 t0, .int .u64 (ke0 : Int), .int .u64 ro0, .slice ao3 n3 cap3] hP3 _ Tryz.underlying25 (by kernel_rfl) (infoW4 _ _ _ _ _ _) ?_)
     | (go_at_call 9; (with_reducible refine (awake18_any _).mono ?_); rintro e w99 ⟨rfl, hb9⟩; replace hk := hk.trans (hb9.mono hk.size)))
    go_ret
    exact ⟨rfl, hk⟩
  ·skip
   obtain ⟨D, hD⟩ : ∃ D : Array Value, D = #[.int .i64 t0, .int .u64 (ke0 : Int), .int .u64 ro0, .slice ao0 n0 cap0] := ⟨_, rfl⟩
   rw [← hD] at hzg hfw
   rw [← hD]
   clear hD
   go_enter Tryz.func5, Tryz.ntmps5
   go_wp2_with (first
    | go_skip
    | (with_reducible refine wpList_box rfl 25 _ rfl D rfl ?_; intro B V1 hNB hB hk)
    | (with_reducible refine wpList_box rfl 43 _ rfl C1 rfl ?_; intro T1 V2 hNT1 hT1 hk2; replace hB := hB.next hk2; replace hk := hk.trans (hk2.mono hk.size); clear hk2)
    | (with_reducible refine wpList_loadb (by first | kernel_rfl | with_unfolding_all rfl) 25 _ rfl B rfl D hB _ Tryz.underlying25 (by kernel_rfl) hzg ?_)
    | (with_reducible refine wpList_loadb (by first | kernel_rfl | with_unfolding_all rfl) 43 _ rfl T1 rfl C1 hT1 _ Tryz.underlying43 (by kernel_rfl) (size40C hz1) ?_)
    | (go_at_call 7; (with_reducible refine ((hfw _ hk).yes hF).mono ?_); rintro e w44 ⟨rfl, hb4⟩; replace hB := hB.next hb4; replace hT1 := hT1.next hb4; replace hk := hk.trans (hb4.mono hk.size); clear hb4)
    | (go_at_call 8; (with_reducible refine ((hth1 _ hk).no hR1).mono ?_); rintro e w55 ⟨rfl, hb5⟩; clear hth1; replace hB := hB.next hb5; replace hT1 := hT1.next hb5; replace hk := hk.trans (hb5.mono hk.size); clear hb5)
    | (go_at_call 9; (with_reducible refine (awake18_any _).mono ?_); rintro e w99 ⟨rfl, hb9⟩; replace hk := hk.trans (hb9.mono hk.size)))
   go_ret
   exact ⟨rfl, hk⟩
 ·skip
  obtain ⟨D, hD⟩ : ∃ D : Array Value, D = #[.int .i64 t0, .int .u64 (ke0 : Int), .int .u64 ro0, .slice ao0 n0 cap0] := ⟨_, rfl⟩
  rw [← hD] at hzg hfw
  rw [← hD]
  clear hD
  go_enter Tryz.func5, Tryz.ntmps5
  go_wp2_with (first
   | go_skip
   | (with_reducible refine wpList_box rfl 25 _ rfl D rfl ?_; intro B V1 hNB hB hk)
   | (with_reducible refine wpList_box rfl 43 _ rfl C1 rfl ?_; intro T1 V2 hNT1 hT1 hk2; replace hB := hB.next hk2; replace hk := hk.trans (hk2.mono hk.size); clear hk2)
   | (with_reducible refine wpList_loadb (by first | kernel_rfl | with_unfolding_all rfl) 25 _ rfl B rfl D hB _ Tryz.underlying25 (by kernel_rfl) hzg ?_)
   | (with_reducible refine wpList_loadb (by first | kernel_rfl | with_unfolding_all rfl) 43 _ rfl T1 rfl C1 hT1 _ Tryz.underlying43 (by kernel_rfl) (size40C hz1) ?_)
   | (go_at_call 7; (with_reducible refine ((hfw _ hk).no hF).mono ?_); rintro e w44 ⟨rfl, hb4⟩; replace hB := hB.next hb4; replace hT1 := hT1.next hb4; replace hk := hk.trans (hb4.mono hk.size); clear hb4)
   | (go_at_call 9; (with_reducible refine (awake18_any _).mono ?_); rintro e w99 ⟨rfl, hb9⟩; replace hk := hk.trans (hb9.mono hk.size)))
  go_ret
  exact ⟨rfl, hk⟩

theorem lifted (os : Os) (started : os.Started) (H : Type) (enc : TypeId × Value → H) :
  ReturnsInHanded {} Tryz.checked os 5 .any (Rows.memWithinSpec.pre6 enc Tryz.prog Tryz.f5 Rows.memWithinRow.domain false) (Rows.memWithinSpec.post enc Tryz.prog Tryz.f5 false true false false) := by
 refine returnsInHanded_of_change (C := Tryz.checked) own started (by kernel_rfl) Tryz.func5
  (ChangeSpec.witness6 (enc := enc) (C := Tryz.checked) false ⟨#[], #[.agg #[.int .i64 0, .int .u64 0, .int .u64 0, .slice none 0 0], .agg zC, .int .u64 0, .int .u64 0], []⟩ 8 (by kernel_rfl) (by kernel_rfl) (by kernel_rfl) (by kernel_rfl)) ?_
 intro W base args ds gs before hval0 hW hcnd _
 have hval : ∀ (j : Nat) t v, Tryz.f5.params[j]? = some t → args[j]? = some v → Value.okWide Tryz.prog W .any base t v := hval0
 have hW' := hW
 obtain ⟨p, q, hA0, hV, rfl, hfz, hnd⟩ := hW
 have hA : DataW.TrodAll enc Tryz.prog W 0 (fun _ => true) true Tryz.f5.params.toList args.toList ds p := hA0
 rw [Tryz.params5] at hA hval
 obtain ⟨v0, vs0, d0, ds0, p0, q0, hargs, rfl, rfl, h0, r0⟩ := trodAll_cons hA
 obtain ⟨v1, vs1, d1, ds1, p1, q1, rfl, rfl, rfl, h1, r1⟩ := trodAll_cons r0
 obtain ⟨v2, vs2, d2, ds2, p2, q2, rfl, rfl, rfl, h2, r2⟩ := trodAll_cons r1
 obtain ⟨v3, vs3, d3, ds3, p3, q3, rfl, rfl, rfl, h3, r3⟩ := trodAll_cons r2
 obtain ⟨rfl, rfl, rfl⟩ := trodAll_nil r3
 obtain rfl : args = #[v0, v1, v2, v3] := by cases args; simp_all
 obtain ⟨rfl, rfl⟩ := trodVars_none hV
 obtain ⟨t0, ke0, ro0, ao0, n0, cap0, X0, rfl, l0⟩ := worldW_of_trod (hval 0 25 v0 rfl rfl) h0
 have k0 := h0
 have lt0 : ∀ x ∈ p0, x.block < W.heap.size := by obtain ⟨m, hm⟩ := k0; exact DataW.trod_lt m _ _ _ hm
 obtain ⟨C1, x1, rfl, l1⟩ := obj_of_trod (hval 1 43 v1 rfl rfl) h1
 have k1 := h1
 have lt1 : ∀ x ∈ p1, x.block < W.heap.size := by obtain ⟨m, hm⟩ := k1; exact DataW.trod_lt m _ _ _ hm
 obtain ⟨a2, rfl, rfl, rfl, w2⟩ := open_int Tryz.underlying22 (hval 2 22 v2 rfl rfl) h2
 obtain ⟨a3, rfl, rfl, rfl, w3⟩ := open_int Tryz.underlying22 (hval 3 22 v3 rfl rfl) h3
 clear hA0 hval0
 refine (walk t0 ke0 ro0 ao0 n0 cap0 X0 C1 x1 a2 a3 W l0 l1 w2 w3).mono fun e W' ⟨he, bel⟩ => ?_
 subst he
 exact ⟨_, rfl, _, _, _, [], _, [], hW', trodAll_mk1 (shut_bool Tryz.underlying4 _), (trodAll_cons_mk (Below.trod laidOut (by kernel_rfl) (of_decide_eq_true (by kernel_rfl)) k0 bel lt0) (trodAll_cons_mk (Below.trod laidOut (by kernel_rfl) (of_decide_eq_true (by kernel_rfl)) k1 bel lt1) (trodAll_cons_mk (shut_int Tryz.underlying22 w2) (trodAll_cons_mk (shut_int Tryz.underlying22 w3) trodAll_mk0)))), rfl, bel.frame _, fun h => by cases h⟩

theorem over : Rows.memWithinRow.holds Tryz.pinned (OpenSpec.ofChange Rows.memWithinSpec) :=
 OpenClaim.holds_of_wide 5 Tryz.f5 rfl rfl rfl rfl rfl rfl rfl ⟨rfl, rfl, rfl, rfl, rfl⟩ rfl rfl rfl rfl rfl (by kernel_rfl) Tryz.func5 (by kernel_rfl)
  (of_decide_eq_true (by kernel_rfl)) (by unfold Func.isWrapper; first | (rw [if_pos (by decide +kernel)]; kernel_rfl) | (rw [if_neg (by decide +kernel)]; exact ⟨rfl, rfl⟩))
  (fun os started H enc _ => lifted os started H enc)

end memWithin
theorem memWithin_holds : Rows.MemWithinSaid :=
 memWithin.over
#print axioms memWithin_holds
end Go.Proofs.YtiiaohejldchdaaGreat
