/-
 PROVED HERE: what is hidden from an observer plays no part in what is told to a thread that it sees. No condition besides the statement's own.
-/
import Derived.Test.YtblklhgojdbfeaaGreatRows
import Derived.WalkKit
import Derived.ProofKit
import Derived.OpenShut
import Derived.Below
import Derived.ShutString
import Derived.Deep.QuietTactic
import Derived.Test.YtblklhgojdbfeaaGreatY9
import Derived.Test.YtblklhgojdbfeaaGreatY18
import Derived.Test.YtblklhgojdbfeaaGreatY27
import Derived.Test.YtblklhgojdbfeaaGreatY28
import Derived.Test.YtblklhgojdbfeaaGreatY36
import Derived.Test.YtblklhgojdbfeaaGreatY39
import Derived.Test.YtblklhgojdbfeaaGreatY40
import Derived.Test.YtblklhgojdbfeaaGreatY41
import Derived.Test.YtblklhgojdbfeaaGreatY42
namespace Go.Proofs.YtblklhgojdbfeaaGreat
set_option maxRecDepth 100000
set_option maxHeartbeats 8000000
namespace reachSeen
open Go.ChangeShapes Go.WideShapes Go.ChangeAt Go.RowKit
open Go.ChangeMaps (open_string shut_string)
set_option linter.unusedVariables false

theorem own : ownKnob Tryz.prog.godebug = none := by kernel_rfl

theorem walk (t0 : Int) (ke0 : Nat) (ro0 : Int) (ao0 : Option Addr) (n0 cap0 : Nat) (X0 : List Ob) (t1 : Int) (ke1 : Nat) (ro1 : Int) (ao1 : Option Addr) (n1 cap1 : Nat) (X1 : List Ob) (ao2 : Option Addr) (n2 cap2 : Nat) (L2 : List (Int × Int)) (C3 : Array Value) (x3 : Ob) (x4 y4 : Nat) (a5 : Int) (a6 : Bool) (w : World) (l0 : Obs w ao0 n0 cap0 X0 ∧ ∀ x ∈ X0, WdO x) (l1 : Obs w ao1 n1 cap1 X1 ∧ ∀ x ∈ X1, WdO x) (l2 : Lab w.heap.size w ao2 n2 cap2 L2) (l3 : ObD (LtN w) w C3 x3) (l4 : x4 < 18446744073709551616 ∧ y4 < 18446744073709551616) (w5 : (Lit.int .i64 a5).wf = true) :
  Calls Tryz.prog 4 #[.agg #[.int .i64 t0, .int .u64 (ke0 : Int), .int .u64 ro0, .slice ao0 n0 cap0], .agg #[.int .i64 t1, .int .u64 (ke1 : Int), .int .u64 ro1, .slice ao1 n1 cap1], .slice ao2 n2 cap2, .agg C3, .agg #[.int .u64 (x4 : Int), .int .u64 (y4 : Int)], .int .i64 a5, .bool a6] w fun e w' => e = .returned (.bool true) ∧ Below w.heap.size w w' := by
 obtain ⟨hX, hwd⟩ := l0
 obtain ⟨hY, hwd'⟩ := l1
 have hz := l3.size
 have hmx : Tryz.prog.follows .mixedOrders = true := by kernel_rfl
 have hfw := fun (W : World) (hk : Below w.heap.size w W) => few17_any (t := t0) (ro := ro0) (key := ke0) (obs_next hX hk) hwd
 have hfv := fun (W : World) (hk : Below w.heap.size w W) => few17_any (t := t1) (ro := ro1) (key := ke1) (obs_next hY hk) hwd'
 have hth := fun (W : World) (hk : Below w.heap.size w W) => thread17_any (l3.next hk)
 have hzg : (Tryz.prog.info? 25).map (·.size) = some (#[.int .i64 t0, .int .u64 (ke0 : Int), .int .u64 ro0, .slice ao0 n0 cap0] : Array Value).size := by kernel_rfl
 have hzg' : (Tryz.prog.info? 25).map (·.size) = some (#[.int .i64 t1, .int .u64 (ke1 : Int), .int .u64 ro1, .slice ao1 n1 cap1] : Array Value).size := by kernel_rfl
 have hzr : (Tryz.prog.info? 32).map (·.size) = some (#[.int .u64 (x4 : Int), .int .u64 (y4 : Int)] : Array Value).size := by kernel_rfl
 have g0 : (#[.int .u64 (x4 : Int), .int .u64 (y4 : Int)] : Array Value)[0]? = some (.int .u64 (x4 : Int)) := rfl
 have g1 : (#[.int .u64 (x4 : Int), .int .u64 (y4 : Int)] : Array Value)[1]? = some (.int .u64 (y4 : Int)) := rfl
 have gz : (#[.int .u64 (x4 : Int), .int .u64 (y4 : Int)] : Array Value).size = 2 := rfl
 have ga1 := Tryz.isAgg22
 have ga0 := Tryz.isAgg27
 obtain ⟨G, hG⟩ : ∃ G : Array Value, G = #[.int .u64 (x4 : Int), .int .u64 (y4 : Int)] := ⟨_, rfl⟩
 rw [← hG] at hzr g0 g1 gz
 rw [← hG]
 clear hG
 obtain ⟨rc, hrc⟩ : ∃ rc : Int, rc = (x4 : Int) := ⟨_, rfl⟩
 obtain ⟨ri, hri⟩ : ∃ ri : Int, ri = (y4 : Int) := ⟨_, rfl⟩
 rw [← hrc] at g0
 rw [← hri] at g1
 clear hrc hri
 obtain ⟨a8, n8, cT, e8, lb8⟩ := l3.label
 have hWl : Hid (L2.length = n2) := l2.1
 have hln := l2.2.1
 have hlm := l2.2.2.1.1
 by_cases hF : few17P t0 ke0 ro0 X0
 ·by_cases hF' : few17P t1 ke1 ro1 X1
  ·by_cases hR : thr17P x3
   ·by_cases h20 : n2 ≤ 20
    ·have h20' : decide ((20 : Int) < (n2 : Int)) = false := by rw [decide_eq_false_iff_not]; omega
     have hfi := fun (W : World) (hk : Below w.heap.size w W) => rlfit_any (l2.next hk) (Nat.le_refl _)
     cases hft : fitB L2 with
     | true =>
      rw [hft] at hfi
      have hfW : Fit L2 := fit_iff hft
      have hlq := fun (W : World) (hk : Below w.heap.size w W) => rleq_f (Lab.nil W.heap.size W) (l2.next hk) Fit.nil hfW
      cases hll : leqB [] L2 with
      | true =>
       rw [hll] at hlq
       have hfx : LbF x3.label := sound_lab hR.2.2
       have hfx1 := hfx.1
       have h8 : n8 < 1048576 := by have := lb8.1; have := hfx.2; omega
       have hhd := fun (W : World) (hk : Below w.heap.size w W) => HdM.rhides_any (LabD.lab' lb8 hk) (l2.next hk) h8 (by omega) hfx1
       by_cases hvi : leqB (raiseL x3.label) L2 = true
       ·have htr := tre_of hF.2
        have htr' := tre_of hF'.2
        have hn : n0 ≤ 1024 := by have := hX.1; have := htr.len; omega
        have hn' : n1 ≤ 1024 := by have := hY.1; have := htr'.len; omega
        have hal := fun (W : World) (hk : Below w.heap.size w W) => ralike_v (t := t0) (ke := (ke0 : Int)) (ro := ro0) (t' := t1) (ke' := (ke1 : Int)) (ro' := ro1) (obs_next hX hk) (obs_next hY hk) htr.snd htr'.snd hn hn' (l2.next hk) hfW
        by_cases hA : ((⟨t0, (ke0 : Int), ro0, vwL X0 L2⟩ : Wd) = ⟨t1, (ke1 : Int), ro1, vwL X1 L2⟩)
        ·have hvw : vwL X0 L2 = vwL X1 L2 := by injection hA
         have ak : Alk X0 X1 ro0 ro1 L2 x3.label := ⟨htr, htr', hvw, hfx1, hfW, hvi⟩
         have hsm : Smalls X0 := fun x hx => sound_small0 (htr.snd x hx)
         have hsm' : Smalls X1 := fun x hx => sound_small0 (htr'.snd x hx)
         have hn4 : n0 ≤ 4096 := by omega
         have hn4' : n1 ≤ 4096 := by omega
         have hll' : x3.label.length < 1048576 := hfx.2
         have c1 := fun (W : World) (hk : Below w.heap.size w W) => (see_face (t := t0) (ke := (ke0 : Int)) (ro := ro0) (kd := a5) (obs_next hX hk) htr.srt hn4 hsm (l3.next hk) hll' g0 g1 gz).mono (fun _ _ h => tellX hk h)
         have c2 := fun (W : World) (hk : Below w.heap.size w W) => (see_face (t := t1) (ke := (ke1 : Int)) (ro := ro1) (kd := a5) (obs_next hY hk) htr'.srt hn4' hsm' (l3.next hk) hll' g0 g1 gz).mono (fun _ _ h => tellX hk h)
         have c3 := fun (W : World) (hk : Below w.heap.size w W) => (change_face (t := t0) (ke := (ke0 : Int)) (ro := ro0) (kd := a5) (obs_next hX hk) htr.srt hn4 hsm (l3.next hk) hll' g0 g1 gz).mono (fun _ _ h => tellX hk h)
         have c4 := fun (W : World) (hk : Below w.heap.size w W) => (change_face (t := t1) (ke := (ke1 : Int)) (ro := ro1) (kd := a5) (obs_next hY hk) htr'.srt hn4' hsm' (l3.next hk) hll' g0 g1 gz).mono (fun _ _ h => tellX hk h)
         have c5 := fun (W : World) (hk : Below w.heap.size w W) => (dir_face (t := t0) (ke := (ke0 : Int)) (ro := ro0) (i := rc) (wr := a6) (obs_next hX hk) htr.srt hn4 hsm (l3.next hk) hll').mono (fun _ _ h => tellX hk h)
         have c6 := fun (W : World) (hk : Below w.heap.size w W) => (dir_face (t := t1) (ke := (ke1 : Int)) (ro := ro1) (i := rc) (wr := a6) (obs_next hY hk) htr'.srt hn4' hsm' (l3.next hk) hll').mono (fun _ _ h => tellX hk h)
         have c7 := fun (W : World) (hk : Below w.heap.size w W) => (look_face (t := t0) (ke := (ke0 : Int)) (ro := ro0) (obs_next hX hk) htr.srt hn4 hsm (l3.next hk) hll' g0 g1 gz).mono (fun _ _ h => tellX hk h)
         have c8 := fun (W : World) (hk : Below w.heap.size w W) => (look_face (t := t1) (ke := (ke1 : Int)) (ro := ro1) (obs_next hY hk) htr'.srt hn4' hsm' (l3.next hk) hll' g0 g1 gz).mono (fun _ _ h => tellX hk h)
         have ks := ak.all rc ri a5 (seeB x3.label) (fun _ h => h)
         have kc := ak.all rc ri a5 (chgB x3.label) (fun _ h => by unfold chgB at h; simp only [Bool.and_eq_true] at h; exact h.1)
         have kd := ak.dir rc a6
         have kdo := ak.dirO rc a6
         have kl := ak.look rc ri
         have klh := ak.lookH rc ri
         simp only [ks.2] at c2
         simp only [ks.1] at c2
         simp only [kc.2] at c4
         simp only [kc.1] at c4
         simp only [kdo] at c6
         simp only [kd.1] at c6
         generalize resO (lokE X1 x3.label rc ri) (fO X1 ri) = Oq at c8 klh
         generalize resO (lokE X0 x3.label rc ri) (fO X0 ri) = Op at c7 klh
         simp only [kl] at c8
         generalize lokE X0 x3.label rc ri = e4 at c7 c8
         generalize resO (allE X0 x3.label rc ri a5 (seeB x3.label)) (fO X0 ri) = O1 at c1 c2
         generalize allE X0 x3.label rc ri a5 (seeB x3.label) = e1 at c1 c2
         generalize resO (allE X0 x3.label rc ri a5 (chgB x3.label)) (fO X0 ri) = O2 at c3 c4
         generalize allE X0 x3.label rc ri a5 (chgB x3.label) = e2 at c3 c4
         generalize resO (dirE X0 x3.label rc a6) (fO X0 rc) = O3 at c5 c6
         generalize dirE X0 x3.label rc a6 = e3 at c5 c6
         have KL : Hid (heaO Op = heaO Oq) := klh.symm
         clear ks kc kd kdo kl klh
         obtain ⟨D, hD⟩ : ∃ D : Array Value, D = #[.int .i64 t0, .int .u64 (ke0 : Int), .int .u64 ro0, .slice ao0 n0 cap0] := ⟨_, rfl⟩
         obtain ⟨E, hE⟩ : ∃ E : Array Value, E = #[.int .i64 t1, .int .u64 (ke1 : Int), .int .u64 ro1, .slice ao1 n1 cap1] := ⟨_, rfl⟩
         simp only [← hD, ← hE] at hzg hzg' hfw hfv hal c1 c2 c3 c4 c5 c6 c7 c8
         rw [← hD, ← hE]
         clear hD hE
         go_enter Tryz.func4, Tryz.ntmps4
         go_wp2_with (first
          | go_skip
          | (with_reducible refine wpList_box rfl 25 (.tmp 0) rfl D rfl ?_; intro B W1 hN1 hB hk)
          | (with_reducible refine wpList_box rfl 25 (.tmp 1) rfl E rfl ?_; intro V W2 hN2 hV hk2; replace hB := hB.next hk2; replace hk := hk.trans (hk2.mono hk.size); clear hk2)
          | (with_reducible refine wpList_box rfl 43 _ rfl C3 rfl ?_; intro T W3 hN3 hT hk3; replace hB := hB.next hk3; replace hV := hV.next hk3; replace hk := hk.trans (hk3.mono hk.size); clear hk3)
          | (with_reducible refine wpList_box rfl 32 _ rfl G rfl ?_; intro Q W8 hN8 hQ hk8; replace hB := hB.next hk8; replace hV := hV.next hk8; replace hT := hT.next hk8; replace hk := hk.trans (hk8.mono hk.size); clear hk8)
          | (with_reducible refine wpList_loadb (by with_unfolding_all rfl) 25 _ rfl B rfl D hB _ Tryz.underlying25 (by kernel_rfl) hzg ?_)
          | (with_reducible refine wpList_loadb (by with_unfolding_all rfl) 25 _ rfl V rfl E hV _ Tryz.underlying25 (by kernel_rfl) hzg' ?_)
          | (with_reducible refine wpList_loadb (by with_unfolding_all rfl) 43 _ rfl T rfl C3 hT _ Tryz.underlying43 (by kernel_rfl) (size40C hz) ?_)
          | (with_reducible refine wpList_load1 (by with_unfolding_all rfl) _ _ rfl T _ rfl _ _ hT _ e8 ga0 ?_)
          | (with_reducible refine wpList_loadb (by first | kernel_rfl | with_unfolding_all rfl) 32 _ rfl Q rfl G hQ _ Tryz.underlying32 (by kernel_rfl) hzr ?_)
          | (with_reducible refine wpList_load1 (by first | kernel_rfl | with_unfolding_all rfl) _ _ rfl Q _ rfl _ _ hQ _ g0 ga1 ?_)
          | (go_at_call 5; (with_reducible refine ((hfw _ hk).yes hF).mono ?_); rintro e w40 ⟨rfl, hb40⟩; replace hB := hB.next hb40; replace hV := hV.next hb40; replace hT := hT.next hb40; replace hQ := hQ.next hb40; replace hk := hk.trans (hb40.mono hk.size); clear hb40)
          | (go_at_call 5; (with_reducible refine ((hfv _ hk).yes hF').mono ?_); rintro e w41 ⟨rfl, hb41⟩; replace hB := hB.next hb41; replace hV := hV.next hb41; replace hT := hT.next hb41; replace hQ := hQ.next hb41; replace hk := hk.trans (hb41.mono hk.size); clear hb41)
          | (go_at_call 6; (with_reducible refine ((hth _ hk).yes hR).mono ?_); rintro e w42 ⟨rfl, hb42⟩; replace hB := hB.next hb42; replace hV := hV.next hb42; replace hT := hT.next hb42; replace hQ := hQ.next hb42; replace hk := hk.trans (hb42.mono hk.size); clear hb42)
          | (go_at_call 17; (with_reducible refine (hfi _ hk).mono ?_); rintro e w43 ⟨rfl, hb43⟩; replace hB := hB.next hb43; replace hV := hV.next hb43; replace hT := hT.next hb43; replace hQ := hQ.next hb43; replace hk := hk.trans (hb43.mono hk.size); clear hb43)
          | (go_at_call 18; (with_reducible refine (hlq _ hk).mono ?_); rintro e w44 ⟨rfl, hb44⟩; replace hB := hB.next hb44; replace hV := hV.next hb44; replace hT := hT.next hb44; replace hQ := hQ.next hb44; replace hk := hk.trans (hb44.mono hk.size); clear hb44)
          | (go_at_call 19; (with_reducible refine (hhd _ hk).mono ?_); rintro e w45 ⟨aH, mH, cH, rfl, hH, hb45⟩; replace hB := hB.next hb45; replace hV := hV.next hb45; replace hT := hT.next hb45; replace hQ := hQ.next hb45; replace hk := hk.trans (hb45.mono hk.size); clear hb45; obtain rfl : mH = 0 := (hH.1).symm.trans ((HdM.hid_nil hfx1 hfW).2 hvi); clear hH)
          | (go_at_call 20; (with_reducible refine ((hal _ hk).yes hA).mono ?_); rintro e w46 ⟨rfl, hb46⟩; replace hB := hB.next hb46; replace hV := hV.next hb46; replace hT := hT.next hb46; replace hQ := hQ.next hb46; replace hk := hk.trans (hb46.mono hk.size); clear hb46)
          | (go_at_call 10; (with_reducible refine (c1 _ hk).mono ?_); rintro e w11 ⟨CF1, rfl, oF1, hb1⟩)
          | ((with_reducible refine wpList_alloc rfl 43 rfl zC zero40 ?_); have hx := oF1; intro P1 U1 hN21 hPa1 hka1; clear hx)
          | ((with_reducible refine wpList_store_blk rfl _ _ _ rfl P1 rfl CF1 rfl zC hPa1 (size40C oF1.size) (zC_size.trans oF1.size.symm) oF1.one ?_); intro V1 hP1 q1; obtain ⟨hbz, oG1⟩ := laidX hk hb1 oF1 hN21 hka1 q1; have zG1 := oG1.size; clear oF1 hb1 hN21 hka1 q1 hPa1; replace hB := hB.next hbz; replace hV := hV.next hbz; replace hT := hT.next hbz; replace hQ := hQ.next hbz; replace hk := hk.trans (hbz.mono hk.size); clear hbz)
          | (go_at_call 10; (with_reducible refine (c2 _ hk).mono ?_); rintro e w12 ⟨CF2, rfl, oF2, hb2⟩)
          | ((with_reducible refine wpList_alloc rfl 43 rfl zC zero40 ?_); have hx := oF2; intro P2 U2 hN22 hPa2 hka2; clear hx)
          | ((with_reducible refine wpList_store_blk rfl _ _ _ rfl P2 rfl CF2 rfl zC hPa2 (size40C oF2.size) (zC_size.trans oF2.size.symm) oF2.one ?_); intro V2 hP2 q2; obtain ⟨hbz, oG2⟩ := laidX hk hb2 oF2 hN22 hka2 q2; have zG2 := oG2.size; clear oF2 hb2 hN22 hka2 q2 hPa2; replace hB := hB.next hbz; replace hV := hV.next hbz; replace hT := hT.next hbz; replace hQ := hQ.next hbz; replace hP1 := hP1.next hbz; replace oG1 := oG1.next hbz; replace hk := hk.trans (hbz.mono hk.size); clear hbz)
          | (go_at_call 12; (with_reducible refine (c3 _ hk).mono ?_); rintro e w13 ⟨CF3, rfl, oF3, hb3⟩)
          | ((with_reducible refine wpList_alloc rfl 43 rfl zC zero40 ?_); have hx := oF3; intro P3 U3 hN23 hPa3 hka3; clear hx)
          | ((with_reducible refine wpList_store_blk rfl _ _ _ rfl P3 rfl CF3 rfl zC hPa3 (size40C oF3.size) (zC_size.trans oF3.size.symm) oF3.one ?_); intro V3 hP3 q3; obtain ⟨hbz, oG3⟩ := laidX hk hb3 oF3 hN23 hka3 q3; have zG3 := oG3.size; clear oF3 hb3 hN23 hka3 q3 hPa3; replace hB := hB.next hbz; replace hV := hV.next hbz; replace hT := hT.next hbz; replace hQ := hQ.next hbz; replace hP1 := hP1.next hbz; replace hP2 := hP2.next hbz; replace oG1 := oG1.next hbz; replace oG2 := oG2.next hbz; replace hk := hk.trans (hbz.mono hk.size); clear hbz)
          | (go_at_call 12; (with_reducible refine (c4 _ hk).mono ?_); rintro e w14 ⟨CF4, rfl, oF4, hb4⟩)
          | ((with_reducible refine wpList_alloc rfl 43 rfl zC zero40 ?_); have hx := oF4; intro P4 U4 hN24 hPa4 hka4; clear hx)
          | ((with_reducible refine wpList_store_blk rfl _ _ _ rfl P4 rfl CF4 rfl zC hPa4 (size40C oF4.size) (zC_size.trans oF4.size.symm) oF4.one ?_); intro V4 hP4 q4; obtain ⟨hbz, oG4⟩ := laidX hk hb4 oF4 hN24 hka4 q4; have zG4 := oG4.size; clear oF4 hb4 hN24 hka4 q4 hPa4; replace hB := hB.next hbz; replace hV := hV.next hbz; replace hT := hT.next hbz; replace hQ := hQ.next hbz; replace hP1 := hP1.next hbz; replace hP2 := hP2.next hbz; replace hP3 := hP3.next hbz; replace oG1 := oG1.next hbz; replace oG2 := oG2.next hbz; replace oG3 := oG3.next hbz; replace hk := hk.trans (hbz.mono hk.size); clear hbz)
          | (go_at_call 14; (with_reducible refine (c5 _ hk).mono ?_); rintro e w15 ⟨CF5, rfl, oF5, hb5⟩)
          | ((with_reducible refine wpList_alloc rfl 43 rfl zC zero40 ?_); have hx := oF5; intro P5 U5 hN25 hPa5 hka5; clear hx)
          | ((with_reducible refine wpList_store_blk rfl _ _ _ rfl P5 rfl CF5 rfl zC hPa5 (size40C oF5.size) (zC_size.trans oF5.size.symm) oF5.one ?_); intro V5 hP5 q5; obtain ⟨hbz, oG5⟩ := laidX hk hb5 oF5 hN25 hka5 q5; have zG5 := oG5.size; clear oF5 hb5 hN25 hka5 q5 hPa5; replace hB := hB.next hbz; replace hV := hV.next hbz; replace hT := hT.next hbz; replace hQ := hQ.next hbz; replace hP1 := hP1.next hbz; replace hP2 := hP2.next hbz; replace hP3 := hP3.next hbz; replace hP4 := hP4.next hbz; replace oG1 := oG1.next hbz; replace oG2 := oG2.next hbz; replace oG3 := oG3.next hbz; replace oG4 := oG4.next hbz; replace hk := hk.trans (hbz.mono hk.size); clear hbz)
          | (go_at_call 14; (with_reducible refine (c6 _ hk).mono ?_); rintro e w16 ⟨CF6, rfl, oF6, hb6⟩)
          | ((with_reducible refine wpList_alloc rfl 43 rfl zC zero40 ?_); have hx := oF6; intro P6 U6 hN26 hPa6 hka6; clear hx)
          | ((with_reducible refine wpList_store_blk rfl _ _ _ rfl P6 rfl CF6 rfl zC hPa6 (size40C oF6.size) (zC_size.trans oF6.size.symm) oF6.one ?_); intro V6 hP6 q6; obtain ⟨hbz, oG6⟩ := laidX hk hb6 oF6 hN26 hka6 q6; have zG6 := oG6.size; clear oF6 hb6 hN26 hka6 q6 hPa6; replace hB := hB.next hbz; replace hV := hV.next hbz; replace hT := hT.next hbz; replace hQ := hQ.next hbz; replace hP1 := hP1.next hbz; replace hP2 := hP2.next hbz; replace hP3 := hP3.next hbz; replace hP4 := hP4.next hbz; replace hP5 := hP5.next hbz; replace oG1 := oG1.next hbz; replace oG2 := oG2.next hbz; replace oG3 := oG3.next hbz; replace oG4 := oG4.next hbz; replace oG5 := oG5.next hbz; replace hk := hk.trans (hbz.mono hk.size); clear hbz)
          | (go_at_call 8; (with_reducible refine (c7 _ hk).mono ?_); rintro e w17 ⟨CF7, rfl, oF7, hb7⟩)
          | ((with_reducible refine wpList_alloc rfl 43 rfl zC zero40 ?_); have hx := oF7; intro P7 U7 hN27 hPa7 hka7; clear hx)
          | ((with_reducible refine wpList_store_blk rfl _ _ _ rfl P7 rfl CF7 rfl zC hPa7 (size40C oF7.size) (zC_size.trans oF7.size.symm) oF7.one ?_); intro V7 hP7 q7; obtain ⟨hbz, oG7⟩ := laidX hk hb7 oF7 hN27 hka7 q7; have zG7 := oG7.size; clear oF7 hb7 hN27 hka7 q7 hPa7; replace hB := hB.next hbz; replace hV := hV.next hbz; replace hT := hT.next hbz; replace hQ := hQ.next hbz; replace hP1 := hP1.next hbz; replace hP2 := hP2.next hbz; replace hP3 := hP3.next hbz; replace hP4 := hP4.next hbz; replace hP5 := hP5.next hbz; replace hP6 := hP6.next hbz; replace oG1 := oG1.next hbz; replace oG2 := oG2.next hbz; replace oG3 := oG3.next hbz; replace oG4 := oG4.next hbz; replace oG5 := oG5.next hbz; replace oG6 := oG6.next hbz; replace hk := hk.trans (hbz.mono hk.size); clear hbz)
          | (go_at_call 8; (with_reducible refine (c8 _ hk).mono ?_); rintro e w18 ⟨CF8, rfl, oF8, hb8⟩)
          | ((with_reducible refine wpList_alloc rfl 43 rfl zC zero40 ?_); have hx := oF8; intro P8 U8 hN28 hPa8 hka8; clear hx)
          | ((with_reducible refine wpList_store_blk rfl _ _ _ rfl P8 rfl CF8 rfl zC hPa8 (size40C oF8.size) (zC_size.trans oF8.size.symm) oF8.one ?_); intro V8 hP8 q8; obtain ⟨hbz, oG8⟩ := laidX hk hb8 oF8 hN28 hka8 q8; have zG8 := oG8.size; clear oF8 hb8 hN28 hka8 q8 hPa8; replace hB := hB.next hbz; replace hV := hV.next hbz; replace hT := hT.next hbz; replace hQ := hQ.next hbz; replace hP1 := hP1.next hbz; replace hP2 := hP2.next hbz; replace hP3 := hP3.next hbz; replace hP4 := hP4.next hbz; replace hP5 := hP5.next hbz; replace hP6 := hP6.next hbz; replace hP7 := hP7.next hbz; replace oG1 := oG1.next hbz; replace oG2 := oG2.next hbz; replace oG3 := oG3.next hbz; replace oG4 := oG4.next hbz; replace oG5 := oG5.next hbz; replace oG6 := oG6.next hbz; replace oG7 := oG7.next hbz; replace hk := hk.trans (hbz.mono hk.size); clear hbz))
         refine PgM.region_out (S := fun U => Below V8.heap.size V8 U) hmx ((Below.refl _ _).drew) (fun hS => ?_)
         generalize V8.drew = v5 at hS ⊢
         refine wpAnyH_sym (by kernel_rfl) (fun _ _ _ _ _ h => h) hS [(0, some (.agg CF1)), (1, some (.agg CF2))] (l' := #[true, true, false, false, false, false, false, false, false, false, false, false, false, false, false, false, false, false, false, false, false, false, false, false, false, false, false, false, false, false, false, false, false, false, false, false, false, false, false, false, false, false, false, false]) (a' := { tmps := #[.agg D, .agg E, .slice ao2 n2 cap2, .agg C3, .agg G, .int .i64 a5, .bool a6, .pointer (some ⟨B, 0, none⟩), .pointer (some ⟨V, 0, none⟩), undef, .pointer (some ⟨T, 0, none⟩), .pointer (some ⟨Q, 0, none⟩), ud, undef, .bool false, .pointer (some ⟨P1, 0, none⟩), .int .i64 e1, .pointer (some ⟨P2, 0, none⟩), .int .i64 e1, .pointer (some ⟨P3, 0, none⟩), .int .i64 e2, .pointer (some ⟨P4, 0, none⟩), .int .i64 e2, .pointer (some ⟨P5, 0, none⟩), .int .i64 e3, .pointer (some ⟨P6, 0, none⟩), .int .i64 e3, .pointer (some ⟨P7, 0, none⟩), .int .i64 e4, .pointer (some ⟨P8, 0, none⟩), .int .i64 e4, .agg D, .bool true, .bool false, .bool false, .agg E, .bool true, .bool false, .bool false, .bool false, .agg C3, .bool true, .bool false, .bool false, .bool false, .slice ao2 n2 cap2, .int .i64 (n2 : Int), .bool false, .bool false, .bool false, .slice ao2 n2 cap2, .bool true, .bool false, .bool false, .bool false, .slice ao2 n2 cap2, .bool true, .bool false, .bool false, .bool false, .pointer (some ⟨T, 2, none⟩), .slice a8 n8 cT, .slice ao2 n2 cap2, .slice aH 0 cH, .int .i64 0, .bool false, .bool false, .bool false, .agg D, .agg E, .slice ao2 n2 cap2, .bool true, .bool false, .bool false, undef, .tuple #[.agg CF1, .int .i64 e1], .agg D, .agg C3, .agg G, .int .i64 a5, .tuple #[.agg CF1, .int .i64 e1], .agg CF1, .int .i64 e1, .tuple #[.agg CF2, .int .i64 e1], .agg E, .agg C3, .agg G, .int .i64 a5, .tuple #[.agg CF2, .int .i64 e1], .agg CF2, .int .i64 e1, .tuple #[.agg CF3, .int .i64 e2], .agg D, .agg C3, .agg G, .int .i64 a5, .tuple #[.agg CF3, .int .i64 e2], .agg CF3, .int .i64 e2, .tuple #[.agg CF4, .int .i64 e2], .agg E, .agg C3, .agg G, .int .i64 a5, .tuple #[.agg CF4, .int .i64 e2], .agg CF4, .int .i64 e2, .tuple #[.agg CF5, .int .i64 e3], .agg D, .agg C3, .pointer (some ⟨Q, 0, none⟩), .int .u64 rc, .bool a6, .tuple #[.agg CF5, .int .i64 e3], .agg CF5, .int .i64 e3, .tuple #[.agg CF6, .int .i64 e3], .agg E, .agg C3, .pointer (some ⟨Q, 0, none⟩), .int .u64 rc, .bool a6, .tuple #[.agg CF6, .int .i64 e3], .agg CF6, .int .i64 e3, .tuple #[.agg CF7, .int .i64 e4], .agg D, .agg C3, .agg G, .tuple #[.agg CF7, .int .i64 e4], .agg CF7, .int .i64 e4, .tuple #[.agg CF8, .int .i64 e4], .agg E, .agg C3, .agg G, .tuple #[.agg CF8, .int .i64 e4], .agg CF8, .int .i64 e4, .agg CF1, .agg CF2, ud, ud, ud, ud, ud, ud, ud, ud, ud, ud, ud, ud, ud, ud, ud, ud, ud, ud, ud, ud, ud, ud, ud, ud, ud, ud, ud, ud, ud, ud, ud, ud, ud, ud, ud, ud, ud, ud, ud, ud, undef], defers := [] }) (obs := [.load 43 P1 0 (.agg CF1), .load 43 P2 0 (.agg CF2)]) (n := 42) (by kernel_rfl) (by kernel_rfl) ⟨ob_loadb (fun _ h => hP1.next h) Tryz.underlying43 (by kernel_rfl) (size40C zG1), ob_loadb (fun _ h => hP2.next h) Tryz.underlying43 (by kernel_rfl) (size40C zG2), trivial⟩ ?_
         refine wpAnyH_callL (i := 2) (fuel := 41) (f := 16) (vs := [.agg CF1, .agg CF2]) (d := some 141) (by kernel_rfl) (by kernel_rfl) (by kernel_rfl) Tryz.call16 ((rsameOne_any (oG1.next hS) (oG2.next hS)).yes rfl) ?_
         rintro e r1 ⟨rfl, hr1⟩
         have hS1 : Below V8.heap.size V8 r1 := hS.trans (hr1.mono hS.size)
         refine ⟨_, rfl, hS1, ?_⟩
         refine wpAnyH_sym (by kernel_rfl) (fun _ _ _ _ _ h => h) hS1 [(3, none), (4, none), (5, none), (6, some (.bool true)), (7, none), (8, none), (9, some (.agg CF3)), (10, some (.agg CF4))] (l' := #[true, true, true, true, true, true, true, true, true, true, true, false, false, false, false, false, false, false, false, false, false, false, false, false, false, false, false, false, false, false, false, false, false, false, false, false, false, false, false, false, false, false, false, false]) (a' := { tmps := #[.agg D, .agg E, .slice ao2 n2 cap2, .agg C3, .agg G, .int .i64 a5, .bool a6, .pointer (some ⟨B, 0, none⟩), .pointer (some ⟨V, 0, none⟩), undef, .pointer (some ⟨T, 0, none⟩), .pointer (some ⟨Q, 0, none⟩), ud, undef, .bool false, .pointer (some ⟨P1, 0, none⟩), .int .i64 e1, .pointer (some ⟨P2, 0, none⟩), .int .i64 e1, .pointer (some ⟨P3, 0, none⟩), .int .i64 e2, .pointer (some ⟨P4, 0, none⟩), .int .i64 e2, .pointer (some ⟨P5, 0, none⟩), .int .i64 e3, .pointer (some ⟨P6, 0, none⟩), .int .i64 e3, .pointer (some ⟨P7, 0, none⟩), .int .i64 e4, .pointer (some ⟨P8, 0, none⟩), .int .i64 e4, .agg D, .bool true, .bool false, .bool false, .agg E, .bool true, .bool false, .bool false, .bool false, .agg C3, .bool true, .bool false, .bool false, .bool false, .slice ao2 n2 cap2, .int .i64 (n2 : Int), .bool false, .bool false, .bool false, .slice ao2 n2 cap2, .bool true, .bool false, .bool false, .bool false, .slice ao2 n2 cap2, .bool true, .bool false, .bool false, .bool false, .pointer (some ⟨T, 2, none⟩), .slice a8 n8 cT, .slice ao2 n2 cap2, .slice aH 0 cH, .int .i64 0, .bool false, .bool false, .bool false, .agg D, .agg E, .slice ao2 n2 cap2, .bool true, .bool false, .bool false, undef, .tuple #[.agg CF1, .int .i64 e1], .agg D, .agg C3, .agg G, .int .i64 a5, .tuple #[.agg CF1, .int .i64 e1], .agg CF1, .int .i64 e1, .tuple #[.agg CF2, .int .i64 e1], .agg E, .agg C3, .agg G, .int .i64 a5, .tuple #[.agg CF2, .int .i64 e1], .agg CF2, .int .i64 e1, .tuple #[.agg CF3, .int .i64 e2], .agg D, .agg C3, .agg G, .int .i64 a5, .tuple #[.agg CF3, .int .i64 e2], .agg CF3, .int .i64 e2, .tuple #[.agg CF4, .int .i64 e2], .agg E, .agg C3, .agg G, .int .i64 a5, .tuple #[.agg CF4, .int .i64 e2], .agg CF4, .int .i64 e2, .tuple #[.agg CF5, .int .i64 e3], .agg D, .agg C3, .pointer (some ⟨Q, 0, none⟩), .int .u64 rc, .bool a6, .tuple #[.agg CF5, .int .i64 e3], .agg CF5, .int .i64 e3, .tuple #[.agg CF6, .int .i64 e3], .agg E, .agg C3, .pointer (some ⟨Q, 0, none⟩), .int .u64 rc, .bool a6, .tuple #[.agg CF6, .int .i64 e3], .agg CF6, .int .i64 e3, .tuple #[.agg CF7, .int .i64 e4], .agg D, .agg C3, .agg G, .tuple #[.agg CF7, .int .i64 e4], .agg CF7, .int .i64 e4, .tuple #[.agg CF8, .int .i64 e4], .agg E, .agg C3, .agg G, .tuple #[.agg CF8, .int .i64 e4], .agg CF8, .int .i64 e4, .agg CF1, .agg CF2, .bool true, .bool true, .int .i64 e1, .int .i64 e1, .bool true, .bool true, .bool true, .agg CF3, .agg CF4, ud, ud, ud, ud, ud, ud, ud, ud, ud, ud, ud, ud, ud, ud, ud, ud, ud, ud, ud, ud, ud, ud, ud, ud, ud, ud, ud, ud, ud, ud, ud, undef], defers := [] }) (obs := [.test .eql 47 (.tmp 143) (.tmp 144) (.int .i64 e1) (.int .i64 e1) (.bool true), .load 43 P3 0 (.agg CF3), .load 43 P4 0 (.agg CF4)]) (n := 33) (by kernel_rfl) (by kernel_rfl) ⟨ob_yes (fun _ => eqg_int _ _ _ _ _ _) (show Hid (_ = _) from rfl), ob_loadb (fun _ h => hP3.next h) Tryz.underlying43 (by kernel_rfl) (size40C zG3), ob_loadb (fun _ h => hP4.next h) Tryz.underlying43 (by kernel_rfl) (size40C zG4), trivial⟩ ?_
         refine wpAnyH_callL (i := 11) (fuel := 32) (f := 16) (vs := [.agg CF3, .agg CF4]) (d := some 150) (by kernel_rfl) (by kernel_rfl) (by kernel_rfl) Tryz.call16 ((rsameOne_any (oG3.next hS1) (oG4.next hS1)).yes rfl) ?_
         rintro e r2 ⟨rfl, hr2⟩
         have hS2 : Below V8.heap.size V8 r2 := hS1.trans (hr2.mono hS1.size)
         refine ⟨_, rfl, hS2, ?_⟩
         refine wpAnyH_sym (by kernel_rfl) (fun _ _ _ _ _ h => h) hS2 [(12, none), (13, none), (14, none), (15, none), (16, some (.bool true)), (17, none), (18, none), (19, some (.agg CF5)), (20, some (.agg CF6))] (l' := #[true, true, true, true, true, true, true, true, true, true, true, true, true, true, true, true, true, true, true, true, true, false, false, false, false, false, false, false, false, false, false, false, false, false, false, false, false, false, false, false, false, false, false, false]) (a' := { tmps := #[.agg D, .agg E, .slice ao2 n2 cap2, .agg C3, .agg G, .int .i64 a5, .bool a6, .pointer (some ⟨B, 0, none⟩), .pointer (some ⟨V, 0, none⟩), undef, .pointer (some ⟨T, 0, none⟩), .pointer (some ⟨Q, 0, none⟩), ud, undef, .bool false, .pointer (some ⟨P1, 0, none⟩), .int .i64 e1, .pointer (some ⟨P2, 0, none⟩), .int .i64 e1, .pointer (some ⟨P3, 0, none⟩), .int .i64 e2, .pointer (some ⟨P4, 0, none⟩), .int .i64 e2, .pointer (some ⟨P5, 0, none⟩), .int .i64 e3, .pointer (some ⟨P6, 0, none⟩), .int .i64 e3, .pointer (some ⟨P7, 0, none⟩), .int .i64 e4, .pointer (some ⟨P8, 0, none⟩), .int .i64 e4, .agg D, .bool true, .bool false, .bool false, .agg E, .bool true, .bool false, .bool false, .bool false, .agg C3, .bool true, .bool false, .bool false, .bool false, .slice ao2 n2 cap2, .int .i64 (n2 : Int), .bool false, .bool false, .bool false, .slice ao2 n2 cap2, .bool true, .bool false, .bool false, .bool false, .slice ao2 n2 cap2, .bool true, .bool false, .bool false, .bool false, .pointer (some ⟨T, 2, none⟩), .slice a8 n8 cT, .slice ao2 n2 cap2, .slice aH 0 cH, .int .i64 0, .bool false, .bool false, .bool false, .agg D, .agg E, .slice ao2 n2 cap2, .bool true, .bool false, .bool false, undef, .tuple #[.agg CF1, .int .i64 e1], .agg D, .agg C3, .agg G, .int .i64 a5, .tuple #[.agg CF1, .int .i64 e1], .agg CF1, .int .i64 e1, .tuple #[.agg CF2, .int .i64 e1], .agg E, .agg C3, .agg G, .int .i64 a5, .tuple #[.agg CF2, .int .i64 e1], .agg CF2, .int .i64 e1, .tuple #[.agg CF3, .int .i64 e2], .agg D, .agg C3, .agg G, .int .i64 a5, .tuple #[.agg CF3, .int .i64 e2], .agg CF3, .int .i64 e2, .tuple #[.agg CF4, .int .i64 e2], .agg E, .agg C3, .agg G, .int .i64 a5, .tuple #[.agg CF4, .int .i64 e2], .agg CF4, .int .i64 e2, .tuple #[.agg CF5, .int .i64 e3], .agg D, .agg C3, .pointer (some ⟨Q, 0, none⟩), .int .u64 rc, .bool a6, .tuple #[.agg CF5, .int .i64 e3], .agg CF5, .int .i64 e3, .tuple #[.agg CF6, .int .i64 e3], .agg E, .agg C3, .pointer (some ⟨Q, 0, none⟩), .int .u64 rc, .bool a6, .tuple #[.agg CF6, .int .i64 e3], .agg CF6, .int .i64 e3, .tuple #[.agg CF7, .int .i64 e4], .agg D, .agg C3, .agg G, .tuple #[.agg CF7, .int .i64 e4], .agg CF7, .int .i64 e4, .tuple #[.agg CF8, .int .i64 e4], .agg E, .agg C3, .agg G, .tuple #[.agg CF8, .int .i64 e4], .agg CF8, .int .i64 e4, .agg CF1, .agg CF2, .bool true, .bool true, .int .i64 e1, .int .i64 e1, .bool true, .bool true, .bool true, .agg CF3, .agg CF4, .bool true, .bool true, .bool true, .int .i64 e2, .int .i64 e2, .bool true, .bool true, .bool true, .agg CF5, .agg CF6, ud, ud, ud, ud, ud, ud, ud, ud, ud, ud, ud, ud, ud, ud, ud, ud, ud, ud, ud, ud, ud, undef], defers := [] }) (obs := [.test .eql 47 (.tmp 153) (.tmp 154) (.int .i64 e2) (.int .i64 e2) (.bool true), .load 43 P5 0 (.agg CF5), .load 43 P6 0 (.agg CF6)]) (n := 23) (by kernel_rfl) (by kernel_rfl) ⟨ob_yes (fun _ => eqg_int _ _ _ _ _ _) (show Hid (_ = _) from rfl), ob_loadb (fun _ h => hP5.next h) Tryz.underlying43 (by kernel_rfl) (size40C zG5), ob_loadb (fun _ h => hP6.next h) Tryz.underlying43 (by kernel_rfl) (size40C zG6), trivial⟩ ?_
         refine wpAnyH_callL (i := 21) (fuel := 22) (f := 16) (vs := [.agg CF5, .agg CF6]) (d := some 160) (by kernel_rfl) (by kernel_rfl) (by kernel_rfl) Tryz.call16 ((rsameOne_any (oG5.next hS2) (oG6.next hS2)).yes rfl) ?_
         rintro e r3 ⟨rfl, hr3⟩
         have hS3 : Below V8.heap.size V8 r3 := hS2.trans (hr3.mono hS2.size)
         refine ⟨_, rfl, hS3, ?_⟩
         refine wpAnyH_sym (by kernel_rfl) (fun _ _ _ _ _ h => h) hS3 [(22, none), (23, none), (24, none), (25, none), (26, some (.bool true)), (27, none), (28, none), (29, none), (30, none), (31, some (.bool true)), (32, none), (33, none), (34, some (.agg CF7)), (36, some (.agg CF8))] (l' := #[true, true, true, true, true, true, true, true, true, true, true, true, true, true, true, true, true, true, true, true, true, true, true, true, true, true, true, true, true, true, true, true, true, true, true, false, true, false, false, false, false, false, false, false]) (a' := { tmps := #[.agg D, .agg E, .slice ao2 n2 cap2, .agg C3, .agg G, .int .i64 a5, .bool a6, .pointer (some ⟨B, 0, none⟩), .pointer (some ⟨V, 0, none⟩), undef, .pointer (some ⟨T, 0, none⟩), .pointer (some ⟨Q, 0, none⟩), ud, undef, .bool false, .pointer (some ⟨P1, 0, none⟩), .int .i64 e1, .pointer (some ⟨P2, 0, none⟩), .int .i64 e1, .pointer (some ⟨P3, 0, none⟩), .int .i64 e2, .pointer (some ⟨P4, 0, none⟩), .int .i64 e2, .pointer (some ⟨P5, 0, none⟩), .int .i64 e3, .pointer (some ⟨P6, 0, none⟩), .int .i64 e3, .pointer (some ⟨P7, 0, none⟩), .int .i64 e4, .pointer (some ⟨P8, 0, none⟩), .int .i64 e4, .agg D, .bool true, .bool false, .bool false, .agg E, .bool true, .bool false, .bool false, .bool false, .agg C3, .bool true, .bool false, .bool false, .bool false, .slice ao2 n2 cap2, .int .i64 (n2 : Int), .bool false, .bool false, .bool false, .slice ao2 n2 cap2, .bool true, .bool false, .bool false, .bool false, .slice ao2 n2 cap2, .bool true, .bool false, .bool false, .bool false, .pointer (some ⟨T, 2, none⟩), .slice a8 n8 cT, .slice ao2 n2 cap2, .slice aH 0 cH, .int .i64 0, .bool false, .bool false, .bool false, .agg D, .agg E, .slice ao2 n2 cap2, .bool true, .bool false, .bool false, undef, .tuple #[.agg CF1, .int .i64 e1], .agg D, .agg C3, .agg G, .int .i64 a5, .tuple #[.agg CF1, .int .i64 e1], .agg CF1, .int .i64 e1, .tuple #[.agg CF2, .int .i64 e1], .agg E, .agg C3, .agg G, .int .i64 a5, .tuple #[.agg CF2, .int .i64 e1], .agg CF2, .int .i64 e1, .tuple #[.agg CF3, .int .i64 e2], .agg D, .agg C3, .agg G, .int .i64 a5, .tuple #[.agg CF3, .int .i64 e2], .agg CF3, .int .i64 e2, .tuple #[.agg CF4, .int .i64 e2], .agg E, .agg C3, .agg G, .int .i64 a5, .tuple #[.agg CF4, .int .i64 e2], .agg CF4, .int .i64 e2, .tuple #[.agg CF5, .int .i64 e3], .agg D, .agg C3, .pointer (some ⟨Q, 0, none⟩), .int .u64 rc, .bool a6, .tuple #[.agg CF5, .int .i64 e3], .agg CF5, .int .i64 e3, .tuple #[.agg CF6, .int .i64 e3], .agg E, .agg C3, .pointer (some ⟨Q, 0, none⟩), .int .u64 rc, .bool a6, .tuple #[.agg CF6, .int .i64 e3], .agg CF6, .int .i64 e3, .tuple #[.agg CF7, .int .i64 e4], .agg D, .agg C3, .agg G, .tuple #[.agg CF7, .int .i64 e4], .agg CF7, .int .i64 e4, .tuple #[.agg CF8, .int .i64 e4], .agg E, .agg C3, .agg G, .tuple #[.agg CF8, .int .i64 e4], .agg CF8, .int .i64 e4, .agg CF1, .agg CF2, .bool true, .bool true, .int .i64 e1, .int .i64 e1, .bool true, .bool true, .bool true, .agg CF3, .agg CF4, .bool true, .bool true, .bool true, .int .i64 e2, .int .i64 e2, .bool true, .bool true, .bool true, .agg CF5, .agg CF6, .bool true, .bool true, .bool true, .int .i64 e3, .int .i64 e3, .bool true, .bool true, .bool true, .int .i64 e4, .int .i64 e4, .bool true, .bool true, .bool true, .agg CF7, undef, .agg CF8, ud, ud, ud, ud, ud, undef], defers := [] }) (obs := [.test .eql 47 (.tmp 163) (.tmp 164) (.int .i64 e3) (.int .i64 e3) (.bool true), .test .eql 47 (.tmp 168) (.tmp 169) (.int .i64 e4) (.int .i64 e4) (.bool true), .load 43 P7 0 (.agg CF7), .load 43 P8 0 (.agg CF8)]) (n := 8) (by kernel_rfl) (by kernel_rfl) ⟨ob_yes (fun _ => eqg_int _ _ _ _ _ _) (show Hid (_ = _) from rfl), ob_yes (fun _ => eqg_int _ _ _ _ _ _) (show Hid (_ = _) from rfl), ob_loadb (fun _ h => hP7.next h) Tryz.underlying43 (by kernel_rfl) (size40C zG7), ob_loadb (fun _ h => hP8.next h) Tryz.underlying43 (by kernel_rfl) (size40C zG8), trivial⟩ ?_
         refine wpAnyH_callL (i := 35) (fuel := 7) (f := 21) (vs := [.agg CF7]) (d := some 174) (by kernel_rfl) (by kernel_rfl) (by kernel_rfl) Tryz.call21 (rhead_any (oG7.next hS3)) ?_
         rintro e r4 ⟨CA, rfl, oA, hr4⟩
         have hS4 : Below V8.heap.size V8 r4 := hS3.trans (hr4.mono hS3.size)
         refine ⟨_, rfl, hS4, ?_⟩
         refine wpAnyH_callL (i := 37) (fuel := 6) (f := 21) (vs := [.agg CF8]) (d := some 176) (by kernel_rfl) (by kernel_rfl) (by kernel_rfl) Tryz.call21 (rhead_any (oG8.next hS4)) ?_
         rintro e r5 ⟨CB, rfl, oB, hr5⟩
         have hS5 : Below V8.heap.size V8 r5 := hS4.trans (hr5.mono hS4.size)
         refine ⟨_, rfl, hS5, ?_⟩
         refine wpAnyH_callL (i := 38) (fuel := 5) (f := 16) (vs := [.agg CA, .agg CB]) (d := some 177) (by kernel_rfl) (by kernel_rfl) (by kernel_rfl) Tryz.call16 ((rsameOne_any (oA.next hr5) oB).yes KL.out) ?_
         rintro e r6 ⟨rfl, hr6⟩
         have hS6 : Below V8.heap.size V8 r6 := hS5.trans (hr6.mono hS5.size)
         refine ⟨_, rfl, hS6, ?_⟩
         refine wpAnyH_sym (by kernel_rfl) (fun _ _ _ _ _ h => h) hS6 [(39, none), (40, none)] (l' := #[true, true, true, true, true, true, true, true, true, true, true, true, true, true, true, true, true, true, true, true, true, true, true, true, true, true, true, true, true, true, true, true, true, true, true, true, true, true, true, true, true, false, false, false]) (a' := { tmps := #[.agg D, .agg E, .slice ao2 n2 cap2, .agg C3, .agg G, .int .i64 a5, .bool a6, .pointer (some ⟨B, 0, none⟩), .pointer (some ⟨V, 0, none⟩), undef, .pointer (some ⟨T, 0, none⟩), .pointer (some ⟨Q, 0, none⟩), ud, undef, .bool false, .pointer (some ⟨P1, 0, none⟩), .int .i64 e1, .pointer (some ⟨P2, 0, none⟩), .int .i64 e1, .pointer (some ⟨P3, 0, none⟩), .int .i64 e2, .pointer (some ⟨P4, 0, none⟩), .int .i64 e2, .pointer (some ⟨P5, 0, none⟩), .int .i64 e3, .pointer (some ⟨P6, 0, none⟩), .int .i64 e3, .pointer (some ⟨P7, 0, none⟩), .int .i64 e4, .pointer (some ⟨P8, 0, none⟩), .int .i64 e4, .agg D, .bool true, .bool false, .bool false, .agg E, .bool true, .bool false, .bool false, .bool false, .agg C3, .bool true, .bool false, .bool false, .bool false, .slice ao2 n2 cap2, .int .i64 (n2 : Int), .bool false, .bool false, .bool false, .slice ao2 n2 cap2, .bool true, .bool false, .bool false, .bool false, .slice ao2 n2 cap2, .bool true, .bool false, .bool false, .bool false, .pointer (some ⟨T, 2, none⟩), .slice a8 n8 cT, .slice ao2 n2 cap2, .slice aH 0 cH, .int .i64 0, .bool false, .bool false, .bool false, .agg D, .agg E, .slice ao2 n2 cap2, .bool true, .bool false, .bool false, undef, .tuple #[.agg CF1, .int .i64 e1], .agg D, .agg C3, .agg G, .int .i64 a5, .tuple #[.agg CF1, .int .i64 e1], .agg CF1, .int .i64 e1, .tuple #[.agg CF2, .int .i64 e1], .agg E, .agg C3, .agg G, .int .i64 a5, .tuple #[.agg CF2, .int .i64 e1], .agg CF2, .int .i64 e1, .tuple #[.agg CF3, .int .i64 e2], .agg D, .agg C3, .agg G, .int .i64 a5, .tuple #[.agg CF3, .int .i64 e2], .agg CF3, .int .i64 e2, .tuple #[.agg CF4, .int .i64 e2], .agg E, .agg C3, .agg G, .int .i64 a5, .tuple #[.agg CF4, .int .i64 e2], .agg CF4, .int .i64 e2, .tuple #[.agg CF5, .int .i64 e3], .agg D, .agg C3, .pointer (some ⟨Q, 0, none⟩), .int .u64 rc, .bool a6, .tuple #[.agg CF5, .int .i64 e3], .agg CF5, .int .i64 e3, .tuple #[.agg CF6, .int .i64 e3], .agg E, .agg C3, .pointer (some ⟨Q, 0, none⟩), .int .u64 rc, .bool a6, .tuple #[.agg CF6, .int .i64 e3], .agg CF6, .int .i64 e3, .tuple #[.agg CF7, .int .i64 e4], .agg D, .agg C3, .agg G, .tuple #[.agg CF7, .int .i64 e4], .agg CF7, .int .i64 e4, .tuple #[.agg CF8, .int .i64 e4], .agg E, .agg C3, .agg G, .tuple #[.agg CF8, .int .i64 e4], .agg CF8, .int .i64 e4, .agg CF1, .agg CF2, .bool true, .bool true, .int .i64 e1, .int .i64 e1, .bool true, .bool true, .bool true, .agg CF3, .agg CF4, .bool true, .bool true, .bool true, .int .i64 e2, .int .i64 e2, .bool true, .bool true, .bool true, .agg CF5, .agg CF6, .bool true, .bool true, .bool true, .int .i64 e3, .int .i64 e3, .bool true, .bool true, .bool true, .int .i64 e4, .int .i64 e4, .bool true, .bool true, .bool true, .agg CF7, .agg CA, .agg CF8, .agg CB, .bool true, .bool true, .bool true, ud, undef], defers := [] }) (obs := []) (n := 3) (by kernel_rfl) (by kernel_rfl) trivial ?_
         refine wpAnyH_callL (i := 41) (fuel := 2) (f := 7) (vs := []) (d := some 180) (by kernel_rfl) (by kernel_rfl) (by kernel_rfl) Tryz.call7 (awake17_any _) ?_
         rintro e r7 ⟨rfl, hr7⟩
         have hS7 : Below V8.heap.size V8 r7 := hS6.trans (hr7.mono hS6.size)
         refine ⟨_, rfl, hS7, ?_⟩
         refine wpAnyH_sym (by kernel_rfl) (fun _ _ _ _ _ h => h) hS7 [(42, none), (43, none)] (l' := #[true, true, true, true, true, true, true, true, true, true, true, true, true, true, true, true, true, true, true, true, true, true, true, true, true, true, true, true, true, true, true, true, true, true, true, true, true, true, true, true, true, true, true, true]) (a' := { tmps := #[.agg D, .agg E, .slice ao2 n2 cap2, .agg C3, .agg G, .int .i64 a5, .bool a6, .pointer (some ⟨B, 0, none⟩), .pointer (some ⟨V, 0, none⟩), undef, .pointer (some ⟨T, 0, none⟩), .pointer (some ⟨Q, 0, none⟩), ud, undef, .bool true, .pointer (some ⟨P1, 0, none⟩), .int .i64 e1, .pointer (some ⟨P2, 0, none⟩), .int .i64 e1, .pointer (some ⟨P3, 0, none⟩), .int .i64 e2, .pointer (some ⟨P4, 0, none⟩), .int .i64 e2, .pointer (some ⟨P5, 0, none⟩), .int .i64 e3, .pointer (some ⟨P6, 0, none⟩), .int .i64 e3, .pointer (some ⟨P7, 0, none⟩), .int .i64 e4, .pointer (some ⟨P8, 0, none⟩), .int .i64 e4, .agg D, .bool true, .bool false, .bool false, .agg E, .bool true, .bool false, .bool false, .bool false, .agg C3, .bool true, .bool false, .bool false, .bool false, .slice ao2 n2 cap2, .int .i64 (n2 : Int), .bool false, .bool false, .bool false, .slice ao2 n2 cap2, .bool true, .bool false, .bool false, .bool false, .slice ao2 n2 cap2, .bool true, .bool false, .bool false, .bool false, .pointer (some ⟨T, 2, none⟩), .slice a8 n8 cT, .slice ao2 n2 cap2, .slice aH 0 cH, .int .i64 0, .bool false, .bool false, .bool false, .agg D, .agg E, .slice ao2 n2 cap2, .bool true, .bool false, .bool false, undef, .tuple #[.agg CF1, .int .i64 e1], .agg D, .agg C3, .agg G, .int .i64 a5, .tuple #[.agg CF1, .int .i64 e1], .agg CF1, .int .i64 e1, .tuple #[.agg CF2, .int .i64 e1], .agg E, .agg C3, .agg G, .int .i64 a5, .tuple #[.agg CF2, .int .i64 e1], .agg CF2, .int .i64 e1, .tuple #[.agg CF3, .int .i64 e2], .agg D, .agg C3, .agg G, .int .i64 a5, .tuple #[.agg CF3, .int .i64 e2], .agg CF3, .int .i64 e2, .tuple #[.agg CF4, .int .i64 e2], .agg E, .agg C3, .agg G, .int .i64 a5, .tuple #[.agg CF4, .int .i64 e2], .agg CF4, .int .i64 e2, .tuple #[.agg CF5, .int .i64 e3], .agg D, .agg C3, .pointer (some ⟨Q, 0, none⟩), .int .u64 rc, .bool a6, .tuple #[.agg CF5, .int .i64 e3], .agg CF5, .int .i64 e3, .tuple #[.agg CF6, .int .i64 e3], .agg E, .agg C3, .pointer (some ⟨Q, 0, none⟩), .int .u64 rc, .bool a6, .tuple #[.agg CF6, .int .i64 e3], .agg CF6, .int .i64 e3, .tuple #[.agg CF7, .int .i64 e4], .agg D, .agg C3, .agg G, .tuple #[.agg CF7, .int .i64 e4], .agg CF7, .int .i64 e4, .tuple #[.agg CF8, .int .i64 e4], .agg E, .agg C3, .agg G, .tuple #[.agg CF8, .int .i64 e4], .agg CF8, .int .i64 e4, .agg CF1, .agg CF2, .bool true, .bool true, .int .i64 e1, .int .i64 e1, .bool true, .bool true, .bool true, .agg CF3, .agg CF4, .bool true, .bool true, .bool true, .int .i64 e2, .int .i64 e2, .bool true, .bool true, .bool true, .agg CF5, .agg CF6, .bool true, .bool true, .bool true, .int .i64 e3, .int .i64 e3, .bool true, .bool true, .bool true, .int .i64 e4, .int .i64 e4, .bool true, .bool true, .bool true, .agg CF7, .agg CA, .agg CF8, .agg CB, .bool true, .bool true, .bool true, .bool true, .bool true], defers := [] }) (obs := []) (n := 0) (by kernel_rfl) (by kernel_rfl) trivial ?_
         refine wpAnyH_done (by kernel_rfl) ?_ _
         go_wp2
         go_ret
         exact ⟨rfl, hk.trans (hS7.mono hk.size)⟩
        ·obtain ⟨D, hD⟩ : ∃ D : Array Value, D = #[.int .i64 t0, .int .u64 (ke0 : Int), .int .u64 ro0, .slice ao0 n0 cap0] := ⟨_, rfl⟩
         obtain ⟨E, hE⟩ : ∃ E : Array Value, E = #[.int .i64 t1, .int .u64 (ke1 : Int), .int .u64 ro1, .slice ao1 n1 cap1] := ⟨_, rfl⟩
         simp only [← hD, ← hE] at hzg hzg' hfw hfv hal
         rw [← hD, ← hE]
         clear hD hE
         go_enter Tryz.func4, Tryz.ntmps4
         go_wp2_with (first
          | go_skip
          | (with_reducible refine wpList_box rfl 25 (.tmp 0) rfl D rfl ?_; intro B W1 hN1 hB hk)
          | (with_reducible refine wpList_box rfl 25 (.tmp 1) rfl E rfl ?_; intro V W2 hN2 hV hk2; replace hB := hB.next hk2; replace hk := hk.trans (hk2.mono hk.size); clear hk2)
          | (with_reducible refine wpList_box rfl 43 _ rfl C3 rfl ?_; intro T W3 hN3 hT hk3; replace hB := hB.next hk3; replace hV := hV.next hk3; replace hk := hk.trans (hk3.mono hk.size); clear hk3)
          | (with_reducible refine wpList_box rfl 32 _ rfl G rfl ?_; intro Q W8 hN8 hQ hk8; replace hB := hB.next hk8; replace hV := hV.next hk8; replace hT := hT.next hk8; replace hk := hk.trans (hk8.mono hk.size); clear hk8)
          | (with_reducible refine wpList_loadb (by with_unfolding_all rfl) 25 _ rfl B rfl D hB _ Tryz.underlying25 (by kernel_rfl) hzg ?_)
          | (with_reducible refine wpList_loadb (by with_unfolding_all rfl) 25 _ rfl V rfl E hV _ Tryz.underlying25 (by kernel_rfl) hzg' ?_)
          | (with_reducible refine wpList_loadb (by with_unfolding_all rfl) 43 _ rfl T rfl C3 hT _ Tryz.underlying43 (by kernel_rfl) (size40C hz) ?_)
          | (with_reducible refine wpList_load1 (by with_unfolding_all rfl) _ _ rfl T _ rfl _ _ hT _ e8 ga0 ?_)
          | (go_at_call 5; (with_reducible refine ((hfw _ hk).yes hF).mono ?_); rintro e w40 ⟨rfl, hb40⟩; replace hB := hB.next hb40; replace hV := hV.next hb40; replace hT := hT.next hb40; replace hQ := hQ.next hb40; replace hk := hk.trans (hb40.mono hk.size); clear hb40)
          | (go_at_call 5; (with_reducible refine ((hfv _ hk).yes hF').mono ?_); rintro e w41 ⟨rfl, hb41⟩; replace hB := hB.next hb41; replace hV := hV.next hb41; replace hT := hT.next hb41; replace hQ := hQ.next hb41; replace hk := hk.trans (hb41.mono hk.size); clear hb41)
          | (go_at_call 6; (with_reducible refine ((hth _ hk).yes hR).mono ?_); rintro e w42 ⟨rfl, hb42⟩; replace hB := hB.next hb42; replace hV := hV.next hb42; replace hT := hT.next hb42; replace hQ := hQ.next hb42; replace hk := hk.trans (hb42.mono hk.size); clear hb42)
          | (go_at_call 17; (with_reducible refine (hfi _ hk).mono ?_); rintro e w43 ⟨rfl, hb43⟩; replace hB := hB.next hb43; replace hV := hV.next hb43; replace hT := hT.next hb43; replace hQ := hQ.next hb43; replace hk := hk.trans (hb43.mono hk.size); clear hb43)
          | (go_at_call 18; (with_reducible refine (hlq _ hk).mono ?_); rintro e w44 ⟨rfl, hb44⟩; replace hB := hB.next hb44; replace hV := hV.next hb44; replace hT := hT.next hb44; replace hQ := hQ.next hb44; replace hk := hk.trans (hb44.mono hk.size); clear hb44)
          | (go_at_call 19; (with_reducible refine (hhd _ hk).mono ?_); rintro e w45 ⟨aH, mH, cH, rfl, hH, hb45⟩; replace hB := hB.next hb45; replace hV := hV.next hb45; replace hT := hT.next hb45; replace hQ := hQ.next hb45; replace hk := hk.trans (hb45.mono hk.size); clear hb45; obtain rfl : mH = 0 := (hH.1).symm.trans ((HdM.hid_nil hfx1 hfW).2 hvi); clear hH)
          | (go_at_call 20; (with_reducible refine ((hal _ hk).no hA).mono ?_); rintro e w46 ⟨rfl, hb46⟩; replace hB := hB.next hb46; replace hV := hV.next hb46; replace hT := hT.next hb46; replace hQ := hQ.next hb46; replace hk := hk.trans (hb46.mono hk.size); clear hb46)
          | (go_at_call 7; (with_reducible refine (awake17_any _).mono ?_); rintro e w9 ⟨rfl, hb9⟩; replace hk := hk.trans (hb9.mono hk.size)))
         go_ret
         exact ⟨rfl, hk⟩
       ·obtain ⟨D, hD⟩ : ∃ D : Array Value, D = #[.int .i64 t0, .int .u64 (ke0 : Int), .int .u64 ro0, .slice ao0 n0 cap0] := ⟨_, rfl⟩
        obtain ⟨E, hE⟩ : ∃ E : Array Value, E = #[.int .i64 t1, .int .u64 (ke1 : Int), .int .u64 ro1, .slice ao1 n1 cap1] := ⟨_, rfl⟩
        simp only [← hD, ← hE] at hzg hzg' hfw hfv
        rw [← hD, ← hE]
        clear hD hE
        go_enter Tryz.func4, Tryz.ntmps4
        go_wp2_with (first
         | go_skip
         | (with_reducible refine wpList_box rfl 25 (.tmp 0) rfl D rfl ?_; intro B W1 hN1 hB hk)
         | (with_reducible refine wpList_box rfl 25 (.tmp 1) rfl E rfl ?_; intro V W2 hN2 hV hk2; replace hB := hB.next hk2; replace hk := hk.trans (hk2.mono hk.size); clear hk2)
         | (with_reducible refine wpList_box rfl 43 _ rfl C3 rfl ?_; intro T W3 hN3 hT hk3; replace hB := hB.next hk3; replace hV := hV.next hk3; replace hk := hk.trans (hk3.mono hk.size); clear hk3)
         | (with_reducible refine wpList_box rfl 32 _ rfl G rfl ?_; intro Q W8 hN8 hQ hk8; replace hB := hB.next hk8; replace hV := hV.next hk8; replace hT := hT.next hk8; replace hk := hk.trans (hk8.mono hk.size); clear hk8)
         | (with_reducible refine wpList_loadb (by with_unfolding_all rfl) 25 _ rfl B rfl D hB _ Tryz.underlying25 (by kernel_rfl) hzg ?_)
         | (with_reducible refine wpList_loadb (by with_unfolding_all rfl) 25 _ rfl V rfl E hV _ Tryz.underlying25 (by kernel_rfl) hzg' ?_)
         | (with_reducible refine wpList_loadb (by with_unfolding_all rfl) 43 _ rfl T rfl C3 hT _ Tryz.underlying43 (by kernel_rfl) (size40C hz) ?_)
         | (with_reducible refine wpList_load1 (by with_unfolding_all rfl) _ _ rfl T _ rfl _ _ hT _ e8 ga0 ?_)
         | (go_at_call 5; (with_reducible refine ((hfw _ hk).yes hF).mono ?_); rintro e w40 ⟨rfl, hb40⟩; replace hB := hB.next hb40; replace hV := hV.next hb40; replace hT := hT.next hb40; replace hQ := hQ.next hb40; replace hk := hk.trans (hb40.mono hk.size); clear hb40)
         | (go_at_call 5; (with_reducible refine ((hfv _ hk).yes hF').mono ?_); rintro e w41 ⟨rfl, hb41⟩; replace hB := hB.next hb41; replace hV := hV.next hb41; replace hT := hT.next hb41; replace hQ := hQ.next hb41; replace hk := hk.trans (hb41.mono hk.size); clear hb41)
         | (go_at_call 6; (with_reducible refine ((hth _ hk).yes hR).mono ?_); rintro e w42 ⟨rfl, hb42⟩; replace hB := hB.next hb42; replace hV := hV.next hb42; replace hT := hT.next hb42; replace hQ := hQ.next hb42; replace hk := hk.trans (hb42.mono hk.size); clear hb42)
         | (go_at_call 17; (with_reducible refine (hfi _ hk).mono ?_); rintro e w43 ⟨rfl, hb43⟩; replace hB := hB.next hb43; replace hV := hV.next hb43; replace hT := hT.next hb43; replace hQ := hQ.next hb43; replace hk := hk.trans (hb43.mono hk.size); clear hb43)
         | (go_at_call 18; (with_reducible refine (hlq _ hk).mono ?_); rintro e w44 ⟨rfl, hb44⟩; replace hB := hB.next hb44; replace hV := hV.next hb44; replace hT := hT.next hb44; replace hQ := hQ.next hb44; replace hk := hk.trans (hb44.mono hk.size); clear hb44)
         | (go_at_call 19; (with_reducible refine (hhd _ hk).mono ?_); rintro e w45 ⟨aH, mH, cH, rfl, hH, hb45⟩; replace hB := hB.next hb45; replace hV := hV.next hb45; replace hT := hT.next hb45; replace hQ := hQ.next hb45; replace hk := hk.trans (hb45.mono hk.size); clear hb45; have hpos : 0 < mH := Nat.pos_of_ne_zero (fun z => hvi ((HdM.hid_nil hfx1 hfW).1 (hH.1.trans z))); clear hH; have hpos2 : (0 : Int) < mH := (by omega))
         | (go_at_call 7; (with_reducible refine (awake17_any _).mono ?_); rintro e w9 ⟨rfl, hb9⟩; replace hk := hk.trans (hb9.mono hk.size)))
        go_ret
        exact ⟨rfl, hk⟩
      | false =>
       rw [hll] at hlq
       obtain ⟨D, hD⟩ : ∃ D : Array Value, D = #[.int .i64 t0, .int .u64 (ke0 : Int), .int .u64 ro0, .slice ao0 n0 cap0] := ⟨_, rfl⟩
       obtain ⟨E, hE⟩ : ∃ E : Array Value, E = #[.int .i64 t1, .int .u64 (ke1 : Int), .int .u64 ro1, .slice ao1 n1 cap1] := ⟨_, rfl⟩
       simp only [← hD, ← hE] at hzg hzg' hfw hfv
       rw [← hD, ← hE]
       clear hD hE
       go_enter Tryz.func4, Tryz.ntmps4
       go_wp2_with (first
        | go_skip
        | (with_reducible refine wpList_box rfl 25 (.tmp 0) rfl D rfl ?_; intro B W1 hN1 hB hk)
        | (with_reducible refine wpList_box rfl 25 (.tmp 1) rfl E rfl ?_; intro V W2 hN2 hV hk2; replace hB := hB.next hk2; replace hk := hk.trans (hk2.mono hk.size); clear hk2)
        | (with_reducible refine wpList_box rfl 43 _ rfl C3 rfl ?_; intro T W3 hN3 hT hk3; replace hB := hB.next hk3; replace hV := hV.next hk3; replace hk := hk.trans (hk3.mono hk.size); clear hk3)
        | (with_reducible refine wpList_box rfl 32 _ rfl G rfl ?_; intro Q W8 hN8 hQ hk8; replace hB := hB.next hk8; replace hV := hV.next hk8; replace hT := hT.next hk8; replace hk := hk.trans (hk8.mono hk.size); clear hk8)
        | (with_reducible refine wpList_loadb (by with_unfolding_all rfl) 25 _ rfl B rfl D hB _ Tryz.underlying25 (by kernel_rfl) hzg ?_)
        | (with_reducible refine wpList_loadb (by with_unfolding_all rfl) 25 _ rfl V rfl E hV _ Tryz.underlying25 (by kernel_rfl) hzg' ?_)
        | (with_reducible refine wpList_loadb (by with_unfolding_all rfl) 43 _ rfl T rfl C3 hT _ Tryz.underlying43 (by kernel_rfl) (size40C hz) ?_)
        | (with_reducible refine wpList_load1 (by with_unfolding_all rfl) _ _ rfl T _ rfl _ _ hT _ e8 ga0 ?_)
        | (go_at_call 5; (with_reducible refine ((hfw _ hk).yes hF).mono ?_); rintro e w40 ⟨rfl, hb40⟩; replace hB := hB.next hb40; replace hV := hV.next hb40; replace hT := hT.next hb40; replace hQ := hQ.next hb40; replace hk := hk.trans (hb40.mono hk.size); clear hb40)
        | (go_at_call 5; (with_reducible refine ((hfv _ hk).yes hF').mono ?_); rintro e w41 ⟨rfl, hb41⟩; replace hB := hB.next hb41; replace hV := hV.next hb41; replace hT := hT.next hb41; replace hQ := hQ.next hb41; replace hk := hk.trans (hb41.mono hk.size); clear hb41)
        | (go_at_call 6; (with_reducible refine ((hth _ hk).yes hR).mono ?_); rintro e w42 ⟨rfl, hb42⟩; replace hB := hB.next hb42; replace hV := hV.next hb42; replace hT := hT.next hb42; replace hQ := hQ.next hb42; replace hk := hk.trans (hb42.mono hk.size); clear hb42)
        | (go_at_call 17; (with_reducible refine (hfi _ hk).mono ?_); rintro e w43 ⟨rfl, hb43⟩; replace hB := hB.next hb43; replace hV := hV.next hb43; replace hT := hT.next hb43; replace hQ := hQ.next hb43; replace hk := hk.trans (hb43.mono hk.size); clear hb43)
        | (go_at_call 18; (with_reducible refine (hlq _ hk).mono ?_); rintro e w44 ⟨rfl, hb44⟩; replace hB := hB.next hb44; replace hV := hV.next hb44; replace hT := hT.next hb44; replace hQ := hQ.next hb44; replace hk := hk.trans (hb44.mono hk.size); clear hb44)
        | (go_at_call 7; (with_reducible refine (awake17_any _).mono ?_); rintro e w9 ⟨rfl, hb9⟩; replace hk := hk.trans (hb9.mono hk.size)))
       go_ret
       exact ⟨rfl, hk⟩
     | false =>
      rw [hft] at hfi
      obtain ⟨D, hD⟩ : ∃ D : Array Value, D = #[.int .i64 t0, .int .u64 (ke0 : Int), .int .u64 ro0, .slice ao0 n0 cap0] := ⟨_, rfl⟩
      obtain ⟨E, hE⟩ : ∃ E : Array Value, E = #[.int .i64 t1, .int .u64 (ke1 : Int), .int .u64 ro1, .slice ao1 n1 cap1] := ⟨_, rfl⟩
      simp only [← hD, ← hE] at hzg hzg' hfw hfv
      rw [← hD, ← hE]
      clear hD hE
      go_enter Tryz.func4, Tryz.ntmps4
      go_wp2_with (first
       | go_skip
       | (with_reducible refine wpList_box rfl 25 (.tmp 0) rfl D rfl ?_; intro B W1 hN1 hB hk)
       | (with_reducible refine wpList_box rfl 25 (.tmp 1) rfl E rfl ?_; intro V W2 hN2 hV hk2; replace hB := hB.next hk2; replace hk := hk.trans (hk2.mono hk.size); clear hk2)
       | (with_reducible refine wpList_box rfl 43 _ rfl C3 rfl ?_; intro T W3 hN3 hT hk3; replace hB := hB.next hk3; replace hV := hV.next hk3; replace hk := hk.trans (hk3.mono hk.size); clear hk3)
       | (with_reducible refine wpList_box rfl 32 _ rfl G rfl ?_; intro Q W8 hN8 hQ hk8; replace hB := hB.next hk8; replace hV := hV.next hk8; replace hT := hT.next hk8; replace hk := hk.trans (hk8.mono hk.size); clear hk8)
       | (with_reducible refine wpList_loadb (by with_unfolding_all rfl) 25 _ rfl B rfl D hB _ Tryz.underlying25 (by kernel_rfl) hzg ?_)
       | (with_reducible refine wpList_loadb (by with_unfolding_all rfl) 25 _ rfl V rfl E hV _ Tryz.underlying25 (by kernel_rfl) hzg' ?_)
       | (with_reducible refine wpList_loadb (by with_unfolding_all rfl) 43 _ rfl T rfl C3 hT _ Tryz.underlying43 (by kernel_rfl) (size40C hz) ?_)
       | (with_reducible refine wpList_load1 (by with_unfolding_all rfl) _ _ rfl T _ rfl _ _ hT _ e8 ga0 ?_)
       | (go_at_call 5; (with_reducible refine ((hfw _ hk).yes hF).mono ?_); rintro e w40 ⟨rfl, hb40⟩; replace hB := hB.next hb40; replace hV := hV.next hb40; replace hT := hT.next hb40; replace hQ := hQ.next hb40; replace hk := hk.trans (hb40.mono hk.size); clear hb40)
       | (go_at_call 5; (with_reducible refine ((hfv _ hk).yes hF').mono ?_); rintro e w41 ⟨rfl, hb41⟩; replace hB := hB.next hb41; replace hV := hV.next hb41; replace hT := hT.next hb41; replace hQ := hQ.next hb41; replace hk := hk.trans (hb41.mono hk.size); clear hb41)
       | (go_at_call 6; (with_reducible refine ((hth _ hk).yes hR).mono ?_); rintro e w42 ⟨rfl, hb42⟩; replace hB := hB.next hb42; replace hV := hV.next hb42; replace hT := hT.next hb42; replace hQ := hQ.next hb42; replace hk := hk.trans (hb42.mono hk.size); clear hb42)
       | (go_at_call 17; (with_reducible refine (hfi _ hk).mono ?_); rintro e w43 ⟨rfl, hb43⟩; replace hB := hB.next hb43; replace hV := hV.next hb43; replace hT := hT.next hb43; replace hQ := hQ.next hb43; replace hk := hk.trans (hb43.mono hk.size); clear hb43)
       | (go_at_call 7; (with_reducible refine (awake17_any _).mono ?_); rintro e w9 ⟨rfl, hb9⟩; replace hk := hk.trans (hb9.mono hk.size)))
      go_ret
      exact ⟨rfl, hk⟩
    ·have h20' : decide ((20 : Int) < (n2 : Int)) = true := by rw [decide_eq_true_iff]; omega
     obtain ⟨D, hD⟩ : ∃ D : Array Value, D = #[.int .i64 t0, .int .u64 (ke0 : Int), .int .u64 ro0, .slice ao0 n0 cap0] := ⟨_, rfl⟩
     obtain ⟨E, hE⟩ : ∃ E : Array Value, E = #[.int .i64 t1, .int .u64 (ke1 : Int), .int .u64 ro1, .slice ao1 n1 cap1] := ⟨_, rfl⟩
     simp only [← hD, ← hE] at hzg hzg' hfw hfv
     rw [← hD, ← hE]
     clear hD hE
     go_enter Tryz.func4, Tryz.ntmps4
     go_wp2_with (first
      | go_skip
      | (with_reducible refine wpList_box rfl 25 (.tmp 0) rfl D rfl ?_; intro B W1 hN1 hB hk)
      | (with_reducible refine wpList_box rfl 25 (.tmp 1) rfl E rfl ?_; intro V W2 hN2 hV hk2; replace hB := hB.next hk2; replace hk := hk.trans (hk2.mono hk.size); clear hk2)
      | (with_reducible refine wpList_box rfl 43 _ rfl C3 rfl ?_; intro T W3 hN3 hT hk3; replace hB := hB.next hk3; replace hV := hV.next hk3; replace hk := hk.trans (hk3.mono hk.size); clear hk3)
      | (with_reducible refine wpList_box rfl 32 _ rfl G rfl ?_; intro Q W8 hN8 hQ hk8; replace hB := hB.next hk8; replace hV := hV.next hk8; replace hT := hT.next hk8; replace hk := hk.trans (hk8.mono hk.size); clear hk8)
      | (with_reducible refine wpList_loadb (by with_unfolding_all rfl) 25 _ rfl B rfl D hB _ Tryz.underlying25 (by kernel_rfl) hzg ?_)
      | (with_reducible refine wpList_loadb (by with_unfolding_all rfl) 25 _ rfl V rfl E hV _ Tryz.underlying25 (by kernel_rfl) hzg' ?_)
      | (with_reducible refine wpList_loadb (by with_unfolding_all rfl) 43 _ rfl T rfl C3 hT _ Tryz.underlying43 (by kernel_rfl) (size40C hz) ?_)
      | (with_reducible refine wpList_load1 (by with_unfolding_all rfl) _ _ rfl T _ rfl _ _ hT _ e8 ga0 ?_)
      | (go_at_call 5; (with_reducible refine ((hfw _ hk).yes hF).mono ?_); rintro e w40 ⟨rfl, hb40⟩; replace hB := hB.next hb40; replace hV := hV.next hb40; replace hT := hT.next hb40; replace hQ := hQ.next hb40; replace hk := hk.trans (hb40.mono hk.size); clear hb40)
      | (go_at_call 5; (with_reducible refine ((hfv _ hk).yes hF').mono ?_); rintro e w41 ⟨rfl, hb41⟩; replace hB := hB.next hb41; replace hV := hV.next hb41; replace hT := hT.next hb41; replace hQ := hQ.next hb41; replace hk := hk.trans (hb41.mono hk.size); clear hb41)
      | (go_at_call 6; (with_reducible refine ((hth _ hk).yes hR).mono ?_); rintro e w42 ⟨rfl, hb42⟩; replace hB := hB.next hb42; replace hV := hV.next hb42; replace hT := hT.next hb42; replace hQ := hQ.next hb42; replace hk := hk.trans (hb42.mono hk.size); clear hb42)
      | (go_at_call 7; (with_reducible refine (awake17_any _).mono ?_); rintro e w9 ⟨rfl, hb9⟩; replace hk := hk.trans (hb9.mono hk.size)))
     go_ret
     exact ⟨rfl, hk⟩
   ·obtain ⟨D, hD⟩ : ∃ D : Array Value, D = #[.int .i64 t0, .int .u64 (ke0 : Int), .int .u64 ro0, .slice ao0 n0 cap0] := ⟨_, rfl⟩
    obtain ⟨E, hE⟩ : ∃ E : Array Value, E = #[.int .i64 t1, .int .u64 (ke1 : Int), .int .u64 ro1, .slice ao1 n1 cap1] := ⟨_, rfl⟩
    simp only [← hD, ← hE] at hzg hzg' hfw hfv
    rw [← hD, ← hE]
    clear hD hE
    go_enter Tryz.func4, Tryz.ntmps4
    go_wp2_with (first
     | go_skip
     | (with_reducible refine wpList_box rfl 25 (.tmp 0) rfl D rfl ?_; intro B W1 hN1 hB hk)
     | (with_reducible refine wpList_box rfl 25 (.tmp 1) rfl E rfl ?_; intro V W2 hN2 hV hk2; replace hB := hB.next hk2; replace hk := hk.trans (hk2.mono hk.size); clear hk2)
     | (with_reducible refine wpList_box rfl 43 _ rfl C3 rfl ?_; intro T W3 hN3 hT hk3; replace hB := hB.next hk3; replace hV := hV.next hk3; replace hk := hk.trans (hk3.mono hk.size); clear hk3)
     | (with_reducible refine wpList_box rfl 32 _ rfl G rfl ?_; intro Q W8 hN8 hQ hk8; replace hB := hB.next hk8; replace hV := hV.next hk8; replace hT := hT.next hk8; replace hk := hk.trans (hk8.mono hk.size); clear hk8)
     | (with_reducible refine wpList_loadb (by with_unfolding_all rfl) 25 _ rfl B rfl D hB _ Tryz.underlying25 (by kernel_rfl) hzg ?_)
     | (with_reducible refine wpList_loadb (by with_unfolding_all rfl) 25 _ rfl V rfl E hV _ Tryz.underlying25 (by kernel_rfl) hzg' ?_)
     | (with_reducible refine wpList_loadb (by with_unfolding_all rfl) 43 _ rfl T rfl C3 hT _ Tryz.underlying43 (by kernel_rfl) (size40C hz) ?_)
     | (with_reducible refine wpList_load1 (by with_unfolding_all rfl) _ _ rfl T _ rfl _ _ hT _ e8 ga0 ?_)
     | (go_at_call 5; (with_reducible refine ((hfw _ hk).yes hF).mono ?_); rintro e w40 ⟨rfl, hb40⟩; replace hB := hB.next hb40; replace hV := hV.next hb40; replace hT := hT.next hb40; replace hQ := hQ.next hb40; replace hk := hk.trans (hb40.mono hk.size); clear hb40)
     | (go_at_call 5; (with_reducible refine ((hfv _ hk).yes hF').mono ?_); rintro e w41 ⟨rfl, hb41⟩; replace hB := hB.next hb41; replace hV := hV.next hb41; replace hT := hT.next hb41; replace hQ := hQ.next hb41; replace hk := hk.trans (hb41.mono hk.size); clear hb41)
     | (go_at_call 6; (with_reducible refine ((hth _ hk).no hR).mono ?_); rintro e w42 ⟨rfl, hb42⟩; replace hB := hB.next hb42; replace hV := hV.next hb42; replace hT := hT.next hb42; replace hQ := hQ.next hb42; replace hk := hk.trans (hb42.mono hk.size); clear hb42)
     | (go_at_call 7; (with_reducible refine (awake17_any _).mono ?_); rintro e w9 ⟨rfl, hb9⟩; replace hk := hk.trans (hb9.mono hk.size)))
    go_ret
    exact ⟨rfl, hk⟩
  ·obtain ⟨D, hD⟩ : ∃ D : Array Value, D = #[.int .i64 t0, .int .u64 (ke0 : Int), .int .u64 ro0, .slice ao0 n0 cap0] := ⟨_, rfl⟩
   obtain ⟨E, hE⟩ : ∃ E : Array Value, E = #[.int .i64 t1, .int .u64 (ke1 : Int), .int .u64 ro1, .slice ao1 n1 cap1] := ⟨_, rfl⟩
   simp only [← hD, ← hE] at hzg hzg' hfw hfv
   rw [← hD, ← hE]
   clear hD hE
   go_enter Tryz.func4, Tryz.ntmps4
   go_wp2_with (first
    | go_skip
    | (with_reducible refine wpList_box rfl 25 (.tmp 0) rfl D rfl ?_; intro B W1 hN1 hB hk)
    | (with_reducible refine wpList_box rfl 25 (.tmp 1) rfl E rfl ?_; intro V W2 hN2 hV hk2; replace hB := hB.next hk2; replace hk := hk.trans (hk2.mono hk.size); clear hk2)
    | (with_reducible refine wpList_box rfl 43 _ rfl C3 rfl ?_; intro T W3 hN3 hT hk3; replace hB := hB.next hk3; replace hV := hV.next hk3; replace hk := hk.trans (hk3.mono hk.size); clear hk3)
    | (with_reducible refine wpList_box rfl 32 _ rfl G rfl ?_; intro Q W8 hN8 hQ hk8; replace hB := hB.next hk8; replace hV := hV.next hk8; replace hT := hT.next hk8; replace hk := hk.trans (hk8.mono hk.size); clear hk8)
    | (with_reducible refine wpList_loadb (by with_unfolding_all rfl) 25 _ rfl B rfl D hB _ Tryz.underlying25 (by kernel_rfl) hzg ?_)
    | (with_reducible refine wpList_loadb (by with_unfolding_all rfl) 25 _ rfl V rfl E hV _ Tryz.underlying25 (by kernel_rfl) hzg' ?_)
    | (with_reducible refine wpList_loadb (by with_unfolding_all rfl) 43 _ rfl T rfl C3 hT _ Tryz.underlying43 (by kernel_rfl) (size40C hz) ?_)
    | (with_reducible refine wpList_load1 (by with_unfolding_all rfl) _ _ rfl T _ rfl _ _ hT _ e8 ga0 ?_)
    | (go_at_call 5; (with_reducible refine ((hfw _ hk).yes hF).mono ?_); rintro e w40 ⟨rfl, hb40⟩; replace hB := hB.next hb40; replace hV := hV.next hb40; replace hT := hT.next hb40; replace hQ := hQ.next hb40; replace hk := hk.trans (hb40.mono hk.size); clear hb40)
    | (go_at_call 5; (with_reducible refine ((hfv _ hk).no hF').mono ?_); rintro e w41 ⟨rfl, hb41⟩; replace hB := hB.next hb41; replace hV := hV.next hb41; replace hT := hT.next hb41; replace hQ := hQ.next hb41; replace hk := hk.trans (hb41.mono hk.size); clear hb41)
    | (go_at_call 7; (with_reducible refine (awake17_any _).mono ?_); rintro e w9 ⟨rfl, hb9⟩; replace hk := hk.trans (hb9.mono hk.size)))
   go_ret
   exact ⟨rfl, hk⟩
 ·obtain ⟨D, hD⟩ : ∃ D : Array Value, D = #[.int .i64 t0, .int .u64 (ke0 : Int), .int .u64 ro0, .slice ao0 n0 cap0] := ⟨_, rfl⟩
  obtain ⟨E, hE⟩ : ∃ E : Array Value, E = #[.int .i64 t1, .int .u64 (ke1 : Int), .int .u64 ro1, .slice ao1 n1 cap1] := ⟨_, rfl⟩
  simp only [← hD, ← hE] at hzg hzg' hfw hfv
  rw [← hD, ← hE]
  clear hD hE
  go_enter Tryz.func4, Tryz.ntmps4
  go_wp2_with (first
   | go_skip
   | (with_reducible refine wpList_box rfl 25 (.tmp 0) rfl D rfl ?_; intro B W1 hN1 hB hk)
   | (with_reducible refine wpList_box rfl 25 (.tmp 1) rfl E rfl ?_; intro V W2 hN2 hV hk2; replace hB := hB.next hk2; replace hk := hk.trans (hk2.mono hk.size); clear hk2)
   | (with_reducible refine wpList_box rfl 43 _ rfl C3 rfl ?_; intro T W3 hN3 hT hk3; replace hB := hB.next hk3; replace hV := hV.next hk3; replace hk := hk.trans (hk3.mono hk.size); clear hk3)
   | (with_reducible refine wpList_box rfl 32 _ rfl G rfl ?_; intro Q W8 hN8 hQ hk8; replace hB := hB.next hk8; replace hV := hV.next hk8; replace hT := hT.next hk8; replace hk := hk.trans (hk8.mono hk.size); clear hk8)
   | (with_reducible refine wpList_loadb (by with_unfolding_all rfl) 25 _ rfl B rfl D hB _ Tryz.underlying25 (by kernel_rfl) hzg ?_)
   | (with_reducible refine wpList_loadb (by with_unfolding_all rfl) 25 _ rfl V rfl E hV _ Tryz.underlying25 (by kernel_rfl) hzg' ?_)
   | (with_reducible refine wpList_loadb (by with_unfolding_all rfl) 43 _ rfl T rfl C3 hT _ Tryz.underlying43 (by kernel_rfl) (size40C hz) ?_)
   | (with_reducible refine wpList_load1 (by with_unfolding_all rfl) _ _ rfl T _ rfl _ _ hT _ e8 ga0 ?_)
   | (go_at_call 5; (with_reducible refine ((hfw _ hk).no hF).mono ?_); rintro e w40 ⟨rfl, hb40⟩; replace hB := hB.next hb40; replace hV := hV.next hb40; replace hT := hT.next hb40; replace hQ := hQ.next hb40; replace hk := hk.trans (hb40.mono hk.size); clear hb40)
   | (go_at_call 7; (with_reducible refine (awake17_any _).mono ?_); rintro e w9 ⟨rfl, hb9⟩; replace hk := hk.trans (hb9.mono hk.size)))
  go_ret
  exact ⟨rfl, hk⟩

theorem lifted (os : Os) (started : os.Started) (H : Type) (enc : TypeId × Value → H) :
  ReturnsInHanded {} Tryz.checked os 4 .any (Rows.reachSeenSpec.pre6 enc Tryz.prog Tryz.f4 Rows.reachSeenRow.domain false) (Rows.reachSeenSpec.post enc Tryz.prog Tryz.f4 false true false false) := by
 refine returnsInHanded_of_change (C := Tryz.checked) own started (by kernel_rfl) Tryz.func4
  (ChangeSpec.witness6 (enc := enc) (C := Tryz.checked) false ⟨#[], #[.agg #[.int .i64 0, .int .u64 0, .int .u64 0, .slice none 0 0], .agg #[.int .i64 0, .int .u64 0, .int .u64 0, .slice none 0 0], .slice none 0 0, .agg zC, .agg #[.int .u64 0, .int .u64 0], .int .i64 0, .bool false], []⟩ 8 (by kernel_rfl) (by kernel_rfl) (by kernel_rfl) (by kernel_rfl)) ?_
 intro W base args ds gs before hval0 hW hcnd _
 have hval : ∀ (j : Nat) t v, Tryz.f4.params[j]? = some t → args[j]? = some v → Value.okWide Tryz.prog W .any base t v := hval0
 have hW' := hW
 obtain ⟨p, q, hA0, hV, rfl, hfz, hnd⟩ := hW
 have hA : DataW.TrodAll enc Tryz.prog W 0 (fun _ => true) true Tryz.f4.params.toList args.toList ds p := hA0
 rw [Tryz.params4] at hA hval
 obtain ⟨v0, vs0, d0, ds0, p0, q0, hargs, rfl, rfl, h0, r0⟩ := trodAll_cons hA
 obtain ⟨v1, vs1, d1, ds1, p1, q1, rfl, rfl, rfl, h1, r1⟩ := trodAll_cons r0
 obtain ⟨v2, vs2, d2, ds2, p2, q2, rfl, rfl, rfl, h2, r2⟩ := trodAll_cons r1
 obtain ⟨v3, vs3, d3, ds3, p3, q3, rfl, rfl, rfl, h3, r3⟩ := trodAll_cons r2
 obtain ⟨v4, vs4, d4, ds4, p4, q4, rfl, rfl, rfl, h4, r4⟩ := trodAll_cons r3
 obtain ⟨v5, vs5, d5, ds5, p5, q5, rfl, rfl, rfl, h5, r5⟩ := trodAll_cons r4
 obtain ⟨v6, vs6, d6, ds6, p6, q6, rfl, rfl, rfl, h6, r6⟩ := trodAll_cons r5
 obtain ⟨rfl, rfl, rfl⟩ := trodAll_nil r6
 obtain rfl : args = #[v0, v1, v2, v3, v4, v5, v6] := by cases args; simp_all
 obtain ⟨rfl, rfl⟩ := trodVars_none hV
 obtain ⟨t0, ke0, ro0, ao0, n0, cap0, X0, rfl, l0⟩ := worldW_of_trod (hval 0 25 v0 rfl rfl) h0
 have k0 := h0
 have lt0 : ∀ x ∈ p0, x.block < W.heap.size := by obtain ⟨m, hm⟩ := k0; exact DataW.trod_lt m _ _ _ hm
 obtain ⟨t1, ke1, ro1, ao1, n1, cap1, X1, rfl, l1⟩ := worldW_of_trod (hval 1 25 v1 rfl rfl) h1
 have k1 := h1
 have lt1 : ∀ x ∈ p1, x.block < W.heap.size := by obtain ⟨m, hm⟩ := k1; exact DataW.trod_lt m _ _ _ hm
 obtain ⟨ao2, n2, cap2, rfl⟩ := okWide_slice Tryz.underlying27 (hval 2 27 v2 rfl rfl)
 have k2 := h2
 have lt2 : ∀ x ∈ p2, x.block < W.heap.size := by obtain ⟨m, hm⟩ := k2; exact DataW.trod_lt m _ _ _ hm
 obtain ⟨L2, l2⟩ := lab_of_trod h2
 obtain ⟨C3, x3, rfl, l3⟩ := obj_of_trod (hval 3 43 v3 rfl rfl) h3
 have k3 := h3
 have lt3 : ∀ x ∈ p3, x.block < W.heap.size := by obtain ⟨m, hm⟩ := k3; exact DataW.trod_lt m _ _ _ hm
 obtain ⟨x4, y4, rfl, l4⟩ := ref_of_trod (hval 4 32 v4 rfl rfl) h4
 have k4 := h4
 have lt4 : ∀ x ∈ p4, x.block < W.heap.size := by obtain ⟨m, hm⟩ := k4; exact DataW.trod_lt m _ _ _ hm
 obtain ⟨a5, rfl, rfl, rfl, w5⟩ := open_int Tryz.underlying3 (hval 5 3 v5 rfl rfl) h5
 obtain ⟨a6, rfl, rfl, rfl⟩ := open_bool Tryz.underlying4 (hval 6 4 v6 rfl rfl) h6
 clear hA0 hval0
 refine (walk t0 ke0 ro0 ao0 n0 cap0 X0 t1 ke1 ro1 ao1 n1 cap1 X1 ao2 n2 cap2 L2 C3 x3 x4 y4 a5 a6 W l0 l1 l2 l3 l4 w5).mono fun e W' ⟨he, bel⟩ => ?_
 subst he
 exact ⟨_, rfl, _, _, _, [], _, [], hW', trodAll_mk1 (shut_bool Tryz.underlying4 _), (trodAll_cons_mk (Below.trod laidOut (by kernel_rfl) (of_decide_eq_true (by kernel_rfl)) k0 bel lt0) (trodAll_cons_mk (Below.trod laidOut (by kernel_rfl) (of_decide_eq_true (by kernel_rfl)) k1 bel lt1) (trodAll_cons_mk (Below.trod laidOut (by kernel_rfl) (of_decide_eq_true (by kernel_rfl)) k2 bel lt2) (trodAll_cons_mk (Below.trod laidOut (by kernel_rfl) (of_decide_eq_true (by kernel_rfl)) k3 bel lt3) (trodAll_cons_mk (Below.trod laidOut (by kernel_rfl) (of_decide_eq_true (by kernel_rfl)) k4 bel lt4) (trodAll_cons_mk (shut_int Tryz.underlying3 w5) (trodAll_cons_mk (shut_bool Tryz.underlying4 _) trodAll_mk0))))))), rfl, bel.frame _, fun h => by cases h⟩

theorem over : Rows.reachSeenRow.holds Tryz.pinned (OpenSpec.ofChange Rows.reachSeenSpec) :=
 OpenClaim.holds_of_wide 4 Tryz.f4 rfl rfl rfl rfl rfl rfl rfl ⟨rfl, rfl, rfl, rfl, rfl⟩ rfl rfl rfl rfl rfl (by kernel_rfl) Tryz.func4 (by kernel_rfl)
  (of_decide_eq_true (by kernel_rfl)) (by unfold Func.isWrapper; first | (rw [if_pos (by decide +kernel)]; kernel_rfl) | (rw [if_neg (by decide +kernel)]; exact ⟨rfl, rfl⟩))
  (fun os started H enc _ => lifted os started H enc)

end reachSeen
theorem reachSeen_holds : Rows.ReachSeenSaid :=
 reachSeen.over
#print axioms reachSeen_holds
end Go.Proofs.YtblklhgojdbfeaaGreat
