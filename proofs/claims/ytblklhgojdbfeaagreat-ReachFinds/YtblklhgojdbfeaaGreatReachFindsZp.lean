/-
 PROVED HERE: what a thread may name, see and change, and which containers, are the document's. No condition besides the statement's own.
-/
import Derived.Test.YtblklhgojdbfeaaGreatRows
import Derived.WalkKit
import Derived.ProofKit
import Derived.OpenShut
import Derived.Below
import Derived.ShutString
import Derived.Deep.QuietTactic
import Derived.Test.YtblklhgojdbfeaaGreatZ18
import Derived.Test.YtblklhgojdbfeaaGreatZ27
import Derived.Test.YtblklhgojdbfeaaGreatZ28
import Derived.Test.YtblklhgojdbfeaaGreatZ36
import Derived.Test.YtblklhgojdbfeaaGreatZ39
import Derived.Test.YtblklhgojdbfeaaGreatZ41
namespace Go.Proofs.YtblklhgojdbfeaaGreat
set_option maxRecDepth 100000
set_option maxHeartbeats 8000000
namespace reachFinds
open Go.ChangeShapes Go.WideShapes Go.ChangeAt Go.RowKit
open Go.ChangeMaps (open_string shut_string)
set_option linter.unusedVariables false

theorem own : ownKnob Tryz.prog.godebug = none := by kernel_rfl

theorem walk (t0 : Int) (ke0 : Nat) (ro0 : Int) (ao0 : Option Addr) (n0 cap0 : Nat) (X0 : List Ob) (C1 : Array Value) (x1 : Ob) (x2 y2 : Nat) (a3 : Int) (a4 : Bool) (w : World) (l0 : Obs w ao0 n0 cap0 X0 ∧ ∀ x ∈ X0, WdO x) (l1 : ObD (LtN w) w C1 x1) (l2 : x2 < 18446744073709551616 ∧ y2 < 18446744073709551616) (w3 : (Lit.int .i64 a3).wf = true) :
  Calls Tryz.prog 3 #[.agg #[.int .i64 t0, .int .u64 (ke0 : Int), .int .u64 ro0, .slice ao0 n0 cap0], .agg C1, .agg #[.int .u64 (x2 : Int), .int .u64 (y2 : Int)], .int .i64 a3, .bool a4] w fun e w' => e = .returned (.bool true) ∧ Below w.heap.size w w' := by
 obtain ⟨hX, hwd⟩ := l0
 have hz := l1.size
 have hfw := fun (W : World) (hk : Below w.heap.size w W) => few17_any (t := t0) (ro := ro0) (key := ke0) (obs_next hX hk) hwd
 have hth := fun (W : World) (hk : Below w.heap.size w W) => thread17_any (l1.next hk)
 have hzg : (Tryz.prog.info? 25).map (·.size) = some (#[.int .i64 t0, .int .u64 (ke0 : Int), .int .u64 ro0, .slice ao0 n0 cap0] : Array Value).size := by kernel_rfl
 have hzr : (Tryz.prog.info? 32).map (·.size) = some (#[.int .u64 (x2 : Int), .int .u64 (y2 : Int)] : Array Value).size := by kernel_rfl
 have g0 : (#[.int .u64 (x2 : Int), .int .u64 (y2 : Int)] : Array Value)[0]? = some (.int .u64 (x2 : Int)) := rfl
 have g1 : (#[.int .u64 (x2 : Int), .int .u64 (y2 : Int)] : Array Value)[1]? = some (.int .u64 (y2 : Int)) := rfl
 have gz : (#[.int .u64 (x2 : Int), .int .u64 (y2 : Int)] : Array Value).size = 2 := rfl
 have ga1 := Tryz.isAgg22
 obtain ⟨G, hG⟩ : ∃ G : Array Value, G = #[.int .u64 (x2 : Int), .int .u64 (y2 : Int)] := ⟨_, rfl⟩
 rw [← hG] at hzr g0 g1 gz
 rw [← hG]
 clear hG
 obtain ⟨rc, hrc⟩ : ∃ rc : Int, rc = (x2 : Int) := ⟨_, rfl⟩
 obtain ⟨ri, hri⟩ : ∃ ri : Int, ri = (y2 : Int) := ⟨_, rfl⟩
 rw [← hrc] at g0
 rw [← hri] at g1
 clear hrc hri
 by_cases hF : few17P t0 ke0 ro0 X0
 ·by_cases hR : thr17P x1
  ·have htr := tre_of hF.2
   have hsm : Smalls X0 := fun x hx => sound_small0 (htr.snd x hx)
   have hn : n0 ≤ 4096 := by have := hX.1; have := htr.len; omega
   have hll : x1.label.length < 1048576 := by have := hR.2.1; omega
   have hfx : LbF x1.label := sound_lab hR.2.2
   have hrw : Rw w ao0 n0 cap0 X0 := ⟨hX, htr.snd, hsm, fun x hx => sound_lab (htr.snd x hx)⟩
   have hln : ∀ d ∈ X0, ∀ j ∈ d.links, (fnd X0 j).isSome = true := fun d hd j hj => (htr.lnk d hd j hj).1
   have c1 := fun (W : World) (hk : Below w.heap.size w W) => (look_face (t := t0) (ke := (ke0 : Int)) (ro := ro0) (obs_next hX hk) htr.srt hn hsm (l1.next hk) hll g0 g1 gz).mono (fun _ _ h => tellX hk h)
   have c2 := fun (W : World) (hk : Below w.heap.size w W) => (rlook_v (t := t0) (ke := (ke0 : Int)) (ro := ro0) hrw hk l1 hfx g0 g1 gz hln).mono (fun _ _ h => rtellX hk h)
   have c3 := fun (W : World) (hk : Below w.heap.size w W) => (see_face (t := t0) (ke := (ke0 : Int)) (ro := ro0) (kd := a3) (obs_next hX hk) htr.srt hn hsm (l1.next hk) hll g0 g1 gz).mono (fun _ _ h => tellX hk h)
   have c4 := fun (W : World) (hk : Below w.heap.size w W) => (rsee_v (t := t0) (ke := (ke0 : Int)) (ro := ro0) (kd := a3) hrw hk l1 hfx g0 g1 gz hln).mono (fun _ _ h => rtellX hk h)
   have c5 := fun (W : World) (hk : Below w.heap.size w W) => (change_face (t := t0) (ke := (ke0 : Int)) (ro := ro0) (kd := a3) (obs_next hX hk) htr.srt hn hsm (l1.next hk) hll g0 g1 gz).mono (fun _ _ h => tellX hk h)
   have c6 := fun (W : World) (hk : Below w.heap.size w W) => (rcha_v (t := t0) (ke := (ke0 : Int)) (ro := ro0) (kd := a3) hrw hk l1 hfx g0 g1 gz hln).mono (fun _ _ h => rtellX hk h)
   have c7 := fun (W : World) (hk : Below w.heap.size w W) => (dir_face (t := t0) (ke := (ke0 : Int)) (ro := ro0) (i := rc) (wr := a4) (obs_next hX hk) htr.srt hn hsm (l1.next hk) hll).mono (fun _ _ h => tellX hk h)
   have c8 := fun (W : World) (hk : Below w.heap.size w W) => (rdir_v (t := t0) (ke := (ke0 : Int)) (ro := ro0) (i := rc) (wr := a4) hrw hk l1 hfx).mono (fun _ _ h => rtellX hk h)
   simp only [seeE] at c4
   simp only [chaE] at c6
   generalize lokE X0 x1.label rc ri = e1 at c1 c2
   generalize allE X0 x1.label rc ri a3 (seeB x1.label) = e2 at c3 c4
   generalize allE X0 x1.label rc ri a3 (chgB x1.label) = e3 at c5 c6
   generalize dirE X0 x1.label rc a4 = e4 at c7 c8
   obtain ⟨D, hD⟩ : ∃ D : Array Value, D = #[.int .i64 t0, .int .u64 (ke0 : Int), .int .u64 ro0, .slice ao0 n0 cap0] := ⟨_, rfl⟩
   rw [← hD] at hzg hfw c1 c2 c3 c4 c5 c6 c7 c8
   rw [← hD]
   clear hD
   go_enter Tryz.func3, Tryz.ntmps3
   go_wp2_with (first
    | go_skip
    | (with_reducible refine wpList_box rfl 25 _ rfl D rfl ?_; intro B W1 hN1 hB hk)
    | (with_reducible refine wpList_box rfl 43 _ rfl C1 rfl ?_; intro T W3 hN3 hT hk3; replace hB := hB.next hk3; replace hk := hk.trans (hk3.mono hk.size); clear hk3)
    | (with_reducible refine wpList_box rfl 32 _ rfl G rfl ?_; intro Q W8 hN8 hQ hk8; replace hB := hB.next hk8; replace hT := hT.next hk8; replace hk := hk.trans (hk8.mono hk.size); clear hk8)
    | (with_reducible refine wpList_loadb (by kernel_rfl) 25 _ rfl B rfl D hB _ Tryz.underlying25 (by kernel_rfl) hzg ?_)
    | (with_reducible refine wpList_loadb (by kernel_rfl) 43 _ rfl T rfl C1 hT _ Tryz.underlying43 (by kernel_rfl) (size40C hz) ?_)
    | (with_reducible refine wpList_loadb (by kernel_rfl) 32 _ rfl Q rfl G hQ _ Tryz.underlying32 (by kernel_rfl) hzr ?_)
    | (with_reducible refine wpList_load1 (by kernel_rfl) _ _ rfl Q _ rfl _ _ hQ _ g0 ga1 ?_)
    | (go_at_call 5; (with_reducible refine ((hfw _ hk).yes hF).mono ?_); rintro e w4 ⟨rfl, hb4⟩; replace hB := hB.next hb4; replace hT := hT.next hb4; replace hQ := hQ.next hb4; replace hk := hk.trans (hb4.mono hk.size); clear hb4)
    | (go_at_call 6; (with_reducible refine ((hth _ hk).yes hR).mono ?_); rintro e w5 ⟨rfl, hb5⟩; replace hB := hB.next hb5; replace hT := hT.next hb5; replace hQ := hQ.next hb5; replace hk := hk.trans (hb5.mono hk.size); clear hb5)
    | (go_at_call 8; (with_reducible refine (c1 _ hk).mono ?_); rintro e w11 ⟨CF1, rfl, oF1, hb1⟩)
    | ((with_reducible refine wpList_alloc rfl 43 rfl zC zero40 ?_); have hx := oF1; intro P1 U1 hN21 hPa1 hka1; clear hx)
    | ((with_reducible refine wpList_store_blk rfl _ _ _ rfl P1 rfl CF1 rfl zC hPa1 (size40C oF1.size) (zC_size.trans oF1.size.symm) oF1.one ?_); intro V1 hP1 q1; obtain ⟨hbz, oG1⟩ := laidX hk hb1 oF1 hN21 hka1 q1; have zG1 := oG1.size; clear oF1 hb1 hN21 hka1 q1 hPa1; replace hB := hB.next hbz; replace hT := hT.next hbz; replace hQ := hQ.next hbz; replace hk := hk.trans (hbz.mono hk.size); clear hbz)
    | (go_at_call 9; (with_reducible refine (c2 _ hk).mono ?_); rintro e w12 ⟨CF2, rfl, oF2, hb2⟩)
    | ((with_reducible refine wpList_alloc rfl 43 rfl zC zero40 ?_); have hx := oF2; intro P2 U2 hN22 hPa2 hka2; clear hx)
    | ((with_reducible refine wpList_store_blk rfl _ _ _ rfl P2 rfl CF2 rfl zC hPa2 (size40C oF2.size) (zC_size.trans oF2.size.symm) oF2.one ?_); intro V2 hP2 q2; obtain ⟨hbz, oG2⟩ := laidX hk hb2 oF2 hN22 hka2 q2; have zG2 := oG2.size; clear oF2 hb2 hN22 hka2 q2 hPa2; replace hB := hB.next hbz; replace hT := hT.next hbz; replace hQ := hQ.next hbz; replace hP1 := hP1.next hbz; replace oG1 := oG1.next hbz; replace hk := hk.trans (hbz.mono hk.size); clear hbz)
    | (go_at_call 10; (with_reducible refine (c3 _ hk).mono ?_); rintro e w13 ⟨CF3, rfl, oF3, hb3⟩)
    | ((with_reducible refine wpList_alloc rfl 43 rfl zC zero40 ?_); have hx := oF3; intro P3 U3 hN23 hPa3 hka3; clear hx)
    | ((with_reducible refine wpList_store_blk rfl _ _ _ rfl P3 rfl CF3 rfl zC hPa3 (size40C oF3.size) (zC_size.trans oF3.size.symm) oF3.one ?_); intro V3 hP3 q3; obtain ⟨hbz, oG3⟩ := laidX hk hb3 oF3 hN23 hka3 q3; have zG3 := oG3.size; clear oF3 hb3 hN23 hka3 q3 hPa3; replace hB := hB.next hbz; replace hT := hT.next hbz; replace hQ := hQ.next hbz; replace hP1 := hP1.next hbz; replace hP2 := hP2.next hbz; replace oG1 := oG1.next hbz; replace oG2 := oG2.next hbz; replace hk := hk.trans (hbz.mono hk.size); clear hbz)
    | (go_at_call 11; (with_reducible refine (c4 _ hk).mono ?_); rintro e w14 ⟨CF4, rfl, oF4, hb4⟩)
    | ((with_reducible refine wpList_alloc rfl 43 rfl zC zero40 ?_); have hx := oF4; intro P4 U4 hN24 hPa4 hka4; clear hx)
    | ((with_reducible refine wpList_store_blk rfl _ _ _ rfl P4 rfl CF4 rfl zC hPa4 (size40C oF4.size) (zC_size.trans oF4.size.symm) oF4.one ?_); intro V4 hP4 q4; obtain ⟨hbz, oG4⟩ := laidX hk hb4 oF4 hN24 hka4 q4; have zG4 := oG4.size; clear oF4 hb4 hN24 hka4 q4 hPa4; replace hB := hB.next hbz; replace hT := hT.next hbz; replace hQ := hQ.next hbz; replace hP1 := hP1.next hbz; replace hP2 := hP2.next hbz; replace hP3 := hP3.next hbz; replace oG1 := oG1.next hbz; replace oG2 := oG2.next hbz; replace oG3 := oG3.next hbz; replace hk := hk.trans (hbz.mono hk.size); clear hbz)
    | (go_at_call 12; (with_reducible refine (c5 _ hk).mono ?_); rintro e w15 ⟨CF5, rfl, oF5, hb5⟩)
    | ((with_reducible refine wpList_alloc rfl 43 rfl zC zero40 ?_); have hx := oF5; intro P5 U5 hN25 hPa5 hka5; clear hx)
    | ((with_reducible refine wpList_store_blk rfl _ _ _ rfl P5 rfl CF5 rfl zC hPa5 (size40C oF5.size) (zC_size.trans oF5.size.symm) oF5.one ?_); intro V5 hP5 q5; obtain ⟨hbz, oG5⟩ := laidX hk hb5 oF5 hN25 hka5 q5; have zG5 := oG5.size; clear oF5 hb5 hN25 hka5 q5 hPa5; replace hB := hB.next hbz; replace hT := hT.next hbz; replace hQ := hQ.next hbz; replace hP1 := hP1.next hbz; replace hP2 := hP2.next hbz; replace hP3 := hP3.next hbz; replace hP4 := hP4.next hbz; replace oG1 := oG1.next hbz; replace oG2 := oG2.next hbz; replace oG3 := oG3.next hbz; replace oG4 := oG4.next hbz; replace hk := hk.trans (hbz.mono hk.size); clear hbz)
    | (go_at_call 13; (with_reducible refine (c6 _ hk).mono ?_); rintro e w16 ⟨CF6, rfl, oF6, hb6⟩)
    | ((with_reducible refine wpList_alloc rfl 43 rfl zC zero40 ?_); have hx := oF6; intro P6 U6 hN26 hPa6 hka6; clear hx)
    | ((with_reducible refine wpList_store_blk rfl _ _ _ rfl P6 rfl CF6 rfl zC hPa6 (size40C oF6.size) (zC_size.trans oF6.size.symm) oF6.one ?_); intro V6 hP6 q6; obtain ⟨hbz, oG6⟩ := laidX hk hb6 oF6 hN26 hka6 q6; have zG6 := oG6.size; clear oF6 hb6 hN26 hka6 q6 hPa6; replace hB := hB.next hbz; replace hT := hT.next hbz; replace hQ := hQ.next hbz; replace hP1 := hP1.next hbz; replace hP2 := hP2.next hbz; replace hP3 := hP3.next hbz; replace hP4 := hP4.next hbz; replace hP5 := hP5.next hbz; replace oG1 := oG1.next hbz; replace oG2 := oG2.next hbz; replace oG3 := oG3.next hbz; replace oG4 := oG4.next hbz; replace oG5 := oG5.next hbz; replace hk := hk.trans (hbz.mono hk.size); clear hbz)
    | (go_at_call 14; (with_reducible refine (c7 _ hk).mono ?_); rintro e w17 ⟨CF7, rfl, oF7, hb7⟩)
    | ((with_reducible refine wpList_alloc rfl 43 rfl zC zero40 ?_); have hx := oF7; intro P7 U7 hN27 hPa7 hka7; clear hx)
    | ((with_reducible refine wpList_store_blk rfl _ _ _ rfl P7 rfl CF7 rfl zC hPa7 (size40C oF7.size) (zC_size.trans oF7.size.symm) oF7.one ?_); intro V7 hP7 q7; obtain ⟨hbz, oG7⟩ := laidX hk hb7 oF7 hN27 hka7 q7; have zG7 := oG7.size; clear oF7 hb7 hN27 hka7 q7 hPa7; replace hB := hB.next hbz; replace hT := hT.next hbz; replace hQ := hQ.next hbz; replace hP1 := hP1.next hbz; replace hP2 := hP2.next hbz; replace hP3 := hP3.next hbz; replace hP4 := hP4.next hbz; replace hP5 := hP5.next hbz; replace hP6 := hP6.next hbz; replace oG1 := oG1.next hbz; replace oG2 := oG2.next hbz; replace oG3 := oG3.next hbz; replace oG4 := oG4.next hbz; replace oG5 := oG5.next hbz; replace oG6 := oG6.next hbz; replace hk := hk.trans (hbz.mono hk.size); clear hbz)
    | (go_at_call 15; (with_reducible refine (c8 _ hk).mono ?_); rintro e w18 ⟨CF8, rfl, oF8, hb8⟩)
    | ((with_reducible refine wpList_alloc rfl 43 rfl zC zero40 ?_); have hx := oF8; intro P8 U8 hN28 hPa8 hka8; clear hx)
    | ((with_reducible refine wpList_store_blk rfl _ _ _ rfl P8 rfl CF8 rfl zC hPa8 (size40C oF8.size) (zC_size.trans oF8.size.symm) oF8.one ?_); intro V8 hP8 q8; obtain ⟨hbz, oG8⟩ := laidX hk hb8 oF8 hN28 hka8 q8; have zG8 := oG8.size; clear oF8 hb8 hN28 hka8 q8 hPa8; replace hB := hB.next hbz; replace hT := hT.next hbz; replace hQ := hQ.next hbz; replace hP1 := hP1.next hbz; replace hP2 := hP2.next hbz; replace hP3 := hP3.next hbz; replace hP4 := hP4.next hbz; replace hP5 := hP5.next hbz; replace hP6 := hP6.next hbz; replace hP7 := hP7.next hbz; replace oG1 := oG1.next hbz; replace oG2 := oG2.next hbz; replace oG3 := oG3.next hbz; replace oG4 := oG4.next hbz; replace oG5 := oG5.next hbz; replace oG6 := oG6.next hbz; replace oG7 := oG7.next hbz; replace hk := hk.trans (hbz.mono hk.size); clear hbz)
    | (with_reducible refine wpList_loadb (by first | kernel_rfl | with_unfolding_all rfl) 43 _ rfl P1 rfl CF1 hP1 _ Tryz.underlying43 (by kernel_rfl) (size40C zG1) ?_)
    | (with_reducible refine wpList_loadb (by first | kernel_rfl | with_unfolding_all rfl) 43 _ rfl P2 rfl CF2 hP2 _ Tryz.underlying43 (by kernel_rfl) (size40C zG2) ?_)
    | (with_reducible refine wpList_loadb (by first | kernel_rfl | with_unfolding_all rfl) 43 _ rfl P3 rfl CF3 hP3 _ Tryz.underlying43 (by kernel_rfl) (size40C zG3) ?_)
    | (with_reducible refine wpList_loadb (by first | kernel_rfl | with_unfolding_all rfl) 43 _ rfl P4 rfl CF4 hP4 _ Tryz.underlying43 (by kernel_rfl) (size40C zG4) ?_)
    | (with_reducible refine wpList_loadb (by first | kernel_rfl | with_unfolding_all rfl) 43 _ rfl P5 rfl CF5 hP5 _ Tryz.underlying43 (by kernel_rfl) (size40C zG5) ?_)
    | (with_reducible refine wpList_loadb (by first | kernel_rfl | with_unfolding_all rfl) 43 _ rfl P6 rfl CF6 hP6 _ Tryz.underlying43 (by kernel_rfl) (size40C zG6) ?_)
    | (with_reducible refine wpList_loadb (by first | kernel_rfl | with_unfolding_all rfl) 43 _ rfl P7 rfl CF7 hP7 _ Tryz.underlying43 (by kernel_rfl) (size40C zG7) ?_)
    | (with_reducible refine wpList_loadb (by first | kernel_rfl | with_unfolding_all rfl) 43 _ rfl P8 rfl CF8 hP8 _ Tryz.underlying43 (by kernel_rfl) (size40C zG8) ?_)
    | (go_at_call 16; (with_reducible refine ((rsameOne_any oG1 oG2).yes rfl).mono ?_); rintro e w31 ⟨rfl, hb31⟩; replace hB := hB.next hb31; replace hT := hT.next hb31; replace hQ := hQ.next hb31; replace hP1 := hP1.next hb31; replace hP2 := hP2.next hb31; replace hP3 := hP3.next hb31; replace hP4 := hP4.next hb31; replace hP5 := hP5.next hb31; replace hP6 := hP6.next hb31; replace hP7 := hP7.next hb31; replace hP8 := hP8.next hb31; replace oG1 := oG1.next hb31; replace oG2 := oG2.next hb31; replace oG3 := oG3.next hb31; replace oG4 := oG4.next hb31; replace oG5 := oG5.next hb31; replace oG6 := oG6.next hb31; replace oG7 := oG7.next hb31; replace oG8 := oG8.next hb31; replace hk := hk.trans (hb31.mono hk.size); clear hb31)
    | (go_at_call 16; (with_reducible refine ((rsameOne_any oG3 oG4).yes rfl).mono ?_); rintro e w33 ⟨rfl, hb33⟩; replace hB := hB.next hb33; replace hT := hT.next hb33; replace hQ := hQ.next hb33; replace hP1 := hP1.next hb33; replace hP2 := hP2.next hb33; replace hP3 := hP3.next hb33; replace hP4 := hP4.next hb33; replace hP5 := hP5.next hb33; replace hP6 := hP6.next hb33; replace hP7 := hP7.next hb33; replace hP8 := hP8.next hb33; replace oG1 := oG1.next hb33; replace oG2 := oG2.next hb33; replace oG3 := oG3.next hb33; replace oG4 := oG4.next hb33; replace oG5 := oG5.next hb33; replace oG6 := oG6.next hb33; replace oG7 := oG7.next hb33; replace oG8 := oG8.next hb33; replace hk := hk.trans (hb33.mono hk.size); clear hb33)
    | (go_at_call 16; (with_reducible refine ((rsameOne_any oG5 oG6).yes rfl).mono ?_); rintro e w35 ⟨rfl, hb35⟩; replace hB := hB.next hb35; replace hT := hT.next hb35; replace hQ := hQ.next hb35; replace hP1 := hP1.next hb35; replace hP2 := hP2.next hb35; replace hP3 := hP3.next hb35; replace hP4 := hP4.next hb35; replace hP5 := hP5.next hb35; replace hP6 := hP6.next hb35; replace hP7 := hP7.next hb35; replace hP8 := hP8.next hb35; replace oG1 := oG1.next hb35; replace oG2 := oG2.next hb35; replace oG3 := oG3.next hb35; replace oG4 := oG4.next hb35; replace oG5 := oG5.next hb35; replace oG6 := oG6.next hb35; replace oG7 := oG7.next hb35; replace oG8 := oG8.next hb35; replace hk := hk.trans (hb35.mono hk.size); clear hb35)
    | (go_at_call 16; (with_reducible refine ((rsameOne_any oG7 oG8).yes rfl).mono ?_); rintro e w37 ⟨rfl, hb37⟩; replace hB := hB.next hb37; replace hT := hT.next hb37; replace hQ := hQ.next hb37; replace hP1 := hP1.next hb37; replace hP2 := hP2.next hb37; replace hP3 := hP3.next hb37; replace hP4 := hP4.next hb37; replace hP5 := hP5.next hb37; replace hP6 := hP6.next hb37; replace hP7 := hP7.next hb37; replace hP8 := hP8.next hb37; replace oG1 := oG1.next hb37; replace oG2 := oG2.next hb37; replace oG3 := oG3.next hb37; replace oG4 := oG4.next hb37; replace oG5 := oG5.next hb37; replace oG6 := oG6.next hb37; replace oG7 := oG7.next hb37; replace oG8 := oG8.next hb37; replace hk := hk.trans (hb37.mono hk.size); clear hb37)
    | (go_at_call 7; (with_reducible refine (awake17_any _).mono ?_); rintro e w9 ⟨rfl, hb9⟩; replace hk := hk.trans (hb9.mono hk.size)))
   go_ret
   exact ⟨rfl, hk⟩
  ·obtain ⟨D, hD⟩ : ∃ D : Array Value, D = #[.int .i64 t0, .int .u64 (ke0 : Int), .int .u64 ro0, .slice ao0 n0 cap0] := ⟨_, rfl⟩
   rw [← hD] at hzg hfw
   rw [← hD]
   clear hD
   go_enter Tryz.func3, Tryz.ntmps3
   go_wp2_with (first
    | go_skip
    | (with_reducible refine wpList_box rfl 25 _ rfl D rfl ?_; intro B W1 hN1 hB hk)
    | (with_reducible refine wpList_box rfl 43 _ rfl C1 rfl ?_; intro T W3 hN3 hT hk3; replace hB := hB.next hk3; replace hk := hk.trans (hk3.mono hk.size); clear hk3)
    | (with_reducible refine wpList_box rfl 32 _ rfl G rfl ?_; intro Q W8 hN8 hQ hk8; replace hB := hB.next hk8; replace hT := hT.next hk8; replace hk := hk.trans (hk8.mono hk.size); clear hk8)
    | (with_reducible refine wpList_loadb (by kernel_rfl) 25 _ rfl B rfl D hB _ Tryz.underlying25 (by kernel_rfl) hzg ?_)
    | (with_reducible refine wpList_loadb (by kernel_rfl) 43 _ rfl T rfl C1 hT _ Tryz.underlying43 (by kernel_rfl) (size40C hz) ?_)
    | (go_at_call 5; (with_reducible refine ((hfw _ hk).yes hF).mono ?_); rintro e w4 ⟨rfl, hb4⟩; replace hB := hB.next hb4; replace hT := hT.next hb4; replace hQ := hQ.next hb4; replace hk := hk.trans (hb4.mono hk.size); clear hb4)
    | (go_at_call 6; (with_reducible refine ((hth _ hk).no hR).mono ?_); rintro e w5 ⟨rfl, hb5⟩; replace hB := hB.next hb5; replace hT := hT.next hb5; replace hQ := hQ.next hb5; replace hk := hk.trans (hb5.mono hk.size); clear hb5)
    | (go_at_call 7; (with_reducible refine (awake17_any _).mono ?_); rintro e w9 ⟨rfl, hb9⟩; replace hk := hk.trans (hb9.mono hk.size)))
   go_ret
   exact ⟨rfl, hk⟩
 ·obtain ⟨D, hD⟩ : ∃ D : Array Value, D = #[.int .i64 t0, .int .u64 (ke0 : Int), .int .u64 ro0, .slice ao0 n0 cap0] := ⟨_, rfl⟩
  rw [← hD] at hzg hfw
  rw [← hD]
  clear hD
  go_enter Tryz.func3, Tryz.ntmps3
  go_wp2_with (first
   | go_skip
   | (with_reducible refine wpList_box rfl 25 _ rfl D rfl ?_; intro B W1 hN1 hB hk)
   | (with_reducible refine wpList_box rfl 43 _ rfl C1 rfl ?_; intro T W3 hN3 hT hk3; replace hB := hB.next hk3; replace hk := hk.trans (hk3.mono hk.size); clear hk3)
   | (with_reducible refine wpList_box rfl 32 _ rfl G rfl ?_; intro Q W8 hN8 hQ hk8; replace hB := hB.next hk8; replace hT := hT.next hk8; replace hk := hk.trans (hk8.mono hk.size); clear hk8)
   | (with_reducible refine wpList_loadb (by kernel_rfl) 25 _ rfl B rfl D hB _ Tryz.underlying25 (by kernel_rfl) hzg ?_)
   | (with_reducible refine wpList_loadb (by kernel_rfl) 43 _ rfl T rfl C1 hT _ Tryz.underlying43 (by kernel_rfl) (size40C hz) ?_)
   | (go_at_call 5; (with_reducible refine ((hfw _ hk).no hF).mono ?_); rintro e w4 ⟨rfl, hb4⟩; replace hB := hB.next hb4; replace hT := hT.next hb4; replace hQ := hQ.next hb4; replace hk := hk.trans (hb4.mono hk.size); clear hb4)
   | (go_at_call 7; (with_reducible refine (awake17_any _).mono ?_); rintro e w9 ⟨rfl, hb9⟩; replace hk := hk.trans (hb9.mono hk.size)))
  go_ret
  exact ⟨rfl, hk⟩

theorem lifted (os : Os) (started : os.Started) (H : Type) (enc : TypeId × Value → H) :
  ReturnsInHanded {} Tryz.checked os 3 .any (Rows.reachFindsSpec.pre6 enc Tryz.prog Tryz.f3 Rows.reachFindsRow.domain false) (Rows.reachFindsSpec.post enc Tryz.prog Tryz.f3 false true false false) := by
 refine returnsInHanded_of_change (C := Tryz.checked) own started (by kernel_rfl) Tryz.func3
  (ChangeSpec.witness6 (enc := enc) (C := Tryz.checked) false ⟨#[], #[.agg #[.int .i64 0, .int .u64 0, .int .u64 0, .slice none 0 0], .agg zC, .agg #[.int .u64 0, .int .u64 0], .int .i64 0, .bool false], []⟩ 8 (by kernel_rfl) (by kernel_rfl) (by kernel_rfl) (by kernel_rfl)) ?_
 intro W base args ds gs before hval0 hW hcnd _
 have hval : ∀ (j : Nat) t v, Tryz.f3.params[j]? = some t → args[j]? = some v → Value.okWide Tryz.prog W .any base t v := hval0
 have hW' := hW
 obtain ⟨p, q, hA0, hV, rfl, hfz, hnd⟩ := hW
 have hA : DataW.TrodAll enc Tryz.prog W 0 (fun _ => true) true Tryz.f3.params.toList args.toList ds p := hA0
 rw [Tryz.params3] at hA hval
 obtain ⟨v0, vs0, d0, ds0, p0, q0, hargs, rfl, rfl, h0, r0⟩ := trodAll_cons hA
 obtain ⟨v1, vs1, d1, ds1, p1, q1, rfl, rfl, rfl, h1, r1⟩ := trodAll_cons r0
 obtain ⟨v2, vs2, d2, ds2, p2, q2, rfl, rfl, rfl, h2, r2⟩ := trodAll_cons r1
 obtain ⟨v3, vs3, d3, ds3, p3, q3, rfl, rfl, rfl, h3, r3⟩ := trodAll_cons r2
 obtain ⟨v4, vs4, d4, ds4, p4, q4, rfl, rfl, rfl, h4, r4⟩ := trodAll_cons r3
 obtain ⟨rfl, rfl, rfl⟩ := trodAll_nil r4
 obtain rfl : args = #[v0, v1, v2, v3, v4] := by cases args; simp_all
 obtain ⟨rfl, rfl⟩ := trodVars_none hV
 obtain ⟨t0, ke0, ro0, ao0, n0, cap0, X0, rfl, l0⟩ := worldW_of_trod (hval 0 25 v0 rfl rfl) h0
 have k0 := h0
 have lt0 : ∀ x ∈ p0, x.block < W.heap.size := by obtain ⟨m, hm⟩ := k0; exact DataW.trod_lt m _ _ _ hm
 obtain ⟨C1, x1, rfl, l1⟩ := obj_of_trod (hval 1 43 v1 rfl rfl) h1
 have k1 := h1
 have lt1 : ∀ x ∈ p1, x.block < W.heap.size := by obtain ⟨m, hm⟩ := k1; exact DataW.trod_lt m _ _ _ hm
 obtain ⟨x2, y2, rfl, l2⟩ := ref_of_trod (hval 2 32 v2 rfl rfl) h2
 have k2 := h2
 have lt2 : ∀ x ∈ p2, x.block < W.heap.size := by obtain ⟨m, hm⟩ := k2; exact DataW.trod_lt m _ _ _ hm
 obtain ⟨a3, rfl, rfl, rfl, w3⟩ := open_int Tryz.underlying3 (hval 3 3 v3 rfl rfl) h3
 obtain ⟨a4, rfl, rfl, rfl⟩ := open_bool Tryz.underlying4 (hval 4 4 v4 rfl rfl) h4
 clear hA0 hval0
 refine (walk t0 ke0 ro0 ao0 n0 cap0 X0 C1 x1 x2 y2 a3 a4 W l0 l1 l2 w3).mono fun e W' ⟨he, bel⟩ => ?_
 subst he
 exact ⟨_, rfl, _, _, _, [], _, [], hW', trodAll_mk1 (shut_bool Tryz.underlying4 _), (trodAll_cons_mk (Below.trod laidOut (by kernel_rfl) (of_decide_eq_true (by kernel_rfl)) k0 bel lt0) (trodAll_cons_mk (Below.trod laidOut (by kernel_rfl) (of_decide_eq_true (by kernel_rfl)) k1 bel lt1) (trodAll_cons_mk (Below.trod laidOut (by kernel_rfl) (of_decide_eq_true (by kernel_rfl)) k2 bel lt2) (trodAll_cons_mk (shut_int Tryz.underlying3 w3) (trodAll_cons_mk (shut_bool Tryz.underlying4 _) trodAll_mk0))))), rfl, bel.frame _, fun h => by cases h⟩

theorem over : Rows.reachFindsRow.holds Tryz.pinned (OpenSpec.ofChange Rows.reachFindsSpec) :=
 OpenClaim.holds_of_wide 3 Tryz.f3 rfl rfl rfl rfl rfl rfl rfl ⟨rfl, rfl, rfl, rfl, rfl⟩ rfl rfl rfl rfl rfl (by kernel_rfl) Tryz.func3 (by kernel_rfl)
  (of_decide_eq_true (by kernel_rfl)) (by unfold Func.isWrapper; first | (rw [if_pos (by decide +kernel)]; kernel_rfl) | (rw [if_neg (by decide +kernel)]; exact ⟨rfl, rfl⟩))
  (fun os started H enc _ => lifted os started H enc)

end reachFinds
theorem reachFinds_holds : Rows.ReachFindsSaid :=
 reachFinds.over
#print axioms reachFinds_holds
end Go.Proofs.YtblklhgojdbfeaaGreat
