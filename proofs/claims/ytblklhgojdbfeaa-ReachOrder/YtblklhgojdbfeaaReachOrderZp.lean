/-
 PROVED HERE: what may be changed may be seen, what may be seen may be named; without a kind all is told that is told with one. No condition besides the statement's own.
-/
import Derived.Test.YtblklhgojdbfeaaRows
import Derived.WalkKit
import Derived.ProofKit
import Derived.OpenShut
import Derived.Below
import Derived.ShutString
import Derived.Deep.QuietTactic
import Derived.Test.YtblklhgojdbfeaaZ18
import Derived.Test.YtblklhgojdbfeaaZ27
import Derived.Test.YtblklhgojdbfeaaZ28
import Derived.Test.YtblklhgojdbfeaaZ36
import Derived.Test.YtblklhgojdbfeaaZ39
import Derived.Test.YtblklhgojdbfeaaZ40
namespace Go.Proofs.Ytblklhgojdbfeaa
set_option maxRecDepth 100000
set_option maxHeartbeats 8000000
namespace reachOrder
open Go.ChangeShapes Go.WideShapes Go.ChangeAt Go.RowKit
open Go.ChangeMaps (open_string shut_string)
set_option linter.unusedVariables false

theorem own : ownKnob Try.prog.godebug = none := by kernel_rfl

theorem cases6 (X : List Ob) (L : Lb) (c i kd : Int) : (lokE X L c i = 1 ∧ allE X L c i kd (seeB L) = 1 ∧ allE X L c i kd (chgB L) = 1 ∧ allE X L c i 0 (seeB L) = 1) ∨
  (lokE X L c i = 0 ∧ (fO X i).id = i ∧ ((allE X L c i kd (seeB L) = 3 ∧ allE X L c i kd (chgB L) = 3 ∧ allE X L c i 0 (seeB L) = 0) ∨ (allE X L c i kd (seeB L) = 3 ∧ allE X L c i kd (chgB L) = 3 ∧ allE X L c i 0 (seeB L) = 2) ∨
   (allE X L c i kd (seeB L) = 2 ∧ allE X L c i kd (chgB L) = 2 ∧ allE X L c i 0 (seeB L) = 2) ∨ (allE X L c i kd (seeB L) = 0 ∧ allE X L c i kd (chgB L) = 0 ∧ allE X L c i 0 (seeB L) = 0) ∨ (allE X L c i kd (seeB L) = 0 ∧ allE X L c i kd (chgB L) = 2 ∧ allE X L c i 0 (seeB L) = 0))) := by
 rcases lok_cases X L c i with h | h
 ·refine .inr ⟨h.1, (fO_mem h.2.2.2).2, ?_⟩
  by_cases k : kd = 0 ∨ kd = (fO X i).kind
  ·cases m : seeB L (fO X i) with
   | true =>
    cases q : chgB L (fO X i) with
    | true => exact .inr (.inr (.inr (.inl ⟨all_ok h.1 k m, all_ok h.1 k q, all_ok h.1 (.inl rfl) m⟩)))
    | false => exact .inr (.inr (.inr (.inr ⟨all_ok h.1 k m, all_lab h.1 k q, all_ok h.1 (.inl rfl) m⟩)))
   | false =>
    have q : chgB L (fO X i) = false := by unfold chgB; rw [m]; rfl
    exact .inr (.inr (.inl ⟨all_lab h.1 k m, all_lab h.1 k q, all_lab h.1 (.inl rfl) m⟩))
  ·cases m : seeB L (fO X i) with
   | true => exact .inl ⟨all_kind h.1 k, all_kind h.1 k, all_ok h.1 (.inl rfl) m⟩
   | false => exact .inr (.inl ⟨all_kind h.1 k, all_kind h.1 k, all_lab h.1 (.inl rfl) m⟩)
 ·have hn : lokE X L c i ≠ 0 := by rw [h]; decide
  exact .inl ⟨h, (all_err hn).trans h, (all_err hn).trans h, (all_err hn).trans h⟩
theorem walk (t0 : Int) (ke0 : Nat) (ro0 : Int) (ao0 : Option Addr) (n0 cap0 : Nat) (X0 : List Ob) (C1 : Array Value) (x1 : Ob) (x2 y2 : Nat) (a3 : Int) (w : World) (l0 : Obs w ao0 n0 cap0 X0 ∧ ∀ x ∈ X0, WdO x) (l1 : ObD (LtN w) w C1 x1) (l2 : x2 < 18446744073709551616 ∧ y2 < 18446744073709551616) (w3 : (Lit.int .i64 a3).wf = true) :
  Calls Try.prog 3 #[.agg #[.int .i64 t0, .int .u64 (ke0 : Int), .int .u64 ro0, .slice ao0 n0 cap0], .agg C1, .agg #[.int .u64 (x2 : Int), .int .u64 (y2 : Int)], .int .i64 a3] w fun e w' => e = .returned (.bool true) ∧ Below w.heap.size w w' := by
 obtain ⟨hX, hwd⟩ := l0
 have hz := l1.size
 have hfw := fun (W : World) (hk : Below w.heap.size w W) => few17_any (t := t0) (ro := ro0) (key := ke0) (obs_next hX hk) hwd
 have hth := fun (W : World) (hk : Below w.heap.size w W) => thread17_any (l1.next hk)
 have hzg : (Try.prog.info? 25).map (·.size) = some (#[.int .i64 t0, .int .u64 (ke0 : Int), .int .u64 ro0, .slice ao0 n0 cap0] : Array Value).size := by kernel_rfl
 have hzr : (Try.prog.info? 32).map (·.size) = some (#[.int .u64 (x2 : Int), .int .u64 (y2 : Int)] : Array Value).size := by kernel_rfl
 have g0 : (#[.int .u64 (x2 : Int), .int .u64 (y2 : Int)] : Array Value)[0]? = some (.int .u64 (x2 : Int)) := rfl
 have g1 : (#[.int .u64 (x2 : Int), .int .u64 (y2 : Int)] : Array Value)[1]? = some (.int .u64 (y2 : Int)) := rfl
 have gz : (#[.int .u64 (x2 : Int), .int .u64 (y2 : Int)] : Array Value).size = 2 := rfl
 have ga1 := Try.isAgg22
 obtain ⟨G, hG⟩ : ∃ G : Array Value, G = #[.int .u64 (x2 : Int), .int .u64 (y2 : Int)] := ⟨_, rfl⟩
 rw [← hG] at hzr g0 g1 gz
 rw [← hG]
 clear hG
 obtain ⟨rc, hrc⟩ : ∃ rc : Int, rc = (x2 : Int) := ⟨_, rfl⟩
 obtain ⟨ri, hri⟩ : ∃ ri : Int, ri = (y2 : Int) := ⟨_, rfl⟩
 rw [← hrc] at g0
 rw [← hri] at g1
 clear hrc hri
 by_cases hF : few17P t0 ke0 ro0 X0
 ·by_cases hR : thr17P x1
  ·have htr := tre_of hF.2
   have hsm : Smalls X0 := fun x hx => sound_small0 (htr.snd x hx)
   have hn : n0 ≤ 4096 := by have := hX.1; have := htr.len; omega
   have hll : x1.label.length < 1048576 := by have := hR.2.1; omega
   have c1 := fun (W : World) (hk : Below w.heap.size w W) => (look_face (t := t0) (ke := (ke0 : Int)) (ro := ro0) (obs_next hX hk) htr.srt hn hsm (l1.next hk) hll g0 g1 gz).mono (fun _ _ h => tellX hk h)
   have c2 := fun (W : World) (hk : Below w.heap.size w W) => (see_face (t := t0) (ke := (ke0 : Int)) (ro := ro0) (kd := a3) (obs_next hX hk) htr.srt hn hsm (l1.next hk) hll g0 g1 gz).mono (fun _ _ h => tellX hk h)
   have c3 := fun (W : World) (hk : Below w.heap.size w W) => (change_face (t := t0) (ke := (ke0 : Int)) (ro := ro0) (kd := a3) (obs_next hX hk) htr.srt hn hsm (l1.next hk) hll g0 g1 gz).mono (fun _ _ h => tellX hk h)
   have c4 := fun (W : World) (hk : Below w.heap.size w W) => (see_face (t := t0) (ke := (ke0 : Int)) (ro := ro0) (kd := 0) (obs_next hX hk) htr.srt hn hsm (l1.next hk) hll g0 g1 gz).mono (fun _ _ h => tellX hk h)
   have hcs := cases6 X0 x1.label rc ri a3
   obtain ⟨D, hD⟩ : ∃ D : Array Value, D = #[.int .i64 t0, .int .u64 (ke0 : Int), .int .u64 ro0, .slice ao0 n0 cap0] := ⟨_, rfl⟩
   rw [← hD] at hzg hfw c1 c2 c3 c4
   rw [← hD]
   clear hD
   have hzo : ∀ k x, k ≠ 0 → resO k x = zOb := fun k x h => by unfold resO; rw [if_neg h]
   rcases hcs with ⟨e1, e2, e3, e4⟩ | ⟨e1, hidd, hcs⟩
   ·rw [e1] at c1
    rw [e2] at c2
    rw [e3] at c3
    rw [e4] at c4
    clear e1 e2 e3 e4
    go_enter Try.func3, Try.ntmps3
    go_wp2_with (first
     | go_skip
     | (with_reducible refine wpList_box rfl 25 _ rfl D rfl ?_; intro B W1 hN1 hB hk)
     | (with_reducible refine wpList_box rfl 43 _ rfl C1 rfl ?_; intro T W3 hN3 hT hk3; replace hB := hB.next hk3; replace hk := hk.trans (hk3.mono hk.size); clear hk3)
     | (with_reducible refine wpList_box rfl 32 _ rfl G rfl ?_; intro Q W8 hN8 hQ hk8; replace hB := hB.next hk8; replace hT := hT.next hk8; replace hk := hk.trans (hk8.mono hk.size); clear hk8)
     | (with_reducible refine wpList_loadb (by kernel_rfl) 25 _ rfl B rfl D hB _ Try.underlying25 (by kernel_rfl) hzg ?_)
     | (with_reducible refine wpList_loadb (by kernel_rfl) 43 _ rfl T rfl C1 hT _ Try.underlying43 (by kernel_rfl) (size40C hz) ?_)
     | (with_reducible refine wpList_loadb (by kernel_rfl) 32 _ rfl Q rfl G hQ _ Try.underlying32 (by kernel_rfl) hzr ?_)
     | (go_at_call 4; (with_reducible refine ((hfw _ hk).yes hF).mono ?_); rintro e w4 ⟨rfl, hb4⟩; replace hB := hB.next hb4; replace hT := hT.next hb4; replace hQ := hQ.next hb4; replace hk := hk.trans (hb4.mono hk.size); clear hb4)
     | (go_at_call 5; (with_reducible refine ((hth _ hk).yes hR).mono ?_); rintro e w5 ⟨rfl, hb5⟩; replace hB := hB.next hb5; replace hT := hT.next hb5; replace hQ := hQ.next hb5; replace hk := hk.trans (hb5.mono hk.size); clear hb5)
     | (go_at_call 7; (with_reducible refine (c1 _ hk).mono ?_); rintro e w11 ⟨CF1, rfl, oF1, hb1⟩)
     | ((with_reducible refine wpList_alloc rfl 43 rfl zC zero40 ?_); have hx := oF1; intro P1 U1 hN21 hPa1 hka1; clear hx)
     | ((with_reducible refine wpList_store_blk rfl _ _ _ rfl P1 rfl CF1 rfl zC hPa1 (size40C oF1.size) (zC_size.trans oF1.size.symm) oF1.one ?_); intro V1 hP1 q1; obtain ⟨hbz, oG1⟩ := laidX hk hb1 oF1 hN21 hka1 q1; have zG1 := oG1.size; clear oF1 hb1 hN21 hka1 q1 hPa1; replace hB := hB.next hbz; replace hT := hT.next hbz; replace hQ := hQ.next hbz; replace hk := hk.trans (hbz.mono hk.size); clear hbz)
     | (go_at_call 8; (with_reducible refine (c2 _ hk).mono ?_); rintro e w12 ⟨CF2, rfl, oF2, hb2⟩)
     | ((with_reducible refine wpList_alloc rfl 43 rfl zC zero40 ?_); have hx := oF2; intro P2 U2 hN22 hPa2 hka2; clear hx)
     | ((with_reducible refine wpList_store_blk rfl _ _ _ rfl P2 rfl CF2 rfl zC hPa2 (size40C oF2.size) (zC_size.trans oF2.size.symm) oF2.one ?_); intro V2 hP2 q2; obtain ⟨hbz, oG2⟩ := laidX hk hb2 oF2 hN22 hka2 q2; have zG2 := oG2.size; clear oF2 hb2 hN22 hka2 q2 hPa2; replace hB := hB.next hbz; replace hT := hT.next hbz; replace hQ := hQ.next hbz; replace hP1 := hP1.next hbz; replace oG1 := oG1.next hbz; replace hk := hk.trans (hbz.mono hk.size); clear hbz)
     | (go_at_call 9; (with_reducible refine (c3 _ hk).mono ?_); rintro e w13 ⟨CF3, rfl, oF3, hb3⟩)
     | ((with_reducible refine wpList_alloc rfl 43 rfl zC zero40 ?_); have hx := oF3; intro P3 U3 hN23 hPa3 hka3; clear hx)
     | ((with_reducible refine wpList_store_blk rfl _ _ _ rfl P3 rfl CF3 rfl zC hPa3 (size40C oF3.size) (zC_size.trans oF3.size.symm) oF3.one ?_); intro V3 hP3 q3; obtain ⟨hbz, oG3⟩ := laidX hk hb3 oF3 hN23 hka3 q3; have zG3 := oG3.size; clear oF3 hb3 hN23 hka3 q3 hPa3; replace hB := hB.next hbz; replace hT := hT.next hbz; replace hQ := hQ.next hbz; replace hP1 := hP1.next hbz; replace hP2 := hP2.next hbz; replace oG1 := oG1.next hbz; replace oG2 := oG2.next hbz; replace hk := hk.trans (hbz.mono hk.size); clear hbz)
     | (go_at_call 8; (with_reducible refine (c4 _ hk).mono ?_); rintro e w14 ⟨CF4, rfl, oF4, hb4⟩)
     | ((with_reducible refine wpList_alloc rfl 43 rfl zC zero40 ?_); have hx := oF4; intro P4 U4 hN24 hPa4 hka4; clear hx)
     | ((with_reducible refine wpList_store_blk rfl _ _ _ rfl P4 rfl CF4 rfl zC hPa4 (size40C oF4.size) (zC_size.trans oF4.size.symm) oF4.one ?_); intro V4 hP4 q4; obtain ⟨hbz, oG4⟩ := laidX hk hb4 oF4 hN24 hka4 q4; have zG4 := oG4.size; clear oF4 hb4 hN24 hka4 q4 hPa4; replace hB := hB.next hbz; replace hT := hT.next hbz; replace hQ := hQ.next hbz; replace hP1 := hP1.next hbz; replace hP2 := hP2.next hbz; replace hP3 := hP3.next hbz; replace oG1 := oG1.next hbz; replace oG2 := oG2.next hbz; replace oG3 := oG3.next hbz; replace hk := hk.trans (hbz.mono hk.size); clear hbz)
     | (with_reducible refine wpList_loadb (by first | kernel_rfl | with_unfolding_all rfl) 43 _ rfl P1 rfl CF1 hP1 _ Try.underlying43 (by kernel_rfl) (size40C zG1) ?_)
     | (with_reducible refine wpList_loadb (by first | kernel_rfl | with_unfolding_all rfl) 43 _ rfl P2 rfl CF2 hP2 _ Try.underlying43 (by kernel_rfl) (size40C zG2) ?_)
     | (with_reducible refine wpList_loadb (by first | kernel_rfl | with_unfolding_all rfl) 43 _ rfl P3 rfl CF3 hP3 _ Try.underlying43 (by kernel_rfl) (size40C zG3) ?_)
     | (with_reducible refine wpList_loadb (by first | kernel_rfl | with_unfolding_all rfl) 43 _ rfl P4 rfl CF4 hP4 _ Try.underlying43 (by kernel_rfl) (size40C zG4) ?_)
     | (go_at_call 10; (with_reducible refine ((rsameOne_any oG2 oG3).yes rfl).mono ?_); rintro e w33 ⟨rfl, hb33⟩; replace hB := hB.next hb33; replace hT := hT.next hb33; replace hQ := hQ.next hb33; replace hP1 := hP1.next hb33; replace hP2 := hP2.next hb33; replace hP3 := hP3.next hb33; replace hP4 := hP4.next hb33; replace oG1 := oG1.next hb33; replace oG2 := oG2.next hb33; replace oG3 := oG3.next hb33; replace oG4 := oG4.next hb33; replace hk := hk.trans (hb33.mono hk.size); clear hb33)
     | (go_at_call 10; (with_reducible refine ((rsameOne_any oG2 oG1).yes rfl).mono ?_); rintro e w31 ⟨rfl, hb31⟩; replace hB := hB.next hb31; replace hT := hT.next hb31; replace hQ := hQ.next hb31; replace hP1 := hP1.next hb31; replace hP2 := hP2.next hb31; replace hP3 := hP3.next hb31; replace hP4 := hP4.next hb31; replace oG1 := oG1.next hb31; replace oG2 := oG2.next hb31; replace oG3 := oG3.next hb31; replace oG4 := oG4.next hb31; replace hk := hk.trans (hb31.mono hk.size); clear hb31)
     | (go_at_call 10; (with_reducible refine ((rsameOne_any oG2 oG4).yes rfl).mono ?_); rintro e w34 ⟨rfl, hb34⟩; replace hB := hB.next hb34; replace hT := hT.next hb34; replace hQ := hQ.next hb34; replace hP1 := hP1.next hb34; replace hP2 := hP2.next hb34; replace hP3 := hP3.next hb34; replace hP4 := hP4.next hb34; replace oG1 := oG1.next hb34; replace oG2 := oG2.next hb34; replace oG3 := oG3.next hb34; replace oG4 := oG4.next hb34; replace hk := hk.trans (hb34.mono hk.size); clear hb34)
     | (go_at_call 6; (with_reducible refine (awake17_any _).mono ?_); rintro e w9 ⟨rfl, hb9⟩; replace hk := hk.trans (hb9.mono hk.size)))
    go_ret
    exact ⟨rfl, hk⟩
   ·rcases hcs with ⟨e2, e3, e4⟩ | ⟨e2, e3, e4⟩ | ⟨e2, e3, e4⟩ | ⟨e2, e3, e4⟩ | ⟨e2, e3, e4⟩
    ·rw [e1] at c1
     rw [e2] at c2
     rw [e3] at c3
     rw [e4] at c4
     have hid : Hid ((fO X0 ri).id = ri) := hidd
     clear hidd
     clear e1 e2 e3 e4
     go_enter Try.func3, Try.ntmps3
     go_wp2_with (first
      | go_skip
      | (with_reducible refine wpList_box rfl 25 _ rfl D rfl ?_; intro B W1 hN1 hB hk)
      | (with_reducible refine wpList_box rfl 43 _ rfl C1 rfl ?_; intro T W3 hN3 hT hk3; replace hB := hB.next hk3; replace hk := hk.trans (hk3.mono hk.size); clear hk3)
      | (with_reducible refine wpList_box rfl 32 _ rfl G rfl ?_; intro Q W8 hN8 hQ hk8; replace hB := hB.next hk8; replace hT := hT.next hk8; replace hk := hk.trans (hk8.mono hk.size); clear hk8)
      | (with_reducible refine wpList_loadb (by kernel_rfl) 25 _ rfl B rfl D hB _ Try.underlying25 (by kernel_rfl) hzg ?_)
      | (with_reducible refine wpList_loadb (by kernel_rfl) 43 _ rfl T rfl C1 hT _ Try.underlying43 (by kernel_rfl) (size40C hz) ?_)
      | (with_reducible refine wpList_loadb (by kernel_rfl) 32 _ rfl Q rfl G hQ _ Try.underlying32 (by kernel_rfl) hzr ?_)
      | (go_at_call 4; (with_reducible refine ((hfw _ hk).yes hF).mono ?_); rintro e w4 ⟨rfl, hb4⟩; replace hB := hB.next hb4; replace hT := hT.next hb4; replace hQ := hQ.next hb4; replace hk := hk.trans (hb4.mono hk.size); clear hb4)
      | (go_at_call 5; (with_reducible refine ((hth _ hk).yes hR).mono ?_); rintro e w5 ⟨rfl, hb5⟩; replace hB := hB.next hb5; replace hT := hT.next hb5; replace hQ := hQ.next hb5; replace hk := hk.trans (hb5.mono hk.size); clear hb5)
      | (go_at_call 7; (with_reducible refine (c1 _ hk).mono ?_); rintro e w11 ⟨CF1, rfl, oF1, hb1⟩)
      | ((with_reducible refine wpList_alloc rfl 43 rfl zC zero40 ?_); have hx := oF1; intro P1 U1 hN21 hPa1 hka1; clear hx)
      | ((with_reducible refine wpList_store_blk rfl _ _ _ rfl P1 rfl CF1 rfl zC hPa1 (size40C oF1.size) (zC_size.trans oF1.size.symm) oF1.one ?_); intro V1 hP1 q1; obtain ⟨hbz, oG1⟩ := laidX hk hb1 oF1 hN21 hka1 q1; have zG1 := oG1.size; have k0 := oG1.id; replace k0 : CF1[0]? = some (.int .u64 ri) := k0.trans (by show some (Value.int .u64 (fO X0 ri).id) = _; rw [hid.out]); clear oF1 hb1 hN21 hka1 q1 hPa1; replace hB := hB.next hbz; replace hT := hT.next hbz; replace hQ := hQ.next hbz; replace hk := hk.trans (hbz.mono hk.size); clear hbz)
      | (go_at_call 8; (with_reducible refine (c2 _ hk).mono ?_); rintro e w12 ⟨CF2, rfl, oF2, hb2⟩)
      | ((with_reducible refine wpList_alloc rfl 43 rfl zC zero40 ?_); have hx := oF2; intro P2 U2 hN22 hPa2 hka2; clear hx)
      | ((with_reducible refine wpList_store_blk rfl _ _ _ rfl P2 rfl CF2 rfl zC hPa2 (size40C oF2.size) (zC_size.trans oF2.size.symm) oF2.one ?_); intro V2 hP2 q2; obtain ⟨hbz, oG2⟩ := laidX hk hb2 oF2 hN22 hka2 q2; have zG2 := oG2.size; clear oF2 hb2 hN22 hka2 q2 hPa2; replace hB := hB.next hbz; replace hT := hT.next hbz; replace hQ := hQ.next hbz; replace hP1 := hP1.next hbz; replace oG1 := oG1.next hbz; replace hk := hk.trans (hbz.mono hk.size); clear hbz)
      | (go_at_call 9; (with_reducible refine (c3 _ hk).mono ?_); rintro e w13 ⟨CF3, rfl, oF3, hb3⟩)
      | ((with_reducible refine wpList_alloc rfl 43 rfl zC zero40 ?_); have hx := oF3; intro P3 U3 hN23 hPa3 hka3; clear hx)
      | ((with_reducible refine wpList_store_blk rfl _ _ _ rfl P3 rfl CF3 rfl zC hPa3 (size40C oF3.size) (zC_size.trans oF3.size.symm) oF3.one ?_); intro V3 hP3 q3; obtain ⟨hbz, oG3⟩ := laidX hk hb3 oF3 hN23 hka3 q3; have zG3 := oG3.size; clear oF3 hb3 hN23 hka3 q3 hPa3; replace hB := hB.next hbz; replace hT := hT.next hbz; replace hQ := hQ.next hbz; replace hP1 := hP1.next hbz; replace hP2 := hP2.next hbz; replace oG1 := oG1.next hbz; replace oG2 := oG2.next hbz; replace hk := hk.trans (hbz.mono hk.size); clear hbz)
      | (go_at_call 8; (with_reducible refine (c4 _ hk).mono ?_); rintro e w14 ⟨CF4, rfl, oF4, hb4⟩)
      | ((with_reducible refine wpList_alloc rfl 43 rfl zC zero40 ?_); have hx := oF4; intro P4 U4 hN24 hPa4 hka4; clear hx)
      | ((with_reducible refine wpList_store_blk rfl _ _ _ rfl P4 rfl CF4 rfl zC hPa4 (size40C oF4.size) (zC_size.trans oF4.size.symm) oF4.one ?_); intro V4 hP4 q4; obtain ⟨hbz, oG4⟩ := laidX hk hb4 oF4 hN24 hka4 q4; have zG4 := oG4.size; clear oF4 hb4 hN24 hka4 q4 hPa4; replace hB := hB.next hbz; replace hT := hT.next hbz; replace hQ := hQ.next hbz; replace hP1 := hP1.next hbz; replace hP2 := hP2.next hbz; replace hP3 := hP3.next hbz; replace oG1 := oG1.next hbz; replace oG2 := oG2.next hbz; replace oG3 := oG3.next hbz; replace hk := hk.trans (hbz.mono hk.size); clear hbz)
      | (with_reducible refine wpList_loadb (by first | kernel_rfl | with_unfolding_all rfl) 43 _ rfl P1 rfl CF1 hP1 _ Try.underlying43 (by kernel_rfl) (size40C zG1) ?_)
      | (with_reducible refine wpList_loadb (by first | kernel_rfl | with_unfolding_all rfl) 43 _ rfl P2 rfl CF2 hP2 _ Try.underlying43 (by kernel_rfl) (size40C zG2) ?_)
      | (with_reducible refine wpList_loadb (by first | kernel_rfl | with_unfolding_all rfl) 43 _ rfl P3 rfl CF3 hP3 _ Try.underlying43 (by kernel_rfl) (size40C zG3) ?_)
      | (with_reducible refine wpList_loadb (by first | kernel_rfl | with_unfolding_all rfl) 43 _ rfl P4 rfl CF4 hP4 _ Try.underlying43 (by kernel_rfl) (size40C zG4) ?_)
      | (with_reducible refine wpList_load1 (by first | kernel_rfl | with_unfolding_all rfl) _ _ rfl P1 _ rfl _ _ hP1 _ k0 ga1 ?_)
      | (with_reducible refine wpList_load1 (by first | kernel_rfl | with_unfolding_all rfl) _ _ rfl Q _ rfl _ _ hQ _ g1 ga1 ?_)
      | (go_at_call 10; (with_reducible refine ((rsameOne_any oG2 oG3).yes rfl).mono ?_); rintro e w33 ⟨rfl, hb33⟩; replace hB := hB.next hb33; replace hT := hT.next hb33; replace hQ := hQ.next hb33; replace hP1 := hP1.next hb33; replace hP2 := hP2.next hb33; replace hP3 := hP3.next hb33; replace hP4 := hP4.next hb33; replace oG1 := oG1.next hb33; replace oG2 := oG2.next hb33; replace oG3 := oG3.next hb33; replace oG4 := oG4.next hb33; replace hk := hk.trans (hb33.mono hk.size); clear hb33)
      | (go_at_call 10; (with_reducible refine ((rsameOne_any oG2 oG1).yes rfl).mono ?_); rintro e w31 ⟨rfl, hb31⟩; replace hB := hB.next hb31; replace hT := hT.next hb31; replace hQ := hQ.next hb31; replace hP1 := hP1.next hb31; replace hP2 := hP2.next hb31; replace hP3 := hP3.next hb31; replace hP4 := hP4.next hb31; replace oG1 := oG1.next hb31; replace oG2 := oG2.next hb31; replace oG3 := oG3.next hb31; replace oG4 := oG4.next hb31; replace hk := hk.trans (hb31.mono hk.size); clear hb31)
      | (go_at_call 10; (with_reducible refine ((rsameOne_any oG2 oG4).yes rfl).mono ?_); rintro e w34 ⟨rfl, hb34⟩; replace hB := hB.next hb34; replace hT := hT.next hb34; replace hQ := hQ.next hb34; replace hP1 := hP1.next hb34; replace hP2 := hP2.next hb34; replace hP3 := hP3.next hb34; replace hP4 := hP4.next hb34; replace oG1 := oG1.next hb34; replace oG2 := oG2.next hb34; replace oG3 := oG3.next hb34; replace oG4 := oG4.next hb34; replace hk := hk.trans (hb34.mono hk.size); clear hb34)
      | (go_at_call 6; (with_reducible refine (awake17_any _).mono ?_); rintro e w9 ⟨rfl, hb9⟩; replace hk := hk.trans (hb9.mono hk.size)))
     go_ret
     exact ⟨rfl, hk⟩
    ·rw [e1] at c1
     rw [e2] at c2
     rw [e3] at c3
     rw [e4] at c4
     have hid : Hid ((fO X0 ri).id = ri) := hidd
     clear hidd
     clear e1 e2 e3 e4
     go_enter Try.func3, Try.ntmps3
     go_wp2_with (first
      | go_skip
      | (with_reducible refine wpList_box rfl 25 _ rfl D rfl ?_; intro B W1 hN1 hB hk)
      | (with_reducible refine wpList_box rfl 43 _ rfl C1 rfl ?_; intro T W3 hN3 hT hk3; replace hB := hB.next hk3; replace hk := hk.trans (hk3.mono hk.size); clear hk3)
      | (with_reducible refine wpList_box rfl 32 _ rfl G rfl ?_; intro Q W8 hN8 hQ hk8; replace hB := hB.next hk8; replace hT := hT.next hk8; replace hk := hk.trans (hk8.mono hk.size); clear hk8)
      | (with_reducible refine wpList_loadb (by kernel_rfl) 25 _ rfl B rfl D hB _ Try.underlying25 (by kernel_rfl) hzg ?_)
      | (with_reducible refine wpList_loadb (by kernel_rfl) 43 _ rfl T rfl C1 hT _ Try.underlying43 (by kernel_rfl) (size40C hz) ?_)
      | (with_reducible refine wpList_loadb (by kernel_rfl) 32 _ rfl Q rfl G hQ _ Try.underlying32 (by kernel_rfl) hzr ?_)
      | (go_at_call 4; (with_reducible refine ((hfw _ hk).yes hF).mono ?_); rintro e w4 ⟨rfl, hb4⟩; replace hB := hB.next hb4; replace hT := hT.next hb4; replace hQ := hQ.next hb4; replace hk := hk.trans (hb4.mono hk.size); clear hb4)
      | (go_at_call 5; (with_reducible refine ((hth _ hk).yes hR).mono ?_); rintro e w5 ⟨rfl, hb5⟩; replace hB := hB.next hb5; replace hT := hT.next hb5; replace hQ := hQ.next hb5; replace hk := hk.trans (hb5.mono hk.size); clear hb5)
      | (go_at_call 7; (with_reducible refine (c1 _ hk).mono ?_); rintro e w11 ⟨CF1, rfl, oF1, hb1⟩)
      | ((with_reducible refine wpList_alloc rfl 43 rfl zC zero40 ?_); have hx := oF1; intro P1 U1 hN21 hPa1 hka1; clear hx)
      | ((with_reducible refine wpList_store_blk rfl _ _ _ rfl P1 rfl CF1 rfl zC hPa1 (size40C oF1.size) (zC_size.trans oF1.size.symm) oF1.one ?_); intro V1 hP1 q1; obtain ⟨hbz, oG1⟩ := laidX hk hb1 oF1 hN21 hka1 q1; have zG1 := oG1.size; have k0 := oG1.id; replace k0 : CF1[0]? = some (.int .u64 ri) := k0.trans (by show some (Value.int .u64 (fO X0 ri).id) = _; rw [hid.out]); clear oF1 hb1 hN21 hka1 q1 hPa1; replace hB := hB.next hbz; replace hT := hT.next hbz; replace hQ := hQ.next hbz; replace hk := hk.trans (hbz.mono hk.size); clear hbz)
      | (go_at_call 8; (with_reducible refine (c2 _ hk).mono ?_); rintro e w12 ⟨CF2, rfl, oF2, hb2⟩)
      | ((with_reducible refine wpList_alloc rfl 43 rfl zC zero40 ?_); have hx := oF2; intro P2 U2 hN22 hPa2 hka2; clear hx)
      | ((with_reducible refine wpList_store_blk rfl _ _ _ rfl P2 rfl CF2 rfl zC hPa2 (size40C oF2.size) (zC_size.trans oF2.size.symm) oF2.one ?_); intro V2 hP2 q2; obtain ⟨hbz, oG2⟩ := laidX hk hb2 oF2 hN22 hka2 q2; have zG2 := oG2.size; clear oF2 hb2 hN22 hka2 q2 hPa2; replace hB := hB.next hbz; replace hT := hT.next hbz; replace hQ := hQ.next hbz; replace hP1 := hP1.next hbz; replace oG1 := oG1.next hbz; replace hk := hk.trans (hbz.mono hk.size); clear hbz)
      | (go_at_call 9; (with_reducible refine (c3 _ hk).mono ?_); rintro e w13 ⟨CF3, rfl, oF3, hb3⟩)
      | ((with_reducible refine wpList_alloc rfl 43 rfl zC zero40 ?_); have hx := oF3; intro P3 U3 hN23 hPa3 hka3; clear hx)
      | ((with_reducible refine wpList_store_blk rfl _ _ _ rfl P3 rfl CF3 rfl zC hPa3 (size40C oF3.size) (zC_size.trans oF3.size.symm) oF3.one ?_); intro V3 hP3 q3; obtain ⟨hbz, oG3⟩ := laidX hk hb3 oF3 hN23 hka3 q3; have zG3 := oG3.size; clear oF3 hb3 hN23 hka3 q3 hPa3; replace hB := hB.next hbz; replace hT := hT.next hbz; replace hQ := hQ.next hbz; replace hP1 := hP1.next hbz; replace hP2 := hP2.next hbz; replace oG1 := oG1.next hbz; replace oG2 := oG2.next hbz; replace hk := hk.trans (hbz.mono hk.size); clear hbz)
      | (go_at_call 8; (with_reducible refine (c4 _ hk).mono ?_); rintro e w14 ⟨CF4, rfl, oF4, hb4⟩)
      | ((with_reducible refine wpList_alloc rfl 43 rfl zC zero40 ?_); have hx := oF4; intro P4 U4 hN24 hPa4 hka4; clear hx)
      | ((with_reducible refine wpList_store_blk rfl _ _ _ rfl P4 rfl CF4 rfl zC hPa4 (size40C oF4.size) (zC_size.trans oF4.size.symm) oF4.one ?_); intro V4 hP4 q4; obtain ⟨hbz, oG4⟩ := laidX hk hb4 oF4 hN24 hka4 q4; have zG4 := oG4.size; clear oF4 hb4 hN24 hka4 q4 hPa4; replace hB := hB.next hbz; replace hT := hT.next hbz; replace hQ := hQ.next hbz; replace hP1 := hP1.next hbz; replace hP2 := hP2.next hbz; replace hP3 := hP3.next hbz; replace oG1 := oG1.next hbz; replace oG2 := oG2.next hbz; replace oG3 := oG3.next hbz; replace hk := hk.trans (hbz.mono hk.size); clear hbz)
      | (with_reducible refine wpList_loadb (by first | kernel_rfl | with_unfolding_all rfl) 43 _ rfl P1 rfl CF1 hP1 _ Try.underlying43 (by kernel_rfl) (size40C zG1) ?_)
      | (with_reducible refine wpList_loadb (by first | kernel_rfl | with_unfolding_all rfl) 43 _ rfl P2 rfl CF2 hP2 _ Try.underlying43 (by kernel_rfl) (size40C zG2) ?_)
      | (with_reducible refine wpList_loadb (by first | kernel_rfl | with_unfolding_all rfl) 43 _ rfl P3 rfl CF3 hP3 _ Try.underlying43 (by kernel_rfl) (size40C zG3) ?_)
      | (with_reducible refine wpList_loadb (by first | kernel_rfl | with_unfolding_all rfl) 43 _ rfl P4 rfl CF4 hP4 _ Try.underlying43 (by kernel_rfl) (size40C zG4) ?_)
      | (with_reducible refine wpList_load1 (by first | kernel_rfl | with_unfolding_all rfl) _ _ rfl P1 _ rfl _ _ hP1 _ k0 ga1 ?_)
      | (with_reducible refine wpList_load1 (by first | kernel_rfl | with_unfolding_all rfl) _ _ rfl Q _ rfl _ _ hQ _ g1 ga1 ?_)
      | (go_at_call 10; (with_reducible refine ((rsameOne_any oG2 oG3).yes rfl).mono ?_); rintro e w33 ⟨rfl, hb33⟩; replace hB := hB.next hb33; replace hT := hT.next hb33; replace hQ := hQ.next hb33; replace hP1 := hP1.next hb33; replace hP2 := hP2.next hb33; replace hP3 := hP3.next hb33; replace hP4 := hP4.next hb33; replace oG1 := oG1.next hb33; replace oG2 := oG2.next hb33; replace oG3 := oG3.next hb33; replace oG4 := oG4.next hb33; replace hk := hk.trans (hb33.mono hk.size); clear hb33)
      | (go_at_call 10; (with_reducible refine ((rsameOne_any oG2 oG1).yes rfl).mono ?_); rintro e w31 ⟨rfl, hb31⟩; replace hB := hB.next hb31; replace hT := hT.next hb31; replace hQ := hQ.next hb31; replace hP1 := hP1.next hb31; replace hP2 := hP2.next hb31; replace hP3 := hP3.next hb31; replace hP4 := hP4.next hb31; replace oG1 := oG1.next hb31; replace oG2 := oG2.next hb31; replace oG3 := oG3.next hb31; replace oG4 := oG4.next hb31; replace hk := hk.trans (hb31.mono hk.size); clear hb31)
      | (go_at_call 10; (with_reducible refine ((rsameOne_any oG2 oG4).yes rfl).mono ?_); rintro e w34 ⟨rfl, hb34⟩; replace hB := hB.next hb34; replace hT := hT.next hb34; replace hQ := hQ.next hb34; replace hP1 := hP1.next hb34; replace hP2 := hP2.next hb34; replace hP3 := hP3.next hb34; replace hP4 := hP4.next hb34; replace oG1 := oG1.next hb34; replace oG2 := oG2.next hb34; replace oG3 := oG3.next hb34; replace oG4 := oG4.next hb34; replace hk := hk.trans (hb34.mono hk.size); clear hb34)
      | (go_at_call 6; (with_reducible refine (awake17_any _).mono ?_); rintro e w9 ⟨rfl, hb9⟩; replace hk := hk.trans (hb9.mono hk.size)))
     go_ret
     exact ⟨rfl, hk⟩
    ·rw [e1] at c1
     rw [e2] at c2
     rw [e3] at c3
     rw [e4] at c4
     have hid : Hid ((fO X0 ri).id = ri) := hidd
     clear hidd
     clear e1 e2 e3 e4
     go_enter Try.func3, Try.ntmps3
     go_wp2_with (first
      | go_skip
      | (with_reducible refine wpList_box rfl 25 _ rfl D rfl ?_; intro B W1 hN1 hB hk)
      | (with_reducible refine wpList_box rfl 43 _ rfl C1 rfl ?_; intro T W3 hN3 hT hk3; replace hB := hB.next hk3; replace hk := hk.trans (hk3.mono hk.size); clear hk3)
      | (with_reducible refine wpList_box rfl 32 _ rfl G rfl ?_; intro Q W8 hN8 hQ hk8; replace hB := hB.next hk8; replace hT := hT.next hk8; replace hk := hk.trans (hk8.mono hk.size); clear hk8)
      | (with_reducible refine wpList_loadb (by kernel_rfl) 25 _ rfl B rfl D hB _ Try.underlying25 (by kernel_rfl) hzg ?_)
      | (with_reducible refine wpList_loadb (by kernel_rfl) 43 _ rfl T rfl C1 hT _ Try.underlying43 (by kernel_rfl) (size40C hz) ?_)
      | (with_reducible refine wpList_loadb (by kernel_rfl) 32 _ rfl Q rfl G hQ _ Try.underlying32 (by kernel_rfl) hzr ?_)
      | (go_at_call 4; (with_reducible refine ((hfw _ hk).yes hF).mono ?_); rintro e w4 ⟨rfl, hb4⟩; replace hB := hB.next hb4; replace hT := hT.next hb4; replace hQ := hQ.next hb4; replace hk := hk.trans (hb4.mono hk.size); clear hb4)
      | (go_at_call 5; (with_reducible refine ((hth _ hk).yes hR).mono ?_); rintro e w5 ⟨rfl, hb5⟩; replace hB := hB.next hb5; replace hT := hT.next hb5; replace hQ := hQ.next hb5; replace hk := hk.trans (hb5.mono hk.size); clear hb5)
      | (go_at_call 7; (with_reducible refine (c1 _ hk).mono ?_); rintro e w11 ⟨CF1, rfl, oF1, hb1⟩)
      | ((with_reducible refine wpList_alloc rfl 43 rfl zC zero40 ?_); have hx := oF1; intro P1 U1 hN21 hPa1 hka1; clear hx)
      | ((with_reducible refine wpList_store_blk rfl _ _ _ rfl P1 rfl CF1 rfl zC hPa1 (size40C oF1.size) (zC_size.trans oF1.size.symm) oF1.one ?_); intro V1 hP1 q1; obtain ⟨hbz, oG1⟩ := laidX hk hb1 oF1 hN21 hka1 q1; have zG1 := oG1.size; have k0 := oG1.id; replace k0 : CF1[0]? = some (.int .u64 ri) := k0.trans (by show some (Value.int .u64 (fO X0 ri).id) = _; rw [hid.out]); clear oF1 hb1 hN21 hka1 q1 hPa1; replace hB := hB.next hbz; replace hT := hT.next hbz; replace hQ := hQ.next hbz; replace hk := hk.trans (hbz.mono hk.size); clear hbz)
      | (go_at_call 8; (with_reducible refine (c2 _ hk).mono ?_); rintro e w12 ⟨CF2, rfl, oF2, hb2⟩)
      | ((with_reducible refine wpList_alloc rfl 43 rfl zC zero40 ?_); have hx := oF2; intro P2 U2 hN22 hPa2 hka2; clear hx)
      | ((with_reducible refine wpList_store_blk rfl _ _ _ rfl P2 rfl CF2 rfl zC hPa2 (size40C oF2.size) (zC_size.trans oF2.size.symm) oF2.one ?_); intro V2 hP2 q2; obtain ⟨hbz, oG2⟩ := laidX hk hb2 oF2 hN22 hka2 q2; have zG2 := oG2.size; clear oF2 hb2 hN22 hka2 q2 hPa2; replace hB := hB.next hbz; replace hT := hT.next hbz; replace hQ := hQ.next hbz; replace hP1 := hP1.next hbz; replace oG1 := oG1.next hbz; replace hk := hk.trans (hbz.mono hk.size); clear hbz)
      | (go_at_call 9; (with_reducible refine (c3 _ hk).mono ?_); rintro e w13 ⟨CF3, rfl, oF3, hb3⟩)
      | ((with_reducible refine wpList_alloc rfl 43 rfl zC zero40 ?_); have hx := oF3; intro P3 U3 hN23 hPa3 hka3; clear hx)
      | ((with_reducible refine wpList_store_blk rfl _ _ _ rfl P3 rfl CF3 rfl zC hPa3 (size40C oF3.size) (zC_size.trans oF3.size.symm) oF3.one ?_); intro V3 hP3 q3; obtain ⟨hbz, oG3⟩ := laidX hk hb3 oF3 hN23 hka3 q3; have zG3 := oG3.size; clear oF3 hb3 hN23 hka3 q3 hPa3; replace hB := hB.next hbz; replace hT := hT.next hbz; replace hQ := hQ.next hbz; replace hP1 := hP1.next hbz; replace hP2 := hP2.next hbz; replace oG1 := oG1.next hbz; replace oG2 := oG2.next hbz; replace hk := hk.trans (hbz.mono hk.size); clear hbz)
      | (go_at_call 8; (with_reducible refine (c4 _ hk).mono ?_); rintro e w14 ⟨CF4, rfl, oF4, hb4⟩)
      | ((with_reducible refine wpList_alloc rfl 43 rfl zC zero40 ?_); have hx := oF4; intro P4 U4 hN24 hPa4 hka4; clear hx)
      | ((with_reducible refine wpList_store_blk rfl _ _ _ rfl P4 rfl CF4 rfl zC hPa4 (size40C oF4.size) (zC_size.trans oF4.size.symm) oF4.one ?_); intro V4 hP4 q4; obtain ⟨hbz, oG4⟩ := laidX hk hb4 oF4 hN24 hka4 q4; have zG4 := oG4.size; clear oF4 hb4 hN24 hka4 q4 hPa4; replace hB := hB.next hbz; replace hT := hT.next hbz; replace hQ := hQ.next hbz; replace hP1 := hP1.next hbz; replace hP2 := hP2.next hbz; replace hP3 := hP3.next hbz; replace oG1 := oG1.next hbz; replace oG2 := oG2.next hbz; replace oG3 := oG3.next hbz; replace hk := hk.trans (hbz.mono hk.size); clear hbz)
      | (with_reducible refine wpList_loadb (by first | kernel_rfl | with_unfolding_all rfl) 43 _ rfl P1 rfl CF1 hP1 _ Try.underlying43 (by kernel_rfl) (size40C zG1) ?_)
      | (with_reducible refine wpList_loadb (by first | kernel_rfl | with_unfolding_all rfl) 43 _ rfl P2 rfl CF2 hP2 _ Try.underlying43 (by kernel_rfl) (size40C zG2) ?_)
      | (with_reducible refine wpList_loadb (by first | kernel_rfl | with_unfolding_all rfl) 43 _ rfl P3 rfl CF3 hP3 _ Try.underlying43 (by kernel_rfl) (size40C zG3) ?_)
      | (with_reducible refine wpList_loadb (by first | kernel_rfl | with_unfolding_all rfl) 43 _ rfl P4 rfl CF4 hP4 _ Try.underlying43 (by kernel_rfl) (size40C zG4) ?_)
      | (with_reducible refine wpList_load1 (by first | kernel_rfl | with_unfolding_all rfl) _ _ rfl P1 _ rfl _ _ hP1 _ k0 ga1 ?_)
      | (with_reducible refine wpList_load1 (by first | kernel_rfl | with_unfolding_all rfl) _ _ rfl Q _ rfl _ _ hQ _ g1 ga1 ?_)
      | (go_at_call 10; (with_reducible refine ((rsameOne_any oG2 oG3).yes rfl).mono ?_); rintro e w33 ⟨rfl, hb33⟩; replace hB := hB.next hb33; replace hT := hT.next hb33; replace hQ := hQ.next hb33; replace hP1 := hP1.next hb33; replace hP2 := hP2.next hb33; replace hP3 := hP3.next hb33; replace hP4 := hP4.next hb33; replace oG1 := oG1.next hb33; replace oG2 := oG2.next hb33; replace oG3 := oG3.next hb33; replace oG4 := oG4.next hb33; replace hk := hk.trans (hb33.mono hk.size); clear hb33)
      | (go_at_call 10; (with_reducible refine ((rsameOne_any oG2 oG1).yes rfl).mono ?_); rintro e w31 ⟨rfl, hb31⟩; replace hB := hB.next hb31; replace hT := hT.next hb31; replace hQ := hQ.next hb31; replace hP1 := hP1.next hb31; replace hP2 := hP2.next hb31; replace hP3 := hP3.next hb31; replace hP4 := hP4.next hb31; replace oG1 := oG1.next hb31; replace oG2 := oG2.next hb31; replace oG3 := oG3.next hb31; replace oG4 := oG4.next hb31; replace hk := hk.trans (hb31.mono hk.size); clear hb31)
      | (go_at_call 10; (with_reducible refine ((rsameOne_any oG2 oG4).yes rfl).mono ?_); rintro e w34 ⟨rfl, hb34⟩; replace hB := hB.next hb34; replace hT := hT.next hb34; replace hQ := hQ.next hb34; replace hP1 := hP1.next hb34; replace hP2 := hP2.next hb34; replace hP3 := hP3.next hb34; replace hP4 := hP4.next hb34; replace oG1 := oG1.next hb34; replace oG2 := oG2.next hb34; replace oG3 := oG3.next hb34; replace oG4 := oG4.next hb34; replace hk := hk.trans (hb34.mono hk.size); clear hb34)
      | (go_at_call 6; (with_reducible refine (awake17_any _).mono ?_); rintro e w9 ⟨rfl, hb9⟩; replace hk := hk.trans (hb9.mono hk.size)))
     go_ret
     exact ⟨rfl, hk⟩
    ·rw [e1] at c1
     rw [e2] at c2
     rw [e3] at c3
     rw [e4] at c4
     have hid : Hid ((fO X0 ri).id = ri) := hidd
     clear hidd
     clear e1 e2 e3 e4
     go_enter Try.func3, Try.ntmps3
     go_wp2_with (first
      | go_skip
      | (with_reducible refine wpList_box rfl 25 _ rfl D rfl ?_; intro B W1 hN1 hB hk)
      | (with_reducible refine wpList_box rfl 43 _ rfl C1 rfl ?_; intro T W3 hN3 hT hk3; replace hB := hB.next hk3; replace hk := hk.trans (hk3.mono hk.size); clear hk3)
      | (with_reducible refine wpList_box rfl 32 _ rfl G rfl ?_; intro Q W8 hN8 hQ hk8; replace hB := hB.next hk8; replace hT := hT.next hk8; replace hk := hk.trans (hk8.mono hk.size); clear hk8)
      | (with_reducible refine wpList_loadb (by kernel_rfl) 25 _ rfl B rfl D hB _ Try.underlying25 (by kernel_rfl) hzg ?_)
      | (with_reducible refine wpList_loadb (by kernel_rfl) 43 _ rfl T rfl C1 hT _ Try.underlying43 (by kernel_rfl) (size40C hz) ?_)
      | (with_reducible refine wpList_loadb (by kernel_rfl) 32 _ rfl Q rfl G hQ _ Try.underlying32 (by kernel_rfl) hzr ?_)
      | (go_at_call 4; (with_reducible refine ((hfw _ hk).yes hF).mono ?_); rintro e w4 ⟨rfl, hb4⟩; replace hB := hB.next hb4; replace hT := hT.next hb4; replace hQ := hQ.next hb4; replace hk := hk.trans (hb4.mono hk.size); clear hb4)
      | (go_at_call 5; (with_reducible refine ((hth _ hk).yes hR).mono ?_); rintro e w5 ⟨rfl, hb5⟩; replace hB := hB.next hb5; replace hT := hT.next hb5; replace hQ := hQ.next hb5; replace hk := hk.trans (hb5.mono hk.size); clear hb5)
      | (go_at_call 7; (with_reducible refine (c1 _ hk).mono ?_); rintro e w11 ⟨CF1, rfl, oF1, hb1⟩)
      | ((with_reducible refine wpList_alloc rfl 43 rfl zC zero40 ?_); have hx := oF1; intro P1 U1 hN21 hPa1 hka1; clear hx)
      | ((with_reducible refine wpList_store_blk rfl _ _ _ rfl P1 rfl CF1 rfl zC hPa1 (size40C oF1.size) (zC_size.trans oF1.size.symm) oF1.one ?_); intro V1 hP1 q1; obtain ⟨hbz, oG1⟩ := laidX hk hb1 oF1 hN21 hka1 q1; have zG1 := oG1.size; have k0 := oG1.id; replace k0 : CF1[0]? = some (.int .u64 ri) := k0.trans (by show some (Value.int .u64 (fO X0 ri).id) = _; rw [hid.out]); clear oF1 hb1 hN21 hka1 q1 hPa1; replace hB := hB.next hbz; replace hT := hT.next hbz; replace hQ := hQ.next hbz; replace hk := hk.trans (hbz.mono hk.size); clear hbz)
      | (go_at_call 8; (with_reducible refine (c2 _ hk).mono ?_); rintro e w12 ⟨CF2, rfl, oF2, hb2⟩)
      | ((with_reducible refine wpList_alloc rfl 43 rfl zC zero40 ?_); have hx := oF2; intro P2 U2 hN22 hPa2 hka2; clear hx)
      | ((with_reducible refine wpList_store_blk rfl _ _ _ rfl P2 rfl CF2 rfl zC hPa2 (size40C oF2.size) (zC_size.trans oF2.size.symm) oF2.one ?_); intro V2 hP2 q2; obtain ⟨hbz, oG2⟩ := laidX hk hb2 oF2 hN22 hka2 q2; have zG2 := oG2.size; clear oF2 hb2 hN22 hka2 q2 hPa2; replace hB := hB.next hbz; replace hT := hT.next hbz; replace hQ := hQ.next hbz; replace hP1 := hP1.next hbz; replace oG1 := oG1.next hbz; replace hk := hk.trans (hbz.mono hk.size); clear hbz)
      | (go_at_call 9; (with_reducible refine (c3 _ hk).mono ?_); rintro e w13 ⟨CF3, rfl, oF3, hb3⟩)
      | ((with_reducible refine wpList_alloc rfl 43 rfl zC zero40 ?_); have hx := oF3; intro P3 U3 hN23 hPa3 hka3; clear hx)
      | ((with_reducible refine wpList_store_blk rfl _ _ _ rfl P3 rfl CF3 rfl zC hPa3 (size40C oF3.size) (zC_size.trans oF3.size.symm) oF3.one ?_); intro V3 hP3 q3; obtain ⟨hbz, oG3⟩ := laidX hk hb3 oF3 hN23 hka3 q3; have zG3 := oG3.size; clear oF3 hb3 hN23 hka3 q3 hPa3; replace hB := hB.next hbz; replace hT := hT.next hbz; replace hQ := hQ.next hbz; replace hP1 := hP1.next hbz; replace hP2 := hP2.next hbz; replace oG1 := oG1.next hbz; replace oG2 := oG2.next hbz; replace hk := hk.trans (hbz.mono hk.size); clear hbz)
      | (go_at_call 8; (with_reducible refine (c4 _ hk).mono ?_); rintro e w14 ⟨CF4, rfl, oF4, hb4⟩)
      | ((with_reducible refine wpList_alloc rfl 43 rfl zC zero40 ?_); have hx := oF4; intro P4 U4 hN24 hPa4 hka4; clear hx)
      | ((with_reducible refine wpList_store_blk rfl _ _ _ rfl P4 rfl CF4 rfl zC hPa4 (size40C oF4.size) (zC_size.trans oF4.size.symm) oF4.one ?_); intro V4 hP4 q4; obtain ⟨hbz, oG4⟩ := laidX hk hb4 oF4 hN24 hka4 q4; have zG4 := oG4.size; clear oF4 hb4 hN24 hka4 q4 hPa4; replace hB := hB.next hbz; replace hT := hT.next hbz; replace hQ := hQ.next hbz; replace hP1 := hP1.next hbz; replace hP2 := hP2.next hbz; replace hP3 := hP3.next hbz; replace oG1 := oG1.next hbz; replace oG2 := oG2.next hbz; replace oG3 := oG3.next hbz; replace hk := hk.trans (hbz.mono hk.size); clear hbz)
      | (with_reducible refine wpList_loadb (by first | kernel_rfl | with_unfolding_all rfl) 43 _ rfl P1 rfl CF1 hP1 _ Try.underlying43 (by kernel_rfl) (size40C zG1) ?_)
      | (with_reducible refine wpList_loadb (by first | kernel_rfl | with_unfolding_all rfl) 43 _ rfl P2 rfl CF2 hP2 _ Try.underlying43 (by kernel_rfl) (size40C zG2) ?_)
      | (with_reducible refine wpList_loadb (by first | kernel_rfl | with_unfolding_all rfl) 43 _ rfl P3 rfl CF3 hP3 _ Try.underlying43 (by kernel_rfl) (size40C zG3) ?_)
      | (with_reducible refine wpList_loadb (by first | kernel_rfl | with_unfolding_all rfl) 43 _ rfl P4 rfl CF4 hP4 _ Try.underlying43 (by kernel_rfl) (size40C zG4) ?_)
      | (with_reducible refine wpList_load1 (by first | kernel_rfl | with_unfolding_all rfl) _ _ rfl P1 _ rfl _ _ hP1 _ k0 ga1 ?_)
      | (with_reducible refine wpList_load1 (by first | kernel_rfl | with_unfolding_all rfl) _ _ rfl Q _ rfl _ _ hQ _ g1 ga1 ?_)
      | (go_at_call 10; (with_reducible refine ((rsameOne_any oG2 oG3).yes rfl).mono ?_); rintro e w33 ⟨rfl, hb33⟩; replace hB := hB.next hb33; replace hT := hT.next hb33; replace hQ := hQ.next hb33; replace hP1 := hP1.next hb33; replace hP2 := hP2.next hb33; replace hP3 := hP3.next hb33; replace hP4 := hP4.next hb33; replace oG1 := oG1.next hb33; replace oG2 := oG2.next hb33; replace oG3 := oG3.next hb33; replace oG4 := oG4.next hb33; replace hk := hk.trans (hb33.mono hk.size); clear hb33)
      | (go_at_call 10; (with_reducible refine ((rsameOne_any oG2 oG1).yes rfl).mono ?_); rintro e w31 ⟨rfl, hb31⟩; replace hB := hB.next hb31; replace hT := hT.next hb31; replace hQ := hQ.next hb31; replace hP1 := hP1.next hb31; replace hP2 := hP2.next hb31; replace hP3 := hP3.next hb31; replace hP4 := hP4.next hb31; replace oG1 := oG1.next hb31; replace oG2 := oG2.next hb31; replace oG3 := oG3.next hb31; replace oG4 := oG4.next hb31; replace hk := hk.trans (hb31.mono hk.size); clear hb31)
      | (go_at_call 10; (with_reducible refine ((rsameOne_any oG2 oG4).yes rfl).mono ?_); rintro e w34 ⟨rfl, hb34⟩; replace hB := hB.next hb34; replace hT := hT.next hb34; replace hQ := hQ.next hb34; replace hP1 := hP1.next hb34; replace hP2 := hP2.next hb34; replace hP3 := hP3.next hb34; replace hP4 := hP4.next hb34; replace oG1 := oG1.next hb34; replace oG2 := oG2.next hb34; replace oG3 := oG3.next hb34; replace oG4 := oG4.next hb34; replace hk := hk.trans (hb34.mono hk.size); clear hb34)
      | (go_at_call 6; (with_reducible refine (awake17_any _).mono ?_); rintro e w9 ⟨rfl, hb9⟩; replace hk := hk.trans (hb9.mono hk.size)))
     go_ret
     exact ⟨rfl, hk⟩
    ·rw [e1] at c1
     rw [e2] at c2
     rw [e3] at c3
     rw [e4] at c4
     have hid : Hid ((fO X0 ri).id = ri) := hidd
     clear hidd
     clear e1 e2 e3 e4
     go_enter Try.func3, Try.ntmps3
     go_wp2_with (first
      | go_skip
      | (with_reducible refine wpList_box rfl 25 _ rfl D rfl ?_; intro B W1 hN1 hB hk)
      | (with_reducible refine wpList_box rfl 43 _ rfl C1 rfl ?_; intro T W3 hN3 hT hk3; replace hB := hB.next hk3; replace hk := hk.trans (hk3.mono hk.size); clear hk3)
      | (with_reducible refine wpList_box rfl 32 _ rfl G rfl ?_; intro Q W8 hN8 hQ hk8; replace hB := hB.next hk8; replace hT := hT.next hk8; replace hk := hk.trans (hk8.mono hk.size); clear hk8)
      | (with_reducible refine wpList_loadb (by kernel_rfl) 25 _ rfl B rfl D hB _ Try.underlying25 (by kernel_rfl) hzg ?_)
      | (with_reducible refine wpList_loadb (by kernel_rfl) 43 _ rfl T rfl C1 hT _ Try.underlying43 (by kernel_rfl) (size40C hz) ?_)
      | (with_reducible refine wpList_loadb (by kernel_rfl) 32 _ rfl Q rfl G hQ _ Try.underlying32 (by kernel_rfl) hzr ?_)
      | (go_at_call 4; (with_reducible refine ((hfw _ hk).yes hF).mono ?_); rintro e w4 ⟨rfl, hb4⟩; replace hB := hB.next hb4; replace hT := hT.next hb4; replace hQ := hQ.next hb4; replace hk := hk.trans (hb4.mono hk.size); clear hb4)
      | (go_at_call 5; (with_reducible refine ((hth _ hk).yes hR).mono ?_); rintro e w5 ⟨rfl, hb5⟩; replace hB := hB.next hb5; replace hT := hT.next hb5; replace hQ := hQ.next hb5; replace hk := hk.trans (hb5.mono hk.size); clear hb5)
      | (go_at_call 7; (with_reducible refine (c1 _ hk).mono ?_); rintro e w11 ⟨CF1, rfl, oF1, hb1⟩)
      | ((with_reducible refine wpList_alloc rfl 43 rfl zC zero40 ?_); have hx := oF1; intro P1 U1 hN21 hPa1 hka1; clear hx)
      | ((with_reducible refine wpList_store_blk rfl _ _ _ rfl P1 rfl CF1 rfl zC hPa1 (size40C oF1.size) (zC_size.trans oF1.size.symm) oF1.one ?_); intro V1 hP1 q1; obtain ⟨hbz, oG1⟩ := laidX hk hb1 oF1 hN21 hka1 q1; have zG1 := oG1.size; have k0 := oG1.id; replace k0 : CF1[0]? = some (.int .u64 ri) := k0.trans (by show some (Value.int .u64 (fO X0 ri).id) = _; rw [hid.out]); clear oF1 hb1 hN21 hka1 q1 hPa1; replace hB := hB.next hbz; replace hT := hT.next hbz; replace hQ := hQ.next hbz; replace hk := hk.trans (hbz.mono hk.size); clear hbz)
      | (go_at_call 8; (with_reducible refine (c2 _ hk).mono ?_); rintro e w12 ⟨CF2, rfl, oF2, hb2⟩)
      | ((with_reducible refine wpList_alloc rfl 43 rfl zC zero40 ?_); have hx := oF2; intro P2 U2 hN22 hPa2 hka2; clear hx)
      | ((with_reducible refine wpList_store_blk rfl _ _ _ rfl P2 rfl CF2 rfl zC hPa2 (size40C oF2.size) (zC_size.trans oF2.size.symm) oF2.one ?_); intro V2 hP2 q2; obtain ⟨hbz, oG2⟩ := laidX hk hb2 oF2 hN22 hka2 q2; have zG2 := oG2.size; clear oF2 hb2 hN22 hka2 q2 hPa2; replace hB := hB.next hbz; replace hT := hT.next hbz; replace hQ := hQ.next hbz; replace hP1 := hP1.next hbz; replace oG1 := oG1.next hbz; replace hk := hk.trans (hbz.mono hk.size); clear hbz)
      | (go_at_call 9; (with_reducible refine (c3 _ hk).mono ?_); rintro e w13 ⟨CF3, rfl, oF3, hb3⟩)
      | ((with_reducible refine wpList_alloc rfl 43 rfl zC zero40 ?_); have hx := oF3; intro P3 U3 hN23 hPa3 hka3; clear hx)
      | ((with_reducible refine wpList_store_blk rfl _ _ _ rfl P3 rfl CF3 rfl zC hPa3 (size40C oF3.size) (zC_size.trans oF3.size.symm) oF3.one ?_); intro V3 hP3 q3; obtain ⟨hbz, oG3⟩ := laidX hk hb3 oF3 hN23 hka3 q3; have zG3 := oG3.size; clear oF3 hb3 hN23 hka3 q3 hPa3; replace hB := hB.next hbz; replace hT := hT.next hbz; replace hQ := hQ.next hbz; replace hP1 := hP1.next hbz; replace hP2 := hP2.next hbz; replace oG1 := oG1.next hbz; replace oG2 := oG2.next hbz; replace hk := hk.trans (hbz.mono hk.size); clear hbz)
      | (go_at_call 8; (with_reducible refine (c4 _ hk).mono ?_); rintro e w14 ⟨CF4, rfl, oF4, hb4⟩)
      | ((with_reducible refine wpList_alloc rfl 43 rfl zC zero40 ?_); have hx := oF4; intro P4 U4 hN24 hPa4 hka4; clear hx)
      | ((with_reducible refine wpList_store_blk rfl _ _ _ rfl P4 rfl CF4 rfl zC hPa4 (size40C oF4.size) (zC_size.trans oF4.size.symm) oF4.one ?_); intro V4 hP4 q4; obtain ⟨hbz, oG4⟩ := laidX hk hb4 oF4 hN24 hka4 q4; have zG4 := oG4.size; clear oF4 hb4 hN24 hka4 q4 hPa4; replace hB := hB.next hbz; replace hT := hT.next hbz; replace hQ := hQ.next hbz; replace hP1 := hP1.next hbz; replace hP2 := hP2.next hbz; replace hP3 := hP3.next hbz; replace oG1 := oG1.next hbz; replace oG2 := oG2.next hbz; replace oG3 := oG3.next hbz; replace hk := hk.trans (hbz.mono hk.size); clear hbz)
      | (with_reducible refine wpList_loadb (by first | kernel_rfl | with_unfolding_all rfl) 43 _ rfl P1 rfl CF1 hP1 _ Try.underlying43 (by kernel_rfl) (size40C zG1) ?_)
      | (with_reducible refine wpList_loadb (by first | kernel_rfl | with_unfolding_all rfl) 43 _ rfl P2 rfl CF2 hP2 _ Try.underlying43 (by kernel_rfl) (size40C zG2) ?_)
      | (with_reducible refine wpList_loadb (by first | kernel_rfl | with_unfolding_all rfl) 43 _ rfl P3 rfl CF3 hP3 _ Try.underlying43 (by kernel_rfl) (size40C zG3) ?_)
      | (with_reducible refine wpList_loadb (by first | kernel_rfl | with_unfolding_all rfl) 43 _ rfl P4 rfl CF4 hP4 _ Try.underlying43 (by kernel_rfl) (size40C zG4) ?_)
      | (with_reducible refine wpList_load1 (by first | kernel_rfl | with_unfolding_all rfl) _ _ rfl P1 _ rfl _ _ hP1 _ k0 ga1 ?_)
      | (with_reducible refine wpList_load1 (by first | kernel_rfl | with_unfolding_all rfl) _ _ rfl Q _ rfl _ _ hQ _ g1 ga1 ?_)
      | (go_at_call 10; (with_reducible refine ((rsameOne_any oG2 oG3).yes rfl).mono ?_); rintro e w33 ⟨rfl, hb33⟩; replace hB := hB.next hb33; replace hT := hT.next hb33; replace hQ := hQ.next hb33; replace hP1 := hP1.next hb33; replace hP2 := hP2.next hb33; replace hP3 := hP3.next hb33; replace hP4 := hP4.next hb33; replace oG1 := oG1.next hb33; replace oG2 := oG2.next hb33; replace oG3 := oG3.next hb33; replace oG4 := oG4.next hb33; replace hk := hk.trans (hb33.mono hk.size); clear hb33)
      | (go_at_call 10; (with_reducible refine ((rsameOne_any oG2 oG1).yes rfl).mono ?_); rintro e w31 ⟨rfl, hb31⟩; replace hB := hB.next hb31; replace hT := hT.next hb31; replace hQ := hQ.next hb31; replace hP1 := hP1.next hb31; replace hP2 := hP2.next hb31; replace hP3 := hP3.next hb31; replace hP4 := hP4.next hb31; replace oG1 := oG1.next hb31; replace oG2 := oG2.next hb31; replace oG3 := oG3.next hb31; replace oG4 := oG4.next hb31; replace hk := hk.trans (hb31.mono hk.size); clear hb31)
      | (go_at_call 10; (with_reducible refine ((rsameOne_any oG2 oG4).yes rfl).mono ?_); rintro e w34 ⟨rfl, hb34⟩; replace hB := hB.next hb34; replace hT := hT.next hb34; replace hQ := hQ.next hb34; replace hP1 := hP1.next hb34; replace hP2 := hP2.next hb34; replace hP3 := hP3.next hb34; replace hP4 := hP4.next hb34; replace oG1 := oG1.next hb34; replace oG2 := oG2.next hb34; replace oG3 := oG3.next hb34; replace oG4 := oG4.next hb34; replace hk := hk.trans (hb34.mono hk.size); clear hb34)
      | (go_at_call 6; (with_reducible refine (awake17_any _).mono ?_); rintro e w9 ⟨rfl, hb9⟩; replace hk := hk.trans (hb9.mono hk.size)))
     go_ret
     exact ⟨rfl, hk⟩
  ·obtain ⟨D, hD⟩ : ∃ D : Array Value, D = #[.int .i64 t0, .int .u64 (ke0 : Int), .int .u64 ro0, .slice ao0 n0 cap0] := ⟨_, rfl⟩
   rw [← hD] at hzg hfw
   rw [← hD]
   clear hD
   go_enter Try.func3, Try.ntmps3
   go_wp2_with (first
    | go_skip
    | (with_reducible refine wpList_box rfl 25 _ rfl D rfl ?_; intro B W1 hN1 hB hk)
    | (with_reducible refine wpList_box rfl 43 _ rfl C1 rfl ?_; intro T W3 hN3 hT hk3; replace hB := hB.next hk3; replace hk := hk.trans (hk3.mono hk.size); clear hk3)
    | (with_reducible refine wpList_box rfl 32 _ rfl G rfl ?_; intro Q W8 hN8 hQ hk8; replace hB := hB.next hk8; replace hT := hT.next hk8; replace hk := hk.trans (hk8.mono hk.size); clear hk8)
    | (with_reducible refine wpList_loadb (by kernel_rfl) 25 _ rfl B rfl D hB _ Try.underlying25 (by kernel_rfl) hzg ?_)
    | (with_reducible refine wpList_loadb (by kernel_rfl) 43 _ rfl T rfl C1 hT _ Try.underlying43 (by kernel_rfl) (size40C hz) ?_)
    | (go_at_call 4; (with_reducible refine ((hfw _ hk).yes hF).mono ?_); rintro e w4 ⟨rfl, hb4⟩; replace hB := hB.next hb4; replace hT := hT.next hb4; replace hQ := hQ.next hb4; replace hk := hk.trans (hb4.mono hk.size); clear hb4)
    | (go_at_call 5; (with_reducible refine ((hth _ hk).no hR).mono ?_); rintro e w5 ⟨rfl, hb5⟩; replace hB := hB.next hb5; replace hT := hT.next hb5; replace hQ := hQ.next hb5; replace hk := hk.trans (hb5.mono hk.size); clear hb5)
    | (go_at_call 6; (with_reducible refine (awake17_any _).mono ?_); rintro e w9 ⟨rfl, hb9⟩; replace hk := hk.trans (hb9.mono hk.size)))
   go_ret
   exact ⟨rfl, hk⟩
 ·obtain ⟨D, hD⟩ : ∃ D : Array Value, D = #[.int .i64 t0, .int .u64 (ke0 : Int), .int .u64 ro0, .slice ao0 n0 cap0] := ⟨_, rfl⟩
  rw [← hD] at hzg hfw
  rw [← hD]
  clear hD
  go_enter Try.func3, Try.ntmps3
  go_wp2_with (first
   | go_skip
   | (with_reducible refine wpList_box rfl 25 _ rfl D rfl ?_; intro B W1 hN1 hB hk)
   | (with_reducible refine wpList_box rfl 43 _ rfl C1 rfl ?_; intro T W3 hN3 hT hk3; replace hB := hB.next hk3; replace hk := hk.trans (hk3.mono hk.size); clear hk3)
   | (with_reducible refine wpList_box rfl 32 _ rfl G rfl ?_; intro Q W8 hN8 hQ hk8; replace hB := hB.next hk8; replace hT := hT.next hk8; replace hk := hk.trans (hk8.mono hk.size); clear hk8)
   | (with_reducible refine wpList_loadb (by kernel_rfl) 25 _ rfl B rfl D hB _ Try.underlying25 (by kernel_rfl) hzg ?_)
   | (with_reducible refine wpList_loadb (by kernel_rfl) 43 _ rfl T rfl C1 hT _ Try.underlying43 (by kernel_rfl) (size40C hz) ?_)
   | (go_at_call 4; (with_reducible refine ((hfw _ hk).no hF).mono ?_); rintro e w4 ⟨rfl, hb4⟩; replace hB := hB.next hb4; replace hT := hT.next hb4; replace hQ := hQ.next hb4; replace hk := hk.trans (hb4.mono hk.size); clear hb4)
   | (go_at_call 6; (with_reducible refine (awake17_any _).mono ?_); rintro e w9 ⟨rfl, hb9⟩; replace hk := hk.trans (hb9.mono hk.size)))
  go_ret
  exact ⟨rfl, hk⟩

theorem lifted (os : Os) (started : os.Started) (H : Type) (enc : TypeId × Value → H) :
  ReturnsInHanded {} Try.checked os 3 .any (Rows.reachOrderSpec.pre6 enc Try.prog Try.f3 Rows.reachOrderRow.domain false) (Rows.reachOrderSpec.post enc Try.prog Try.f3 false true false false) := by
 refine returnsInHanded_of_change (C := Try.checked) own started (by kernel_rfl) Try.func3
  (ChangeSpec.witness6 (enc := enc) (C := Try.checked) false ⟨#[], #[.agg #[.int .i64 0, .int .u64 0, .int .u64 0, .slice none 0 0], .agg zC, .agg #[.int .u64 0, .int .u64 0], .int .i64 0], []⟩ 8 (by kernel_rfl) (by kernel_rfl) (by kernel_rfl) (by kernel_rfl)) ?_
 intro W base args ds gs before hval0 hW hcnd _
 have hval : ∀ (j : Nat) t v, Try.f3.params[j]? = some t → args[j]? = some v → Value.okWide Try.prog W .any base t v := hval0
 have hW' := hW
 obtain ⟨p, q, hA0, hV, rfl, hfz, hnd⟩ := hW
 have hA : DataW.TrodAll enc Try.prog W 0 (fun _ => true) true Try.f3.params.toList args.toList ds p := hA0
 rw [Try.params3] at hA hval
 obtain ⟨v0, vs0, d0, ds0, p0, q0, hargs, rfl, rfl, h0, r0⟩ := trodAll_cons hA
 obtain ⟨v1, vs1, d1, ds1, p1, q1, rfl, rfl, rfl, h1, r1⟩ := trodAll_cons r0
 obtain ⟨v2, vs2, d2, ds2, p2, q2, rfl, rfl, rfl, h2, r2⟩ := trodAll_cons r1
 obtain ⟨v3, vs3, d3, ds3, p3, q3, rfl, rfl, rfl, h3, r3⟩ := trodAll_cons r2
 obtain ⟨rfl, rfl, rfl⟩ := trodAll_nil r3
 obtain rfl : args = #[v0, v1, v2, v3] := by cases args; simp_all
 obtain ⟨rfl, rfl⟩ := trodVars_none hV
 obtain ⟨t0, ke0, ro0, ao0, n0, cap0, X0, rfl, l0⟩ := worldW_of_trod (hval 0 25 v0 rfl rfl) h0
 have k0 := h0
 have lt0 : ∀ x ∈ p0, x.block < W.heap.size := by obtain ⟨m, hm⟩ := k0; exact DataW.trod_lt m _ _ _ hm
 obtain ⟨C1, x1, rfl, l1⟩ := obj_of_trod (hval 1 43 v1 rfl rfl) h1
 have k1 := h1
 have lt1 : ∀ x ∈ p1, x.block < W.heap.size := by obtain ⟨m, hm⟩ := k1; exact DataW.trod_lt m _ _ _ hm
 obtain ⟨x2, y2, rfl, l2⟩ := ref_of_trod (hval 2 32 v2 rfl rfl) h2
 have k2 := h2
 have lt2 : ∀ x ∈ p2, x.block < W.heap.size := by obtain ⟨m, hm⟩ := k2; exact DataW.trod_lt m _ _ _ hm
 obtain ⟨a3, rfl, rfl, rfl, w3⟩ := open_int Try.underlying3 (hval 3 3 v3 rfl rfl) h3
 clear hA0 hval0
 refine (walk t0 ke0 ro0 ao0 n0 cap0 X0 C1 x1 x2 y2 a3 W l0 l1 l2 w3).mono fun e W' ⟨he, bel⟩ => ?_
 subst he
 exact ⟨_, rfl, _, _, _, [], _, [], hW', trodAll_mk1 (shut_bool Try.underlying4 _), (trodAll_cons_mk (Below.trod laidOut (by kernel_rfl) (of_decide_eq_true (by kernel_rfl)) k0 bel lt0) (trodAll_cons_mk (Below.trod laidOut (by kernel_rfl) (of_decide_eq_true (by kernel_rfl)) k1 bel lt1) (trodAll_cons_mk (Below.trod laidOut (by kernel_rfl) (of_decide_eq_true (by kernel_rfl)) k2 bel lt2) (trodAll_cons_mk (shut_int Try.underlying3 w3) trodAll_mk0)))), rfl, bel.frame _, fun h => by cases h⟩

theorem over : Rows.reachOrderRow.holds Try.pinned (OpenSpec.ofChange Rows.reachOrderSpec) :=
 OpenClaim.holds_of_wide 3 Try.f3 rfl rfl rfl rfl rfl rfl rfl ⟨rfl, rfl, rfl, rfl, rfl⟩ rfl rfl rfl rfl rfl (by kernel_rfl) Try.func3 (by kernel_rfl)
  (of_decide_eq_true (by kernel_rfl)) (by unfold Func.isWrapper; first | (rw [if_pos (by decide +kernel)]; kernel_rfl) | (rw [if_neg (by decide +kernel)]; exact ⟨rfl, rfl⟩))
  (fun os started H enc _ => lifted os started H enc)

end reachOrder
theorem reachOrder_holds : Rows.ReachOrderSaid :=
 reachOrder.over
#print axioms reachOrder_holds
end Go.Proofs.Ytblklhgojdbfeaa
