/-
 PROVED HERE: words that are stored at unlike places may be stored in either order; stored again, the last one is there. No condition besides the statement's own.
-/
import Derived.Test.YtiiaohejldchdaaGreatRows
import Derived.WalkKit
import Derived.ProofKit
import Derived.OpenShut
import Derived.Below
import Derived.ShutString
import Derived.Deep.QuietTactic
import Derived.Test.YtiiaohejldchdaaGreatZ19
import Derived.Test.YtiiaohejldchdaaGreatZ20
import Derived.Test.YtiiaohejldchdaaGreatZ30
import Derived.Test.YtiiaohejldchdaaGreatZ52
namespace Go.Proofs.YtiiaohejldchdaaGreat
set_option maxRecDepth 100000
set_option maxHeartbeats 8000000
namespace memSwaps
open Go.ChangeShapes Go.WideShapes Go.ChangeAt Go.RowKit
open Go.ChangeMaps (open_string shut_string)
set_option linter.unusedVariables false

theorem own : ownKnob Tryz.prog.godebug = none := by kernel_rfl

theorem walk (t0 : Int) (ke0 : Nat) (ro0 : Int) (ao0 : Option Addr) (n0 cap0 : Nat) (X0 : List Ob) (C1 : Array Value) (x1 : Ob) (a2 : Int) (a3 : Int) (a4 : Int) (a5 : Int) (w : World) (l0 : Obs w ao0 n0 cap0 X0 ∧ ∀ x ∈ X0, WdO x) (l1 : ObD (LtN w) w C1 x1) (w2 : (Lit.int .u64 a2).wf = true) (w3 : (Lit.int .u64 a3).wf = true) (w4 : (Lit.int .u64 a4).wf = true) (w5 : (Lit.int .u64 a5).wf = true) :
  Calls Tryz.prog 6 #[.agg #[.int .i64 t0, .int .u64 (ke0 : Int), .int .u64 ro0, .slice ao0 n0 cap0], .agg C1, .int .u64 a2, .int .u64 a3, .int .u64 a4, .int .u64 a5] w fun e w' => e = .returned (.bool true) ∧ Below w.heap.size w w' := by
 obtain ⟨hX, hwd⟩ := l0
 have hfw := fun (W : World) (hk : Below w.heap.size w W) => few18_any (t := t0) (ro := ro0) (key := ke0) (obs_next hX hk) hwd
 have hz1 := l1.size
 have hth1 := fun (W : World) (hk : Below w.heap.size w W) => thread18_any (l1.next hk)
 have hzg : (Tryz.prog.info? 25).map (·.size) = some (#[.int .i64 t0, .int .u64 (ke0 : Int), .int .u64 ro0, .slice ao0 n0 cap0] : Array Value).size := by kernel_rfl
 by_cases hF : few18P t0 ke0 ro0 X0
 ·by_cases hR1 : thr18P x1
  ·skip
   have htr := tre_of hF.2
   have hsm : Smalls X0 := fun x hx => sound_small0 (htr.snd x hx)
   have hn : n0 < 1024 := by have := hX.1; have := hF.1.1; omega
   have hrw : Rw w ao0 n0 cap0 X0 := ⟨hX, htr.snd, hsm, fun x hx => sound_lab (htr.snd x hx)⟩
   have hln : ∀ d ∈ X0, ∀ j ∈ d.links, (fnd X0 j).isSome = true := fun d hd j hj => (htr.lnk d hd j hj).1
   have hid : ∀ y ∈ X0, y.id ≠ 0 := fun y hy => by have := id_pos (htr.snd y hy); omega
   have hll1 : x1.label.length < 1048576 := by have := hR1.2.1; omega
   have M1 := fun (W : World) (hk : Below w.heap.size w W) => (⟨obs_next hX hk, htr.srt, by omega, hsm, htr.snd, l1.next hk, hll1⟩ : Mw W ao0 n0 cap0 X0 C1 x1)
   have R1 : Rm w ao0 n0 cap0 X0 C1 x1 := ⟨hrw, l1, sound_lab hR1.2.2, hln⟩
   have ha := u64_in w2
   have hb := u64_in w3
   have c1 := fun (W : World) (hk : Below w.heap.size w W) => store_v (t := t0) (ke := (ke0 : Int)) (ro := ro0) (v := a4) (M1 W hk) ha hn hid
   have c2 := fun (W : World) (hk : Below w.heap.size w W) => store_v (t := t0) (ke := (ke0 : Int)) (ro := ro0) (v := a5) (M1 W hk) hb hn hid
   cases hA : stB X0 x1 a2 with
   | false =>
    rw [hA] at c1
    clear hA
    generalize stB X0 x1 a3 = sb at c2
    generalize stX X0 x1 a2 a4 = XA at c1
    generalize stX X0 x1 a3 a5 = XB at c2
    obtain ⟨D, hD⟩ : ∃ D : Array Value, D = #[.int .i64 t0, .int .u64 (ke0 : Int), .int .u64 ro0, .slice ao0 n0 cap0] := ⟨_, rfl⟩
    rw [← hD] at hzg hfw c1 c2
    rw [← hD]
    clear hD
    go_enter Tryz.func6, Tryz.ntmps6
    go_wp2_with (first
     | go_skip
     | (with_reducible refine wpList_box rfl 25 _ rfl D rfl ?_; intro B V1 hNB hB hk)
     | (with_reducible refine wpList_box rfl 43 _ rfl C1 rfl ?_; intro T1 V2 hNT1 hT1 hk2; replace hB := hB.next hk2; replace hk := hk.trans (hk2.mono hk.size); clear hk2)
     | (with_reducible refine wpList_loadb (by first | kernel_rfl | with_unfolding_all rfl) 25 _ rfl B rfl D hB _ Tryz.underlying25 (by kernel_rfl) hzg ?_)
     | (with_reducible refine wpList_loadb (by first | kernel_rfl | with_unfolding_all rfl) 43 _ rfl T1 rfl C1 hT1 _ Tryz.underlying43 (by kernel_rfl) (size40C hz1) ?_)
     | (go_at_call 7; (with_reducible refine ((hfw _ hk).yes hF).mono ?_); rintro e w44 ⟨rfl, hb4⟩; replace hB := hB.next hb4; replace hT1 := hT1.next hb4; replace hk := hk.trans (hb4.mono hk.size); clear hb4)
     | (go_at_call 8; (with_reducible refine ((hth1 _ hk).yes hR1).mono ?_); rintro e w55 ⟨rfl, hb5⟩; clear hth1; replace hB := hB.next hb5; replace hT1 := hT1.next hb5; replace hk := hk.trans (hb5.mono hk.size); clear hb5)
     | (go_at_call 14; (with_reducible refine (c1 _ hk).mono ?_); rintro e w66 ⟨ao1, n1, cap1, rfl, oW1, hbW1⟩)
     | ((with_reducible refine wpList_alloc rfl 25 rfl zW zero43 ?_); have hx := oW1; clear hx; intro P1 U1 hN21 hPa1 hka1)
     | ((with_reducible refine wpList_store_blk rfl _ _ _ rfl P1 rfl #[.int .i64 t0, .int .u64 (ke0 : Int), .int .u64 ro0, .slice ao1 n1 cap1] rfl zW hPa1 (infoW4 _ _ _ _ _ _) (zW4 _ _ _ _ _ _) (oneW4 _ _ _ _ _ _) ?_); intro X1 hP1 q1; obtain ⟨hbz, oV1⟩ := laidW hbW1 oW1 hN21 hka1 q1; clear oW1 hbW1 hN21 hka1 q1 hPa1; replace hB := hB.next hbz; replace hT1 := hT1.next hbz; replace hk := hk.trans (hbz.mono hk.size); clear hbz; skip)
     | (with_reducible refine wpList_loadb (by first | kernel_rfl | with_unfolding_all rfl) 25 _ rfl P1 rfl #[.int .i64 t0, .int .u64 (ke0 : Int), .int .u64 ro0, .slice ao1 n1 cap1] hP1 _ Tryz.underlying25 (by kernel_rfl) (infoW4 _ _ _ _ _ _) ?_)
     | (go_at_call 14; (with_reducible refine (c2 _ hk).mono ?_); rintro e w66 ⟨ao2, n2, cap2, rfl, oW2, hbW2⟩)
     | ((with_reducible refine wpList_alloc rfl 25 rfl zW zero43 ?_); have hx := oW2; clear hx; intro P2 U2 hN22 hPa2 hka2)
     | ((with_reducible refine wpList_store_blk rfl _ _ _ rfl P2 rfl #[.int .i64 t0, .int .u64 (ke0 : Int), .int .u64 ro0, .slice ao2 n2 cap2] rfl zW hPa2 (infoW4 _ _ _ _ _ _) (zW4 _ _ _ _ _ _) (oneW4 _ _ _ _ _ _) ?_); intro X2 hP2 q2; obtain ⟨hbz, oV2⟩ := laidW hbW2 oW2 hN22 hka2 q2; clear oW2 hbW2 hN22 hka2 q2 hPa2; replace hB := hB.next hbz; replace hT1 := hT1.next hbz; replace hP1 := hP1.next hbz; replace oV1 := oV1.next hbz; replace hk := hk.trans (hbz.mono hk.size); clear hbz; skip)
     | (with_reducible refine wpList_loadb (by first | kernel_rfl | with_unfolding_all rfl) 25 _ rfl P2 rfl #[.int .i64 t0, .int .u64 (ke0 : Int), .int .u64 ro0, .slice ao2 n2 cap2] hP2 _ Tryz.underlying25 (by kernel_rfl) (infoW4 _ _ _ _ _ _) ?_)
     | (go_at_call 9; (with_reducible refine (awake18_any _).mono ?_); rintro e w99 ⟨rfl, hb9⟩; replace hk := hk.trans (hb9.mono hk.size)))
    go_ret
    exact ⟨rfl, hk⟩
   | true =>
    rw [hA] at c1
    cases hB : stB X0 x1 a3 with
    | false =>
     rw [hB] at c2
     clear hA hB
     generalize stX X0 x1 a2 a4 = XA at c1
     generalize stX X0 x1 a3 a5 = XB at c2
     obtain ⟨D, hD⟩ : ∃ D : Array Value, D = #[.int .i64 t0, .int .u64 (ke0 : Int), .int .u64 ro0, .slice ao0 n0 cap0] := ⟨_, rfl⟩
     rw [← hD] at hzg hfw c1 c2
     rw [← hD]
     clear hD
     go_enter Tryz.func6, Tryz.ntmps6
     go_wp2_with (first
      | go_skip
      | (with_reducible refine wpList_box rfl 25 _ rfl D rfl ?_; intro B V1 hNB hB hk)
      | (with_reducible refine wpList_box rfl 43 _ rfl C1 rfl ?_; intro T1 V2 hNT1 hT1 hk2; replace hB := hB.next hk2; replace hk := hk.trans (hk2.mono hk.size); clear hk2)
      | (with_reducible refine wpList_loadb (by first | kernel_rfl | with_unfolding_all rfl) 25 _ rfl B rfl D hB _ Tryz.underlying25 (by kernel_rfl) hzg ?_)
      | (with_reducible refine wpList_loadb (by first | kernel_rfl | with_unfolding_all rfl) 43 _ rfl T1 rfl C1 hT1 _ Tryz.underlying43 (by kernel_rfl) (size40C hz1) ?_)
      | (go_at_call 7; (with_reducible refine ((hfw _ hk).yes hF).mono ?_); rintro e w44 ⟨rfl, hb4⟩; replace hB := hB.next hb4; replace hT1 := hT1.next hb4; replace hk := hk.trans (hb4.mono hk.size); clear hb4)
      | (go_at_call 8; (with_reducible refine ((hth1 _ hk).yes hR1).mono ?_); rintro e w55 ⟨rfl, hb5⟩; clear hth1; replace hB := hB.next hb5; replace hT1 := hT1.next hb5; replace hk := hk.trans (hb5.mono hk.size); clear hb5)
      | (go_at_call 14; (with_reducible refine (c1 _ hk).mono ?_); rintro e w66 ⟨ao1, n1, cap1, rfl, oW1, hbW1⟩)
      | ((with_reducible refine wpList_alloc rfl 25 rfl zW zero43 ?_); have hx := oW1; clear hx; intro P1 U1 hN21 hPa1 hka1)
      | ((with_reducible refine wpList_store_blk rfl _ _ _ rfl P1 rfl #[.int .i64 t0, .int .u64 (ke0 : Int), .int .u64 ro0, .slice ao1 n1 cap1] rfl zW hPa1 (infoW4 _ _ _ _ _ _) (zW4 _ _ _ _ _ _) (oneW4 _ _ _ _ _ _) ?_); intro X1 hP1 q1; obtain ⟨hbz, oV1⟩ := laidW hbW1 oW1 hN21 hka1 q1; clear oW1 hbW1 hN21 hka1 q1 hPa1; replace hB := hB.next hbz; replace hT1 := hT1.next hbz; replace hk := hk.trans (hbz.mono hk.size); clear hbz; skip)
      | (with_reducible refine wpList_loadb (by first | kernel_rfl | with_unfolding_all rfl) 25 _ rfl P1 rfl #[.int .i64 t0, .int .u64 (ke0 : Int), .int .u64 ro0, .slice ao1 n1 cap1] hP1 _ Tryz.underlying25 (by kernel_rfl) (infoW4 _ _ _ _ _ _) ?_)
      | (go_at_call 14; (with_reducible refine (c2 _ hk).mono ?_); rintro e w66 ⟨ao2, n2, cap2, rfl, oW2, hbW2⟩)
      | ((with_reducible refine wpList_alloc rfl 25 rfl zW zero43 ?_); have hx := oW2; clear hx; intro P2 U2 hN22 hPa2 hka2)
      | ((with_reducible refine wpList_store_blk rfl _ _ _ rfl P2 rfl #[.int .i64 t0, .int .u64 (ke0 : Int), .int .u64 ro0, .slice ao2 n2 cap2] rfl zW hPa2 (infoW4 _ _ _ _ _ _) (zW4 _ _ _ _ _ _) (oneW4 _ _ _ _ _ _) ?_); intro X2 hP2 q2; obtain ⟨hbz, oV2⟩ := laidW hbW2 oW2 hN22 hka2 q2; clear oW2 hbW2 hN22 hka2 q2 hPa2; replace hB := hB.next hbz; replace hT1 := hT1.next hbz; replace hP1 := hP1.next hbz; replace oV1 := oV1.next hbz; replace hk := hk.trans (hbz.mono hk.size); clear hbz; skip)
      | (with_reducible refine wpList_loadb (by first | kernel_rfl | with_unfolding_all rfl) 25 _ rfl P2 rfl #[.int .i64 t0, .int .u64 (ke0 : Int), .int .u64 ro0, .slice ao2 n2 cap2] hP2 _ Tryz.underlying25 (by kernel_rfl) (infoW4 _ _ _ _ _ _) ?_)
      | (go_at_call 9; (with_reducible refine (awake18_any _).mono ?_); rintro e w99 ⟨rfl, hb9⟩; replace hk := hk.trans (hb9.mono hk.size)))
     go_ret
     exact ⟨rfl, hk⟩
    | true =>
     rw [hB] at c2
     have ga1 := Tryz.isAgg22
     have zA := (st_zero hA).1
     have zB := (st_zero hB).1
     have hfA := st_fit (x := x1) (a := a2) (v := a4) hF.2
     have hfB := st_fit (x := x1) (a := a3) (v := a5) hF.2
     have hlA : (stX X0 x1 a2 a4).length ≤ 20 := by rw [st_len htr.srt]; exact hF.1.1
     have hlB : (stX X0 x1 a3 a5).length ≤ 20 := by rw [st_len htr.srt]; exact hF.1.1
     have hfC := st_fit (x := x1) (a := a3) (v := a5) hfA
     have hlC : (stX (stX X0 x1 a2 a4) x1 a3 a5).length ≤ 20 := by rw [st_len (st_srt htr.srt)]; exact hlA
     have sAB : stB (stX X0 x1 a2 a4) x1 a3 = true := by rw [st_st htr.srt]; exact hB
     have sBA : stB (stX X0 x1 a3 a5) x1 a2 = true := by rw [st_st htr.srt]; exact hA
     have wC : wkE (stX (stX X0 x1 a2 a4) x1 a3 a5) x1 a3 = 0 := by rw [st_wk (st_srt htr.srt), st_wk htr.srt]; exact zB
     have lC : ldV (stX (stX X0 x1 a2 a4) x1 a3 a5) x1 a3 = a5 := ld_same (st_srt htr.srt) sAB (by rw [st_wk htr.srt]; exact zB) ⟨rfl, rfl⟩
     have c3 := fun (W : World) (hk : Below w.heap.size w W) => walk_v (t := t0) (ke := (ke0 : Int)) (ro := ro0) (M1 W hk) ha
     have c4 := fun (W : World) (hk : Below w.heap.size w W) => walk_v (t := t0) (ke := (ke0 : Int)) (ro := ro0) (M1 W hk) hb
     have c5 := fun (W : World) (ao : Option Addr) (n cap : Nat) (o : Obs W ao n cap (stX X0 x1 a2 a4)) (hk : Below w.heap.size w W) => store_v (t := t0) (ke := (ke0 : Int)) (ro := ro0) (v := a5) (mw_st hfA hlA o (l1.next hk) hll1).1 hb (mw_st hfA hlA o (l1.next hk) hll1).2.1 (mw_st hfA hlA o (l1.next hk) hll1).2.2
     have c6 := fun (W : World) (ao : Option Addr) (n cap : Nat) (o : Obs W ao n cap (stX X0 x1 a3 a5)) (hk : Below w.heap.size w W) => store_v (t := t0) (ke := (ke0 : Int)) (ro := ro0) (v := a4) (mw_st hfB hlB o (l1.next hk) hll1).1 ha (mw_st hfB hlB o (l1.next hk) hll1).2.1 (mw_st hfB hlB o (l1.next hk) hll1).2.2
     have c7 := fun (W : World) (ao : Option Addr) (n cap : Nat) (o : Obs W ao n cap (stX (stX X0 x1 a2 a4) x1 a3 a5)) (hk : Below w.heap.size w W) => load_v (t := t0) (ke := (ke0 : Int)) (ro := ro0) (mw_st hfC hlC o (l1.next hk) hll1).1 hb
     unfold WkO at c3 c4
     have r1 : resO 0 (wkO X0 x1 a2) = wkO X0 x1 a2 := rfl
     have r2 : resO 0 (wkO X0 x1 a3) = wkO X0 x1 a3 := rfl
     simp only [zA, if_pos, r1] at c3
     simp only [zB, if_pos, r2] at c4
     simp only [sAB] at c5
     simp only [sBA] at c6
     simp only [wC, lC, decide_true] at c7
     have hsa : ¬ smP X0 x1 a2 x1 a3 → ∀ (W : World) (ao : Option Addr) (n cap : Nat) (ao' : Option Addr) (n' cap' : Nat) (o : Obs W ao n cap (stX (stX X0 x1 a2 a4) x1 a3 a5)) (o' : Obs W ao' n' cap' (stX (stX X0 x1 a3 a5) x1 a2 a4)), Calls Tryz.prog 17 #[.agg #[.int .i64 t0, .int .u64 (ke0 : Int), .int .u64 ro0, .slice ao n cap], .agg #[.int .i64 t0, .int .u64 (ke0 : Int), .int .u64 ro0, .slice ao' n' cap']] W fun e w' => e = .returned (.bool true) ∧ Below W.heap.size W w' := fun hne W ao n cap ao' n' cap' o o' => (rsame_w (t := t0) (ke := (ke0 : Int)) (ro := ro0) (t' := t0) (ke' := (ke0 : Int)) (ro' := ro0) o o').yes (by rw [st_swap htr.srt hA hB hne])
     unfold smP at hsa
     clear r1 r2 sAB sBA wC lC zA zB hA hB hfA hfB hfC hlA hlB hlC
     generalize stX (stX X0 x1 a2 a4) x1 a3 a5 = XC at c5 c7 hsa
     generalize stX (stX X0 x1 a3 a5) x1 a2 a4 = XE at c6 hsa
     generalize stX X0 x1 a2 a4 = XA at c1 c5
     generalize stX X0 x1 a3 a5 = XB at c2 c6
     generalize wkO X0 x1 a2 = y at c3 hsa
     generalize wkO X0 x1 a3 = z at c4 hsa
     generalize (mpM X0 x1 a2).wr = wb1 at c3
     generalize (mpM X0 x1 a3).wr = wb2 at c4
     generalize mpA X0 x1 a2 = A at c3 hsa
     generalize mpA X0 x1 a3 = B0 at c4 hsa
     by_cases hI : y.id = z.id
     ·have HI : (y.id == z.id) = true := by simpa using hI
      by_cases hJ : A = B0
      ·have HJ : ((A : Int) == (B0 : Int)) = true := by rw [hJ]; exact beq_self_eq_true _
       clear hsa hI hJ
       obtain ⟨D, hD⟩ : ∃ D : Array Value, D = #[.int .i64 t0, .int .u64 (ke0 : Int), .int .u64 ro0, .slice ao0 n0 cap0] := ⟨_, rfl⟩
       rw [← hD] at hzg hfw c1 c2 c3 c4
       rw [← hD]
       clear hD
       go_enter Tryz.func6, Tryz.ntmps6
       go_wp2_with (first
        | go_skip
        | (with_reducible refine wpList_box rfl 25 _ rfl D rfl ?_; intro B V1 hNB hB hk)
        | (with_reducible refine wpList_box rfl 43 _ rfl C1 rfl ?_; intro T1 V2 hNT1 hT1 hk2; replace hB := hB.next hk2; replace hk := hk.trans (hk2.mono hk.size); clear hk2)
        | (with_reducible refine wpList_loadb (by first | kernel_rfl | with_unfolding_all rfl) 25 _ rfl B rfl D hB _ Tryz.underlying25 (by kernel_rfl) hzg ?_)
        | (with_reducible refine wpList_loadb (by first | kernel_rfl | with_unfolding_all rfl) 43 _ rfl T1 rfl C1 hT1 _ Tryz.underlying43 (by kernel_rfl) (size40C hz1) ?_)
        | (go_at_call 7; (with_reducible refine ((hfw _ hk).yes hF).mono ?_); rintro e w44 ⟨rfl, hb4⟩; replace hB := hB.next hb4; replace hT1 := hT1.next hb4; replace hk := hk.trans (hb4.mono hk.size); clear hb4)
        | (go_at_call 8; (with_reducible refine ((hth1 _ hk).yes hR1).mono ?_); rintro e w55 ⟨rfl, hb5⟩; clear hth1; replace hB := hB.next hb5; replace hT1 := hT1.next hb5; replace hk := hk.trans (hb5.mono hk.size); clear hb5)
        | (go_at_call 14; (with_reducible refine (c1 _ hk).mono ?_); rintro e w66 ⟨ao1, n1, cap1, rfl, oW1, hbW1⟩)
        | ((with_reducible refine wpList_alloc rfl 25 rfl zW zero43 ?_); have hx := oW1; clear hx; intro P1 U1 hN21 hPa1 hka1)
        | ((with_reducible refine wpList_store_blk rfl _ _ _ rfl P1 rfl #[.int .i64 t0, .int .u64 (ke0 : Int), .int .u64 ro0, .slice ao1 n1 cap1] rfl zW hPa1 (infoW4 _ _ _ _ _ _) (zW4 _ _ _ _ _ _) (oneW4 _ _ _ _ _ _) ?_); intro X1 hP1 q1; obtain ⟨hbz, oV1⟩ := laidW hbW1 oW1 hN21 hka1 q1; clear oW1 hbW1 hN21 hka1 q1 hPa1; replace hB := hB.next hbz; replace hT1 := hT1.next hbz; replace hk := hk.trans (hbz.mono hk.size); clear hbz; skip)
        | (with_reducible refine wpList_loadb (by first | kernel_rfl | with_unfolding_all rfl) 25 _ rfl P1 rfl #[.int .i64 t0, .int .u64 (ke0 : Int), .int .u64 ro0, .slice ao1 n1 cap1] hP1 _ Tryz.underlying25 (by kernel_rfl) (infoW4 _ _ _ _ _ _) ?_)
        | (go_at_call 14; (with_reducible refine (c2 _ hk).mono ?_); rintro e w66 ⟨ao2, n2, cap2, rfl, oW2, hbW2⟩)
        | ((with_reducible refine wpList_alloc rfl 25 rfl zW zero43 ?_); have hx := oW2; clear hx; intro P2 U2 hN22 hPa2 hka2)
        | ((with_reducible refine wpList_store_blk rfl _ _ _ rfl P2 rfl #[.int .i64 t0, .int .u64 (ke0 : Int), .int .u64 ro0, .slice ao2 n2 cap2] rfl zW hPa2 (infoW4 _ _ _ _ _ _) (zW4 _ _ _ _ _ _) (oneW4 _ _ _ _ _ _) ?_); intro X2 hP2 q2; obtain ⟨hbz, oV2⟩ := laidW hbW2 oW2 hN22 hka2 q2; clear oW2 hbW2 hN22 hka2 q2 hPa2; replace hB := hB.next hbz; replace hT1 := hT1.next hbz; replace hP1 := hP1.next hbz; replace oV1 := oV1.next hbz; replace hk := hk.trans (hbz.mono hk.size); clear hbz; skip)
        | (with_reducible refine wpList_loadb (by first | kernel_rfl | with_unfolding_all rfl) 25 _ rfl P2 rfl #[.int .i64 t0, .int .u64 (ke0 : Int), .int .u64 ro0, .slice ao2 n2 cap2] hP2 _ Tryz.underlying25 (by kernel_rfl) (infoW4 _ _ _ _ _ _) ?_)
        | (go_at_call 10; (with_reducible refine (c3 _ hk).mono ?_); rintro e w77 ⟨CF3, rfl, oF3, hb3⟩)
        | ((with_reducible refine wpList_alloc rfl 43 rfl zC zero40 ?_); have hx := oF3; clear hx; intro P3 U3 hN23 hPa3 hka3)
        | ((with_reducible refine wpList_store_blk rfl _ _ _ rfl P3 rfl CF3 rfl zC hPa3 (size40C oF3.size) (zC_size.trans oF3.size.symm) oF3.one ?_); intro X3 hP3 q3; obtain ⟨hbz, oG3⟩ := laidF hb3 oF3 hN23 hka3 q3; have zG3 := oG3.size; clear oF3 hb3 hN23 hka3 q3 hPa3; replace hB := hB.next hbz; replace hT1 := hT1.next hbz; replace hP1 := hP1.next hbz; replace hP2 := hP2.next hbz; replace oV1 := oV1.next hbz; replace oV2 := oV2.next hbz; replace hk := hk.trans (hbz.mono hk.size); clear hbz; have ki3 := oG3.lt.id; skip)
        | (with_reducible refine wpList_loadb (by first | kernel_rfl | with_unfolding_all rfl) 43 _ rfl P3 rfl CF3 hP3 _ Tryz.underlying43 (by kernel_rfl) (size40C zG3) ?_)
        | (go_at_call 10; (with_reducible refine (c4 _ hk).mono ?_); rintro e w77 ⟨CF4, rfl, oF4, hb4⟩)
        | ((with_reducible refine wpList_alloc rfl 43 rfl zC zero40 ?_); have hx := oF4; clear hx; intro P4 U4 hN24 hPa4 hka4)
        | ((with_reducible refine wpList_store_blk rfl _ _ _ rfl P4 rfl CF4 rfl zC hPa4 (size40C oF4.size) (zC_size.trans oF4.size.symm) oF4.one ?_); intro X4 hP4 q4; obtain ⟨hbz, oG4⟩ := laidF hb4 oF4 hN24 hka4 q4; have zG4 := oG4.size; clear oF4 hb4 hN24 hka4 q4 hPa4; replace hB := hB.next hbz; replace hT1 := hT1.next hbz; replace hP1 := hP1.next hbz; replace hP2 := hP2.next hbz; replace hP3 := hP3.next hbz; replace oV1 := oV1.next hbz; replace oV2 := oV2.next hbz; replace oG3 := oG3.next hbz; replace hk := hk.trans (hbz.mono hk.size); clear hbz; have ki4 := oG4.lt.id; skip)
        | (with_reducible refine wpList_loadb (by first | kernel_rfl | with_unfolding_all rfl) 43 _ rfl P4 rfl CF4 hP4 _ Tryz.underlying43 (by kernel_rfl) (size40C zG4) ?_)
        | (go_at_call 14; (with_reducible refine (c5 _ _ _ _ oV1 hk).mono ?_); rintro e w66 ⟨ao5, n5, cap5, rfl, oW5, hbW5⟩)
        | ((with_reducible refine wpList_alloc rfl 25 rfl zW zero43 ?_); have hx := oW5; clear hx; intro P5 U5 hN25 hPa5 hka5)
        | ((with_reducible refine wpList_store_blk rfl _ _ _ rfl P5 rfl #[.int .i64 t0, .int .u64 (ke0 : Int), .int .u64 ro0, .slice ao5 n5 cap5] rfl zW hPa5 (infoW4 _ _ _ _ _ _) (zW4 _ _ _ _ _ _) (oneW4 _ _ _ _ _ _) ?_); intro X5 hP5 q5; obtain ⟨hbz, oV5⟩ := laidW hbW5 oW5 hN25 hka5 q5; clear oW5 hbW5 hN25 hka5 q5 hPa5; replace hB := hB.next hbz; replace hT1 := hT1.next hbz; replace hP1 := hP1.next hbz; replace hP2 := hP2.next hbz; replace hP3 := hP3.next hbz; replace hP4 := hP4.next hbz; replace oV1 := oV1.next hbz; replace oV2 := oV2.next hbz; replace oG3 := oG3.next hbz; replace oG4 := oG4.next hbz; replace hk := hk.trans (hbz.mono hk.size); clear hbz; skip)
        | (with_reducible refine wpList_loadb (by first | kernel_rfl | with_unfolding_all rfl) 25 _ rfl P5 rfl #[.int .i64 t0, .int .u64 (ke0 : Int), .int .u64 ro0, .slice ao5 n5 cap5] hP5 _ Tryz.underlying25 (by kernel_rfl) (infoW4 _ _ _ _ _ _) ?_)
        | (go_at_call 14; (with_reducible refine (c6 _ _ _ _ oV2 hk).mono ?_); rintro e w66 ⟨ao6, n6, cap6, rfl, oW6, hbW6⟩)
        | ((with_reducible refine wpList_alloc rfl 25 rfl zW zero43 ?_); have hx := oW6; clear hx; intro P6 U6 hN26 hPa6 hka6)
        | ((with_reducible refine wpList_store_blk rfl _ _ _ rfl P6 rfl #[.int .i64 t0, .int .u64 (ke0 : Int), .int .u64 ro0, .slice ao6 n6 cap6] rfl zW hPa6 (infoW4 _ _ _ _ _ _) (zW4 _ _ _ _ _ _) (oneW4 _ _ _ _ _ _) ?_); intro X6 hP6 q6; obtain ⟨hbz, oV6⟩ := laidW hbW6 oW6 hN26 hka6 q6; clear oW6 hbW6 hN26 hka6 q6 hPa6; replace hB := hB.next hbz; replace hT1 := hT1.next hbz; replace hP1 := hP1.next hbz; replace hP2 := hP2.next hbz; replace hP3 := hP3.next hbz; replace hP4 := hP4.next hbz; replace hP5 := hP5.next hbz; replace oV1 := oV1.next hbz; replace oV2 := oV2.next hbz; replace oG3 := oG3.next hbz; replace oG4 := oG4.next hbz; replace oV5 := oV5.next hbz; replace hk := hk.trans (hbz.mono hk.size); clear hbz; skip)
        | (with_reducible refine wpList_loadb (by first | kernel_rfl | with_unfolding_all rfl) 25 _ rfl P6 rfl #[.int .i64 t0, .int .u64 (ke0 : Int), .int .u64 ro0, .slice ao6 n6 cap6] hP6 _ Tryz.underlying25 (by kernel_rfl) (infoW4 _ _ _ _ _ _) ?_)
        | (go_at_call 12; (with_reducible refine (c7 _ _ _ _ oV5 hk).mono ?_); rintro e w3 ⟨rfl, hb3⟩; replace hB := hB.next hb3; replace hT1 := hT1.next hb3; replace hP1 := hP1.next hb3; replace hP2 := hP2.next hb3; replace hP3 := hP3.next hb3; replace hP4 := hP4.next hb3; replace hP5 := hP5.next hb3; replace hP6 := hP6.next hb3; replace oV1 := oV1.next hb3; replace oV2 := oV2.next hb3; replace oG3 := oG3.next hb3; replace oG4 := oG4.next hb3; replace oV5 := oV5.next hb3; replace oV6 := oV6.next hb3; replace hk := hk.trans (hb3.mono hk.size); clear hb3; skip)
        | (with_reducible refine wpList_load1 (by first | kernel_rfl | with_unfolding_all rfl) _ _ rfl P3 _ rfl _ _ hP3 _ ki3 ga1 ?_)
        | (with_reducible refine wpList_load1 (by first | kernel_rfl | with_unfolding_all rfl) _ _ rfl P4 _ rfl _ _ hP4 _ ki4 ga1 ?_)
        | (go_at_call 9; (with_reducible refine (awake18_any _).mono ?_); rintro e w99 ⟨rfl, hb9⟩; replace hk := hk.trans (hb9.mono hk.size)))
       go_ret
       exact ⟨rfl, hk⟩
      ·have HJ : ((A : Int) == (B0 : Int)) = false := beq_false_of_ne (by omega)
       replace hsa := hsa (fun q => hJ q.2)
       clear hI hJ
       obtain ⟨D, hD⟩ : ∃ D : Array Value, D = #[.int .i64 t0, .int .u64 (ke0 : Int), .int .u64 ro0, .slice ao0 n0 cap0] := ⟨_, rfl⟩
       rw [← hD] at hzg hfw c1 c2 c3 c4
       rw [← hD]
       clear hD
       go_enter Tryz.func6, Tryz.ntmps6
       go_wp2_with (first
        | go_skip
        | (with_reducible refine wpList_box rfl 25 _ rfl D rfl ?_; intro B V1 hNB hB hk)
        | (with_reducible refine wpList_box rfl 43 _ rfl C1 rfl ?_; intro T1 V2 hNT1 hT1 hk2; replace hB := hB.next hk2; replace hk := hk.trans (hk2.mono hk.size); clear hk2)
        | (with_reducible refine wpList_loadb (by first | kernel_rfl | with_unfolding_all rfl) 25 _ rfl B rfl D hB _ Tryz.underlying25 (by kernel_rfl) hzg ?_)
        | (with_reducible refine wpList_loadb (by first | kernel_rfl | with_unfolding_all rfl) 43 _ rfl T1 rfl C1 hT1 _ Tryz.underlying43 (by kernel_rfl) (size40C hz1) ?_)
        | (go_at_call 7; (with_reducible refine ((hfw _ hk).yes hF).mono ?_); rintro e w44 ⟨rfl, hb4⟩; replace hB := hB.next hb4; replace hT1 := hT1.next hb4; replace hk := hk.trans (hb4.mono hk.size); clear hb4)
        | (go_at_call 8; (with_reducible refine ((hth1 _ hk).yes hR1).mono ?_); rintro e w55 ⟨rfl, hb5⟩; clear hth1; replace hB := hB.next hb5; replace hT1 := hT1.next hb5; replace hk := hk.trans (hb5.mono hk.size); clear hb5)
        | (go_at_call 14; (with_reducible refine (c1 _ hk).mono ?_); rintro e w66 ⟨ao1, n1, cap1, rfl, oW1, hbW1⟩)
        | ((with_reducible refine wpList_alloc rfl 25 rfl zW zero43 ?_); have hx := oW1; clear hx; intro P1 U1 hN21 hPa1 hka1)
        | ((with_reducible refine wpList_store_blk rfl _ _ _ rfl P1 rfl #[.int .i64 t0, .int .u64 (ke0 : Int), .int .u64 ro0, .slice ao1 n1 cap1] rfl zW hPa1 (infoW4 _ _ _ _ _ _) (zW4 _ _ _ _ _ _) (oneW4 _ _ _ _ _ _) ?_); intro X1 hP1 q1; obtain ⟨hbz, oV1⟩ := laidW hbW1 oW1 hN21 hka1 q1; clear oW1 hbW1 hN21 hka1 q1 hPa1; replace hB := hB.next hbz; replace hT1 := hT1.next hbz; replace hk := hk.trans (hbz.mono hk.size); clear hbz; skip)
        | (with_reducible refine wpList_loadb (by first | kernel_rfl | with_unfolding_all rfl) 25 _ rfl P1 rfl #[.int .i64 t0, .int .u64 (ke0 : Int), .int .u64 ro0, .slice ao1 n1 cap1] hP1 _ Tryz.underlying25 (by kernel_rfl) (infoW4 _ _ _ _ _ _) ?_)
        | (go_at_call 14; (with_reducible refine (c2 _ hk).mono ?_); rintro e w66 ⟨ao2, n2, cap2, rfl, oW2, hbW2⟩)
        | ((with_reducible refine wpList_alloc rfl 25 rfl zW zero43 ?_); have hx := oW2; clear hx; intro P2 U2 hN22 hPa2 hka2)
        | ((with_reducible refine wpList_store_blk rfl _ _ _ rfl P2 rfl #[.int .i64 t0, .int .u64 (ke0 : Int), .int .u64 ro0, .slice ao2 n2 cap2] rfl zW hPa2 (infoW4 _ _ _ _ _ _) (zW4 _ _ _ _ _ _) (oneW4 _ _ _ _ _ _) ?_); intro X2 hP2 q2; obtain ⟨hbz, oV2⟩ := laidW hbW2 oW2 hN22 hka2 q2; clear oW2 hbW2 hN22 hka2 q2 hPa2; replace hB := hB.next hbz; replace hT1 := hT1.next hbz; replace hP1 := hP1.next hbz; replace oV1 := oV1.next hbz; replace hk := hk.trans (hbz.mono hk.size); clear hbz; skip)
        | (with_reducible refine wpList_loadb (by first | kernel_rfl | with_unfolding_all rfl) 25 _ rfl P2 rfl #[.int .i64 t0, .int .u64 (ke0 : Int), .int .u64 ro0, .slice ao2 n2 cap2] hP2 _ Tryz.underlying25 (by kernel_rfl) (infoW4 _ _ _ _ _ _) ?_)
        | (go_at_call 10; (with_reducible refine (c3 _ hk).mono ?_); rintro e w77 ⟨CF3, rfl, oF3, hb3⟩)
        | ((with_reducible refine wpList_alloc rfl 43 rfl zC zero40 ?_); have hx := oF3; clear hx; intro P3 U3 hN23 hPa3 hka3)
        | ((with_reducible refine wpList_store_blk rfl _ _ _ rfl P3 rfl CF3 rfl zC hPa3 (size40C oF3.size) (zC_size.trans oF3.size.symm) oF3.one ?_); intro X3 hP3 q3; obtain ⟨hbz, oG3⟩ := laidF hb3 oF3 hN23 hka3 q3; have zG3 := oG3.size; clear oF3 hb3 hN23 hka3 q3 hPa3; replace hB := hB.next hbz; replace hT1 := hT1.next hbz; replace hP1 := hP1.next hbz; replace hP2 := hP2.next hbz; replace oV1 := oV1.next hbz; replace oV2 := oV2.next hbz; replace hk := hk.trans (hbz.mono hk.size); clear hbz; have ki3 := oG3.lt.id; skip)
        | (with_reducible refine wpList_loadb (by first | kernel_rfl | with_unfolding_all rfl) 43 _ rfl P3 rfl CF3 hP3 _ Tryz.underlying43 (by kernel_rfl) (size40C zG3) ?_)
        | (go_at_call 10; (with_reducible refine (c4 _ hk).mono ?_); rintro e w77 ⟨CF4, rfl, oF4, hb4⟩)
        | ((with_reducible refine wpList_alloc rfl 43 rfl zC zero40 ?_); have hx := oF4; clear hx; intro P4 U4 hN24 hPa4 hka4)
        | ((with_reducible refine wpList_store_blk rfl _ _ _ rfl P4 rfl CF4 rfl zC hPa4 (size40C oF4.size) (zC_size.trans oF4.size.symm) oF4.one ?_); intro X4 hP4 q4; obtain ⟨hbz, oG4⟩ := laidF hb4 oF4 hN24 hka4 q4; have zG4 := oG4.size; clear oF4 hb4 hN24 hka4 q4 hPa4; replace hB := hB.next hbz; replace hT1 := hT1.next hbz; replace hP1 := hP1.next hbz; replace hP2 := hP2.next hbz; replace hP3 := hP3.next hbz; replace oV1 := oV1.next hbz; replace oV2 := oV2.next hbz; replace oG3 := oG3.next hbz; replace hk := hk.trans (hbz.mono hk.size); clear hbz; have ki4 := oG4.lt.id; skip)
        | (with_reducible refine wpList_loadb (by first | kernel_rfl | with_unfolding_all rfl) 43 _ rfl P4 rfl CF4 hP4 _ Tryz.underlying43 (by kernel_rfl) (size40C zG4) ?_)
        | (go_at_call 14; (with_reducible refine (c5 _ _ _ _ oV1 hk).mono ?_); rintro e w66 ⟨ao5, n5, cap5, rfl, oW5, hbW5⟩)
        | ((with_reducible refine wpList_alloc rfl 25 rfl zW zero43 ?_); have hx := oW5; clear hx; intro P5 U5 hN25 hPa5 hka5)
        | ((with_reducible refine wpList_store_blk rfl _ _ _ rfl P5 rfl #[.int .i64 t0, .int .u64 (ke0 : Int), .int .u64 ro0, .slice ao5 n5 cap5] rfl zW hPa5 (infoW4 _ _ _ _ _ _) (zW4 _ _ _ _ _ _) (oneW4 _ _ _ _ _ _) ?_); intro X5 hP5 q5; obtain ⟨hbz, oV5⟩ := laidW hbW5 oW5 hN25 hka5 q5; clear oW5 hbW5 hN25 hka5 q5 hPa5; replace hB := hB.next hbz; replace hT1 := hT1.next hbz; replace hP1 := hP1.next hbz; replace hP2 := hP2.next hbz; replace hP3 := hP3.next hbz; replace hP4 := hP4.next hbz; replace oV1 := oV1.next hbz; replace oV2 := oV2.next hbz; replace oG3 := oG3.next hbz; replace oG4 := oG4.next hbz; replace hk := hk.trans (hbz.mono hk.size); clear hbz; skip)
        | (with_reducible refine wpList_loadb (by first | kernel_rfl | with_unfolding_all rfl) 25 _ rfl P5 rfl #[.int .i64 t0, .int .u64 (ke0 : Int), .int .u64 ro0, .slice ao5 n5 cap5] hP5 _ Tryz.underlying25 (by kernel_rfl) (infoW4 _ _ _ _ _ _) ?_)
        | (go_at_call 14; (with_reducible refine (c6 _ _ _ _ oV2 hk).mono ?_); rintro e w66 ⟨ao6, n6, cap6, rfl, oW6, hbW6⟩)
        | ((with_reducible refine wpList_alloc rfl 25 rfl zW zero43 ?_); have hx := oW6; clear hx; intro P6 U6 hN26 hPa6 hka6)
        | ((with_reducible refine wpList_store_blk rfl _ _ _ rfl P6 rfl #[.int .i64 t0, .int .u64 (ke0 : Int), .int .u64 ro0, .slice ao6 n6 cap6] rfl zW hPa6 (infoW4 _ _ _ _ _ _) (zW4 _ _ _ _ _ _) (oneW4 _ _ _ _ _ _) ?_); intro X6 hP6 q6; obtain ⟨hbz, oV6⟩ := laidW hbW6 oW6 hN26 hka6 q6; clear oW6 hbW6 hN26 hka6 q6 hPa6; replace hB := hB.next hbz; replace hT1 := hT1.next hbz; replace hP1 := hP1.next hbz; replace hP2 := hP2.next hbz; replace hP3 := hP3.next hbz; replace hP4 := hP4.next hbz; replace hP5 := hP5.next hbz; replace oV1 := oV1.next hbz; replace oV2 := oV2.next hbz; replace oG3 := oG3.next hbz; replace oG4 := oG4.next hbz; replace oV5 := oV5.next hbz; replace hk := hk.trans (hbz.mono hk.size); clear hbz; skip)
        | (with_reducible refine wpList_loadb (by first | kernel_rfl | with_unfolding_all rfl) 25 _ rfl P6 rfl #[.int .i64 t0, .int .u64 (ke0 : Int), .int .u64 ro0, .slice ao6 n6 cap6] hP6 _ Tryz.underlying25 (by kernel_rfl) (infoW4 _ _ _ _ _ _) ?_)
        | (go_at_call 12; (with_reducible refine (c7 _ _ _ _ oV5 hk).mono ?_); rintro e w3 ⟨rfl, hb3⟩; replace hB := hB.next hb3; replace hT1 := hT1.next hb3; replace hP1 := hP1.next hb3; replace hP2 := hP2.next hb3; replace hP3 := hP3.next hb3; replace hP4 := hP4.next hb3; replace hP5 := hP5.next hb3; replace hP6 := hP6.next hb3; replace oV1 := oV1.next hb3; replace oV2 := oV2.next hb3; replace oG3 := oG3.next hb3; replace oG4 := oG4.next hb3; replace oV5 := oV5.next hb3; replace oV6 := oV6.next hb3; replace hk := hk.trans (hb3.mono hk.size); clear hb3; skip)
        | (with_reducible refine wpList_load1 (by first | kernel_rfl | with_unfolding_all rfl) _ _ rfl P3 _ rfl _ _ hP3 _ ki3 ga1 ?_)
        | (with_reducible refine wpList_load1 (by first | kernel_rfl | with_unfolding_all rfl) _ _ rfl P4 _ rfl _ _ hP4 _ ki4 ga1 ?_)
        | (go_at_call 17; (with_reducible refine (hsa _ _ _ _ _ _ _ oV5 oV6).mono ?_); rintro e w4 ⟨rfl, hb7⟩; replace hB := hB.next hb7; replace hT1 := hT1.next hb7; replace hP1 := hP1.next hb7; replace hP2 := hP2.next hb7; replace hP3 := hP3.next hb7; replace hP4 := hP4.next hb7; replace hP5 := hP5.next hb7; replace hP6 := hP6.next hb7; replace oV1 := oV1.next hb7; replace oV2 := oV2.next hb7; replace oG3 := oG3.next hb7; replace oG4 := oG4.next hb7; replace oV5 := oV5.next hb7; replace oV6 := oV6.next hb7; replace hk := hk.trans (hb7.mono hk.size); clear hb7; skip)
        | (go_at_call 9; (with_reducible refine (awake18_any _).mono ?_); rintro e w99 ⟨rfl, hb9⟩; replace hk := hk.trans (hb9.mono hk.size)))
       go_ret
       exact ⟨rfl, hk⟩
     ·have HI : (y.id == z.id) = false := by simpa using hI
      replace hsa := hsa (fun q => hI q.1)
      clear hI
      obtain ⟨D, hD⟩ : ∃ D : Array Value, D = #[.int .i64 t0, .int .u64 (ke0 : Int), .int .u64 ro0, .slice ao0 n0 cap0] := ⟨_, rfl⟩
      rw [← hD] at hzg hfw c1 c2 c3 c4
      rw [← hD]
      clear hD
      go_enter Tryz.func6, Tryz.ntmps6
      go_wp2_with (first
       | go_skip
       | (with_reducible refine wpList_box rfl 25 _ rfl D rfl ?_; intro B V1 hNB hB hk)
       | (with_reducible refine wpList_box rfl 43 _ rfl C1 rfl ?_; intro T1 V2 hNT1 hT1 hk2; replace hB := hB.next hk2; replace hk := hk.trans (hk2.mono hk.size); clear hk2)
       | (with_reducible refine wpList_loadb (by first | kernel_rfl | with_unfolding_all rfl) 25 _ rfl B rfl D hB _ Tryz.underlying25 (by kernel_rfl) hzg ?_)
       | (with_reducible refine wpList_loadb (by first | kernel_rfl | with_unfolding_all rfl) 43 _ rfl T1 rfl C1 hT1 _ Tryz.underlying43 (by kernel_rfl) (size40C hz1) ?_)
       | (go_at_call 7; (with_reducible refine ((hfw _ hk).yes hF).mono ?_); rintro e w44 ⟨rfl, hb4⟩; replace hB := hB.next hb4; replace hT1 := hT1.next hb4; replace hk := hk.trans (hb4.mono hk.size); clear hb4)
       | (go_at_call 8; (with_reducible refine ((hth1 _ hk).yes hR1).mono ?_); rintro e w55 ⟨rfl, hb5⟩; clear hth1; replace hB := hB.next hb5; replace hT1 := hT1.next hb5; replace hk := hk.trans (hb5.mono hk.size); clear hb5)
       | (go_at_call 14; (with_reducible refine (c1 _ hk).mono ?_); rintro e w66 ⟨ao1, n1, cap1, rfl, oW1, hbW1⟩)
       | ((with_reducible refine wpList_alloc rfl 25 rfl zW zero43 ?_); have hx := oW1; clear hx; intro P1 U1 hN21 hPa1 hka1)
       | ((with_reducible refine wpList_store_blk rfl _ _ _ rfl P1 rfl #[.int .i64 t0, .int .u64 (ke0 : Int), .int .u64 ro0, .slice ao1 n1 cap1] rfl zW hPa1 (infoW4 _ _ _ _ _ _) (zW4 _ _ _ _ _ _) (oneW4 _ _ _ _ _ _) ?_); intro X1 hP1 q1; obtain ⟨hbz, oV1⟩ := laidW hbW1 oW1 hN21 hka1 q1; clear oW1 hbW1 hN21 hka1 q1 hPa1; replace hB := hB.next hbz; replace hT1 := hT1.next hbz; replace hk := hk.trans (hbz.mono hk.size); clear hbz; skip)
       | (with_reducible refine wpList_loadb (by first | kernel_rfl | with_unfolding_all rfl) 25 _ rfl P1 rfl #[.int .i64 t0, .int .u64 (ke0 : Int), .int .u64 ro0, .slice ao1 n1 cap1] hP1 _ Tryz.underlying25 (by kernel_rfl) (infoW4 _ _ _ _ _ _) ?_)
       | (go_at_call 14; (with_reducible refine (c2 _ hk).mono ?_); rintro e w66 ⟨ao2, n2, cap2, rfl, oW2, hbW2⟩)
       | ((with_reducible refine wpList_alloc rfl 25 rfl zW zero43 ?_); have hx := oW2; clear hx; intro P2 U2 hN22 hPa2 hka2)
       | ((with_reducible refine wpList_store_blk rfl _ _ _ rfl P2 rfl #[.int .i64 t0, .int .u64 (ke0 : Int), .int .u64 ro0, .slice ao2 n2 cap2] rfl zW hPa2 (infoW4 _ _ _ _ _ _) (zW4 _ _ _ _ _ _) (oneW4 _ _ _ _ _ _) ?_); intro X2 hP2 q2; obtain ⟨hbz, oV2⟩ := laidW hbW2 oW2 hN22 hka2 q2; clear oW2 hbW2 hN22 hka2 q2 hPa2; replace hB := hB.next hbz; replace hT1 := hT1.next hbz; replace hP1 := hP1.next hbz; replace oV1 := oV1.next hbz; replace hk := hk.trans (hbz.mono hk.size); clear hbz; skip)
       | (with_reducible refine wpList_loadb (by first | kernel_rfl | with_unfolding_all rfl) 25 _ rfl P2 rfl #[.int .i64 t0, .int .u64 (ke0 : Int), .int .u64 ro0, .slice ao2 n2 cap2] hP2 _ Tryz.underlying25 (by kernel_rfl) (infoW4 _ _ _ _ _ _) ?_)
       | (go_at_call 10; (with_reducible refine (c3 _ hk).mono ?_); rintro e w77 ⟨CF3, rfl, oF3, hb3⟩)
       | ((with_reducible refine wpList_alloc rfl 43 rfl zC zero40 ?_); have hx := oF3; clear hx; intro P3 U3 hN23 hPa3 hka3)
       | ((with_reducible refine wpList_store_blk rfl _ _ _ rfl P3 rfl CF3 rfl zC hPa3 (size40C oF3.size) (zC_size.trans oF3.size.symm) oF3.one ?_); intro X3 hP3 q3; obtain ⟨hbz, oG3⟩ := laidF hb3 oF3 hN23 hka3 q3; have zG3 := oG3.size; clear oF3 hb3 hN23 hka3 q3 hPa3; replace hB := hB.next hbz; replace hT1 := hT1.next hbz; replace hP1 := hP1.next hbz; replace hP2 := hP2.next hbz; replace oV1 := oV1.next hbz; replace oV2 := oV2.next hbz; replace hk := hk.trans (hbz.mono hk.size); clear hbz; have ki3 := oG3.lt.id; skip)
       | (with_reducible refine wpList_loadb (by first | kernel_rfl | with_unfolding_all rfl) 43 _ rfl P3 rfl CF3 hP3 _ Tryz.underlying43 (by kernel_rfl) (size40C zG3) ?_)
       | (go_at_call 10; (with_reducible refine (c4 _ hk).mono ?_); rintro e w77 ⟨CF4, rfl, oF4, hb4⟩)
       | ((with_reducible refine wpList_alloc rfl 43 rfl zC zero40 ?_); have hx := oF4; clear hx; intro P4 U4 hN24 hPa4 hka4)
       | ((with_reducible refine wpList_store_blk rfl _ _ _ rfl P4 rfl CF4 rfl zC hPa4 (size40C oF4.size) (zC_size.trans oF4.size.symm) oF4.one ?_); intro X4 hP4 q4; obtain ⟨hbz, oG4⟩ := laidF hb4 oF4 hN24 hka4 q4; have zG4 := oG4.size; clear oF4 hb4 hN24 hka4 q4 hPa4; replace hB := hB.next hbz; replace hT1 := hT1.next hbz; replace hP1 := hP1.next hbz; replace hP2 := hP2.next hbz; replace hP3 := hP3.next hbz; replace oV1 := oV1.next hbz; replace oV2 := oV2.next hbz; replace oG3 := oG3.next hbz; replace hk := hk.trans (hbz.mono hk.size); clear hbz; have ki4 := oG4.lt.id; skip)
       | (with_reducible refine wpList_loadb (by first | kernel_rfl | with_unfolding_all rfl) 43 _ rfl P4 rfl CF4 hP4 _ Tryz.underlying43 (by kernel_rfl) (size40C zG4) ?_)
       | (go_at_call 14; (with_reducible refine (c5 _ _ _ _ oV1 hk).mono ?_); rintro e w66 ⟨ao5, n5, cap5, rfl, oW5, hbW5⟩)
       | ((with_reducible refine wpList_alloc rfl 25 rfl zW zero43 ?_); have hx := oW5; clear hx; intro P5 U5 hN25 hPa5 hka5)
       | ((with_reducible refine wpList_store_blk rfl _ _ _ rfl P5 rfl #[.int .i64 t0, .int .u64 (ke0 : Int), .int .u64 ro0, .slice ao5 n5 cap5] rfl zW hPa5 (infoW4 _ _ _ _ _ _) (zW4 _ _ _ _ _ _) (oneW4 _ _ _ _ _ _) ?_); intro X5 hP5 q5; obtain ⟨hbz, oV5⟩ := laidW hbW5 oW5 hN25 hka5 q5; clear oW5 hbW5 hN25 hka5 q5 hPa5; replace hB := hB.next hbz; replace hT1 := hT1.next hbz; replace hP1 := hP1.next hbz; replace hP2 := hP2.next hbz; replace hP3 := hP3.next hbz; replace hP4 := hP4.next hbz; replace oV1 := oV1.next hbz; replace oV2 := oV2.next hbz; replace oG3 := oG3.next hbz; replace oG4 := oG4.next hbz; replace hk := hk.trans (hbz.mono hk.size); clear hbz; skip)
       | (with_reducible refine wpList_loadb (by first | kernel_rfl | with_unfolding_all rfl) 25 _ rfl P5 rfl #[.int .i64 t0, .int .u64 (ke0 : Int), .int .u64 ro0, .slice ao5 n5 cap5] hP5 _ Tryz.underlying25 (by kernel_rfl) (infoW4 _ _ _ _ _ _) ?_)
       | (go_at_call 14; (with_reducible refine (c6 _ _ _ _ oV2 hk).mono ?_); rintro e w66 ⟨ao6, n6, cap6, rfl, oW6, hbW6⟩)
       | ((with_reducible refine wpList_alloc rfl 25 rfl zW zero43 ?_); have hx := oW6; clear hx; intro P6 U6 hN26 hPa6 hka6)
       | ((with_reducible refine wpList_store_blk rfl _ _ _ rfl P6 rfl #[.int .i64 t0, .int .u64 (ke0 : Int), .int .u64 ro0, .slice ao6 n6 cap6] rfl zW hPa6 (infoW4 _ _ _ _ _ _) (zW4 _ _ _ _ _ _) (oneW4 _ _ _ _ _ _) ?_); intro X6 hP6 q6; obtain ⟨hbz, oV6⟩ := laidW hbW6 oW6 hN26 hka6 q6; clear oW6 hbW6 hN26 hka6 q6 hPa6; replace hB := hB.next hbz; replace hT1 := hT1.next hbz; replace hP1 := hP1.next hbz; replace hP2 := hP2.next hbz; replace hP3 := hP3.next hbz; replace hP4 := hP4.next hbz; replace hP5 := hP5.next hbz; replace oV1 := oV1.next hbz; replace oV2 := oV2.next hbz; replace oG3 := oG3.next hbz; replace oG4 := oG4.next hbz; replace oV5 := oV5.next hbz; replace hk := hk.trans (hbz.mono hk.size); clear hbz; skip)
       | (with_reducible refine wpList_loadb (by first | kernel_rfl | with_unfolding_all rfl) 25 _ rfl P6 rfl #[.int .i64 t0, .int .u64 (ke0 : Int), .int .u64 ro0, .slice ao6 n6 cap6] hP6 _ Tryz.underlying25 (by kernel_rfl) (infoW4 _ _ _ _ _ _) ?_)
       | (go_at_call 12; (with_reducible refine (c7 _ _ _ _ oV5 hk).mono ?_); rintro e w3 ⟨rfl, hb3⟩; replace hB := hB.next hb3; replace hT1 := hT1.next hb3; replace hP1 := hP1.next hb3; replace hP2 := hP2.next hb3; replace hP3 := hP3.next hb3; replace hP4 := hP4.next hb3; replace hP5 := hP5.next hb3; replace hP6 := hP6.next hb3; replace oV1 := oV1.next hb3; replace oV2 := oV2.next hb3; replace oG3 := oG3.next hb3; replace oG4 := oG4.next hb3; replace oV5 := oV5.next hb3; replace oV6 := oV6.next hb3; replace hk := hk.trans (hb3.mono hk.size); clear hb3; skip)
       | (with_reducible refine wpList_load1 (by first | kernel_rfl | with_unfolding_all rfl) _ _ rfl P3 _ rfl _ _ hP3 _ ki3 ga1 ?_)
       | (with_reducible refine wpList_load1 (by first | kernel_rfl | with_unfolding_all rfl) _ _ rfl P4 _ rfl _ _ hP4 _ ki4 ga1 ?_)
       | (go_at_call 17; (with_reducible refine (hsa _ _ _ _ _ _ _ oV5 oV6).mono ?_); rintro e w4 ⟨rfl, hb7⟩; replace hB := hB.next hb7; replace hT1 := hT1.next hb7; replace hP1 := hP1.next hb7; replace hP2 := hP2.next hb7; replace hP3 := hP3.next hb7; replace hP4 := hP4.next hb7; replace hP5 := hP5.next hb7; replace hP6 := hP6.next hb7; replace oV1 := oV1.next hb7; replace oV2 := oV2.next hb7; replace oG3 := oG3.next hb7; replace oG4 := oG4.next hb7; replace oV5 := oV5.next hb7; replace oV6 := oV6.next hb7; replace hk := hk.trans (hb7.mono hk.size); clear hb7; skip)
       | (go_at_call 9; (with_reducible refine (awake18_any _).mono ?_); rintro e w99 ⟨rfl, hb9⟩; replace hk := hk.trans (hb9.mono hk.size)))
      go_ret
      exact ⟨rfl, hk⟩
  ·skip
   obtain ⟨D, hD⟩ : ∃ D : Array Value, D = #[.int .i64 t0, .int .u64 (ke0 : Int), .int .u64 ro0, .slice ao0 n0 cap0] := ⟨_, rfl⟩
   rw [← hD] at hzg hfw
   rw [← hD]
   clear hD
   go_enter Tryz.func6, Tryz.ntmps6
   go_wp2_with (first
    | go_skip
    | (with_reducible refine wpList_box rfl 25 _ rfl D rfl ?_; intro B V1 hNB hB hk)
    | (with_reducible refine wpList_box rfl 43 _ rfl C1 rfl ?_; intro T1 V2 hNT1 hT1 hk2; replace hB := hB.next hk2; replace hk := hk.trans (hk2.mono hk.size); clear hk2)
    | (with_reducible refine wpList_loadb (by first | kernel_rfl | with_unfolding_all rfl) 25 _ rfl B rfl D hB _ Tryz.underlying25 (by kernel_rfl) hzg ?_)
    | (with_reducible refine wpList_loadb (by first | kernel_rfl | with_unfolding_all rfl) 43 _ rfl T1 rfl C1 hT1 _ Tryz.underlying43 (by kernel_rfl) (size40C hz1) ?_)
    | (go_at_call 7; (with_reducible refine ((hfw _ hk).yes hF).mono ?_); rintro e w44 ⟨rfl, hb4⟩; replace hB := hB.next hb4; replace hT1 := hT1.next hb4; replace hk := hk.trans (hb4.mono hk.size); clear hb4)
    | (go_at_call 8; (with_reducible refine ((hth1 _ hk).no hR1).mono ?_); rintro e w55 ⟨rfl, hb5⟩; clear hth1; replace hB := hB.next hb5; replace hT1 := hT1.next hb5; replace hk := hk.trans (hb5.mono hk.size); clear hb5)
    | (go_at_call 9; (with_reducible refine (awake18_any _).mono ?_); rintro e w99 ⟨rfl, hb9⟩; replace hk := hk.trans (hb9.mono hk.size)))
   go_ret
   exact ⟨rfl, hk⟩
 ·skip
  obtain ⟨D, hD⟩ : ∃ D : Array Value, D = #[.int .i64 t0, .int .u64 (ke0 : Int), .int .u64 ro0, .slice ao0 n0 cap0] := ⟨_, rfl⟩
  rw [← hD] at hzg hfw
  rw [← hD]
  clear hD
  go_enter Tryz.func6, Tryz.ntmps6
  go_wp2_with (first
   | go_skip
   | (with_reducible refine wpList_box rfl 25 _ rfl D rfl ?_; intro B V1 hNB hB hk)
   | (with_reducible refine wpList_box rfl 43 _ rfl C1 rfl ?_; intro T1 V2 hNT1 hT1 hk2; replace hB := hB.next hk2; replace hk := hk.trans (hk2.mono hk.size); clear hk2)
   | (with_reducible refine wpList_loadb (by first | kernel_rfl | with_unfolding_all rfl) 25 _ rfl B rfl D hB _ Tryz.underlying25 (by kernel_rfl) hzg ?_)
   | (with_reducible refine wpList_loadb (by first | kernel_rfl | with_unfolding_all rfl) 43 _ rfl T1 rfl C1 hT1 _ Tryz.underlying43 (by kernel_rfl) (size40C hz1) ?_)
   | (go_at_call 7; (with_reducible refine ((hfw _ hk).no hF).mono ?_); rintro e w44 ⟨rfl, hb4⟩; replace hB := hB.next hb4; replace hT1 := hT1.next hb4; replace hk := hk.trans (hb4.mono hk.size); clear hb4)
   | (go_at_call 9; (with_reducible refine (awake18_any _).mono ?_); rintro e w99 ⟨rfl, hb9⟩; replace hk := hk.trans (hb9.mono hk.size)))
  go_ret
  exact ⟨rfl, hk⟩

theorem lifted (os : Os) (started : os.Started) (H : Type) (enc : TypeId × Value → H) :
  ReturnsInHanded {} Tryz.checked os 6 .any (Rows.memSwapsSpec.pre6 enc Tryz.prog Tryz.f6 Rows.memSwapsRow.domain false) (Rows.memSwapsSpec.post enc Tryz.prog Tryz.f6 false true false false) := by
 refine returnsInHanded_of_change (C := Tryz.checked) own started (by kernel_rfl) Tryz.func6
  (ChangeSpec.witness6 (enc := enc) (C := Tryz.checked) false ⟨#[], #[.agg #[.int .i64 0, .int .u64 0, .int .u64 0, .slice none 0 0], .agg zC, .int .u64 0, .int .u64 0, .int .u64 0, .int .u64 0], []⟩ 8 (by kernel_rfl) (by kernel_rfl) (by kernel_rfl) (by kernel_rfl)) ?_
 intro W base args ds gs before hval0 hW hcnd _
 have hval : ∀ (j : Nat) t v, Tryz.f6.params[j]? = some t → args[j]? = some v → Value.okWide Tryz.prog W .any base t v := hval0
 have hW' := hW
 obtain ⟨p, q, hA0, hV, rfl, hfz, hnd⟩ := hW
 have hA : DataW.TrodAll enc Tryz.prog W 0 (fun _ => true) true Tryz.f6.params.toList args.toList ds p := hA0
 rw [Tryz.params6] at hA hval
 obtain ⟨v0, vs0, d0, ds0, p0, q0, hargs, rfl, rfl, h0, r0⟩ := trodAll_cons hA
 obtain ⟨v1, vs1, d1, ds1, p1, q1, rfl, rfl, rfl, h1, r1⟩ := trodAll_cons r0
 obtain ⟨v2, vs2, d2, ds2, p2, q2, rfl, rfl, rfl, h2, r2⟩ := trodAll_cons r1
 obtain ⟨v3, vs3, d3, ds3, p3, q3, rfl, rfl, rfl, h3, r3⟩ := trodAll_cons r2
 obtain ⟨v4, vs4, d4, ds4, p4, q4, rfl, rfl, rfl, h4, r4⟩ := trodAll_cons r3
 obtain ⟨v5, vs5, d5, ds5, p5, q5, rfl, rfl, rfl, h5, r5⟩ := trodAll_cons r4
 obtain ⟨rfl, rfl, rfl⟩ := trodAll_nil r5
 obtain rfl : args = #[v0, v1, v2, v3, v4, v5] := by cases args; simp_all
 obtain ⟨rfl, rfl⟩ := trodVars_none hV
 obtain ⟨t0, ke0, ro0, ao0, n0, cap0, X0, rfl, l0⟩ := worldW_of_trod (hval 0 25 v0 rfl rfl) h0
 have k0 := h0
 have lt0 : ∀ x ∈ p0, x.block < W.heap.size := by obtain ⟨m, hm⟩ := k0; exact DataW.trod_lt m _ _ _ hm
 obtain ⟨C1, x1, rfl, l1⟩ := obj_of_trod (hval 1 43 v1 rfl rfl) h1
 have k1 := h1
 have lt1 : ∀ x ∈ p1, x.block < W.heap.size := by obtain ⟨m, hm⟩ := k1; exact DataW.trod_lt m _ _ _ hm
 obtain ⟨a2, rfl, rfl, rfl, w2⟩ := open_int Tryz.underlying22 (hval 2 22 v2 rfl rfl) h2
 obtain ⟨a3, rfl, rfl, rfl, w3⟩ := open_int Tryz.underlying22 (hval 3 22 v3 rfl rfl) h3
 obtain ⟨a4, rfl, rfl, rfl, w4⟩ := open_int Tryz.underlying22 (hval 4 22 v4 rfl rfl) h4
 obtain ⟨a5, rfl, rfl, rfl, w5⟩ := open_int Tryz.underlying22 (hval 5 22 v5 rfl rfl) h5
 clear hA0 hval0
 refine (walk t0 ke0 ro0 ao0 n0 cap0 X0 C1 x1 a2 a3 a4 a5 W l0 l1 w2 w3 w4 w5).mono fun e W' ⟨he, bel⟩ => ?_
 subst he
 exact ⟨_, rfl, _, _, _, [], _, [], hW', trodAll_mk1 (shut_bool Tryz.underlying4 _), (trodAll_cons_mk (Below.trod laidOut (by kernel_rfl) (of_decide_eq_true (by kernel_rfl)) k0 bel lt0) (trodAll_cons_mk (Below.trod laidOut (by kernel_rfl) (of_decide_eq_true (by kernel_rfl)) k1 bel lt1) (trodAll_cons_mk (shut_int Tryz.underlying22 w2) (trodAll_cons_mk (shut_int Tryz.underlying22 w3) (trodAll_cons_mk (shut_int Tryz.underlying22 w4) (trodAll_cons_mk (shut_int Tryz.underlying22 w5) trodAll_mk0)))))), rfl, bel.frame _, fun h => by cases h⟩

theorem over : Rows.memSwapsRow.holds Tryz.pinned (OpenSpec.ofChange Rows.memSwapsSpec) :=
 OpenClaim.holds_of_wide 6 Tryz.f6 rfl rfl rfl rfl rfl rfl rfl ⟨rfl, rfl, rfl, rfl, rfl⟩ rfl rfl rfl rfl rfl (by kernel_rfl) Tryz.func6 (by kernel_rfl)
  (of_decide_eq_true (by kernel_rfl)) (by unfold Func.isWrapper; first | (rw [if_pos (by decide +kernel)]; kernel_rfl) | (rw [if_neg (by decide +kernel)]; exact ⟨rfl, rfl⟩))
  (fun os started H enc _ => lifted os started H enc)

end memSwaps
theorem memSwaps_holds : Rows.MemSwapsSaid :=
 memSwaps.over
#print axioms memSwaps_holds
end Go.Proofs.YtiiaohejldchdaaGreat
