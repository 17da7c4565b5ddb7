/-
 PROVED HERE: what was stored is loaded by each thread whose address comes to the same word; all other words stay, and all other objects. No condition besides the statement's own.
-/
import Derived.Test.YtiiaohejldchdaaGreatRows
import Derived.WalkKit
import Derived.ProofKit
import Derived.OpenShut
import Derived.Below
import Derived.ShutString
import Derived.Deep.QuietTactic
import Derived.Deep.DeepCutAuto
import Derived.Test.YtiiaohejldchdaaGreatZ19
import Derived.Test.YtiiaohejldchdaaGreatZ20
import Derived.Test.YtiiaohejldchdaaGreatZ30
import Derived.Test.YtiiaohejldchdaaGreatZ52
namespace Go.Proofs.YtiiaohejldchdaaGreat
set_option maxRecDepth 100000
set_option maxHeartbeats 8000000
namespace memStores
open Go.ChangeShapes Go.WideShapes Go.ChangeAt Go.RowKit
open Go.ChangeMaps (open_string shut_string)
set_option linter.unusedVariables false

theorem own : ownKnob Tryz.prog.godebug = none := by kernel_rfl

theorem walk (t0 : Int) (ke0 : Nat) (ro0 : Int) (ao0 : Option Addr) (n0 cap0 : Nat) (X0 : List Ob) (C1 : Array Value) (x1 : Ob) (C2 : Array Value) (x2 : Ob) (a3 : Int) (a4 : Int) (a5 : Int) (w : World) (l0 : Obs w ao0 n0 cap0 X0 ∧ ∀ x ∈ X0, WdO x) (l1 : ObD (LtN w) w C1 x1) (l2 : ObD (LtN w) w C2 x2) (w3 : (Lit.int .u64 a3).wf = true) (w4 : (Lit.int .u64 a4).wf = true) (w5 : (Lit.int .u64 a5).wf = true) :
  Calls Tryz.prog 4 #[.agg #[.int .i64 t0, .int .u64 (ke0 : Int), .int .u64 ro0, .slice ao0 n0 cap0], .agg C1, .agg C2, .int .u64 a3, .int .u64 a4, .int .u64 a5] w fun e w' => e = .returned (.bool true) ∧ Below w.heap.size w w' := by
 obtain ⟨hX, hwd⟩ := l0
 have hfw := fun (W : World) (hk : Below w.heap.size w W) => few18_any (t := t0) (ro := ro0) (key := ke0) (obs_next hX hk) hwd
 have hz1 := l1.size
 have hth1 := fun (W : World) (hk : Below w.heap.size w W) => thread18_any (l1.next hk)
 have hz2 := l2.size
 have hth2 := fun (W : World) (hk : Below w.heap.size w W) => thread18_any (l2.next hk)
 have hzg : (Tryz.prog.info? 25).map (·.size) = some (#[.int .i64 t0, .int .u64 (ke0 : Int), .int .u64 ro0, .slice ao0 n0 cap0] : Array Value).size := by kernel_rfl
 by_cases hF : few18P t0 ke0 ro0 X0
 ·by_cases hR1 : thr18P x1
  ·by_cases hR2 : thr18P x2
   ·skip
    have htr := tre_of hF.2
    have hsm : Smalls X0 := fun x hx => sound_small0 (htr.snd x hx)
    have hn : n0 < 1024 := by have := hX.1; have := hF.1.1; omega
    have hrw : Rw w ao0 n0 cap0 X0 := ⟨hX, htr.snd, hsm, fun x hx => sound_lab (htr.snd x hx)⟩
    have hln : ∀ d ∈ X0, ∀ j ∈ d.links, (fnd X0 j).isSome = true := fun d hd j hj => (htr.lnk d hd j hj).1
    have hid : ∀ y ∈ X0, y.id ≠ 0 := fun y hy => by have := id_pos (htr.snd y hy); omega
    have hll1 : x1.label.length < 1048576 := by have := hR1.2.1; omega
    have M1 := fun (W : World) (hk : Below w.heap.size w W) => (⟨obs_next hX hk, htr.srt, by omega, hsm, htr.snd, l1.next hk, hll1⟩ : Mw W ao0 n0 cap0 X0 C1 x1)
    have R1 : Rm w ao0 n0 cap0 X0 C1 x1 := ⟨hrw, l1, sound_lab hR1.2.2, hln⟩
    have hll2 : x2.label.length < 1048576 := by have := hR2.2.1; omega
    have M2 := fun (W : World) (hk : Below w.heap.size w W) => (⟨obs_next hX hk, htr.srt, by omega, hsm, htr.snd, l2.next hk, hll2⟩ : Mw W ao0 n0 cap0 X0 C2 x2)
    have R2 : Rm w ao0 n0 cap0 X0 C2 x2 := ⟨hrw, l2, sound_lab hR2.2.2, hln⟩
    have ha := u64_in w3
    have hb := u64_in w4
    have c1 := fun (W : World) (hk : Below w.heap.size w W) => store_v (t := t0) (ke := (ke0 : Int)) (ro := ro0) (v := a5) (M1 W hk) ha hn hid
    cases hA : stB X0 x1 a3 with
    | false =>
     rw [hA, st_no hA] at c1
     clear hA
     have hsa := fun (W : World) (ao : Option Addr) (n cap : Nat) (hk : Below w.heap.size w W) (o : Obs W ao n cap X0) => (rsame_w (t := t0) (ke := (ke0 : Int)) (ro := ro0) (t' := t0) (ke' := (ke0 : Int)) (ro' := ro0) o (obs_next hX hk)).yes rfl
     obtain ⟨D, hD⟩ : ∃ D : Array Value, D = #[.int .i64 t0, .int .u64 (ke0 : Int), .int .u64 ro0, .slice ao0 n0 cap0] := ⟨_, rfl⟩
     rw [← hD] at hzg hfw c1 hsa
     rw [← hD]
     clear hD
     go_enter Tryz.func4, Tryz.ntmps4
     go_wp2_with (first
      | go_skip
      | (with_reducible refine wpList_box rfl 25 _ rfl D rfl ?_; intro B V1 hNB hB hk)
      | (with_reducible refine wpList_box rfl 43 _ rfl C1 rfl ?_; intro T1 V2 hNT1 hT1 hk2; replace hB := hB.next hk2; replace hk := hk.trans (hk2.mono hk.size); clear hk2)
      | (with_reducible refine wpList_box rfl 43 _ rfl C2 rfl ?_; intro T2 V3 hNT2 hT2 hk3; replace hB := hB.next hk3; replace hT1 := hT1.next hk3; replace hk := hk.trans (hk3.mono hk.size); clear hk3)
      | (with_reducible refine wpList_loadb (by first | kernel_rfl | with_unfolding_all rfl) 25 _ rfl B rfl D hB _ Tryz.underlying25 (by kernel_rfl) hzg ?_)
      | (with_reducible refine wpList_loadb (by first | kernel_rfl | with_unfolding_all rfl) 43 _ rfl T1 rfl C1 hT1 _ Tryz.underlying43 (by kernel_rfl) (size40C hz1) ?_)
      | (with_reducible refine wpList_loadb (by first | kernel_rfl | with_unfolding_all rfl) 43 _ rfl T2 rfl C2 hT2 _ Tryz.underlying43 (by kernel_rfl) (size40C hz2) ?_)
      | (go_at_call 7; (with_reducible refine ((hfw _ hk).yes hF).mono ?_); rintro e w44 ⟨rfl, hb4⟩; replace hB := hB.next hb4; replace hT1 := hT1.next hb4; replace hT2 := hT2.next hb4; replace hk := hk.trans (hb4.mono hk.size); clear hb4)
      | (go_at_call 8; (with_reducible refine ((hth1 _ hk).yes hR1).mono ?_); rintro e w55 ⟨rfl, hb5⟩; clear hth1; replace hB := hB.next hb5; replace hT1 := hT1.next hb5; replace hT2 := hT2.next hb5; replace hk := hk.trans (hb5.mono hk.size); clear hb5)
      | (go_at_call 8; (with_reducible refine ((hth2 _ hk).yes hR2).mono ?_); rintro e w55 ⟨rfl, hb5⟩; clear hth2; replace hB := hB.next hb5; replace hT1 := hT1.next hb5; replace hT2 := hT2.next hb5; replace hk := hk.trans (hb5.mono hk.size); clear hb5)
      | (go_at_call 14; (with_reducible refine (c1 _ hk).mono ?_); rintro e w66 ⟨ao1, n1, cap1, rfl, oW1, hbW1⟩)
      | ((with_reducible refine wpList_alloc rfl 25 rfl zW zero43 ?_); have hx := oW1; clear hx; intro P1 U1 hN21 hPa1 hka1)
      | ((with_reducible refine wpList_store_blk rfl _ _ _ rfl P1 rfl #[.int .i64 t0, .int .u64 (ke0 : Int), .int .u64 ro0, .slice ao1 n1 cap1] rfl zW hPa1 (infoW4 _ _ _ _ _ _) (zW4 _ _ _ _ _ _) (oneW4 _ _ _ _ _ _) ?_); intro X1 hP1 q1; obtain ⟨hbz, oV1⟩ := laidW hbW1 oW1 hN21 hka1 q1; clear oW1 hbW1 hN21 hka1 q1 hPa1; replace hB := hB.next hbz; replace hT1 := hT1.next hbz; replace hT2 := hT2.next hbz; replace hk := hk.trans (hbz.mono hk.size); clear hbz; skip)
      | (with_reducible refine wpList_loadb (by first | kernel_rfl | with_unfolding_all rfl) 25 _ rfl P1 rfl #[.int .i64 t0, .int .u64 (ke0 : Int), .int .u64 ro0, .slice ao1 n1 cap1] hP1 _ Tryz.underlying25 (by kernel_rfl) (infoW4 _ _ _ _ _ _) ?_)
      | (go_at_call 17; (with_reducible refine (hsa _ _ _ _ hk oV1).mono ?_); rintro e w4 ⟨rfl, hb7⟩; replace hB := hB.next hb7; replace hT1 := hT1.next hb7; replace hT2 := hT2.next hb7; replace hP1 := hP1.next hb7; replace oV1 := oV1.next hb7; replace hk := hk.trans (hb7.mono hk.size); clear hb7; skip)
      | (go_at_call 9; (with_reducible refine (awake18_any _).mono ?_); rintro e w99 ⟨rfl, hb9⟩; replace hk := hk.trans (hb9.mono hk.size)))
     go_ret
     exact ⟨rfl, hk⟩
    | true =>
     rw [hA] at c1
     have hmx : Tryz.prog.follows .mixedOrders = true := by kernel_rfl
     have ga1 := Tryz.isAgg22
     have ga3 := Tryz.isAgg23
     have ga4 := Tryz.isAgg28
     have zA := (st_zero hA).1
     have hfA := st_fit (x := x1) (a := a3) (v := a5) hF.2
     have hlA : (stX X0 x1 a3 a5).length ≤ 20 := by rw [st_len htr.srt]; exact hF.1.1
     have c2 := fun (W : World) (hk : Below w.heap.size w W) => rwalk_v (t := t0) (ke := (ke0 : Int)) (ro := ro0) R1 hk ha
     have c3 := fun (W : World) (hk : Below w.heap.size w W) => rwalk_v (t := t0) (ke := (ke0 : Int)) (ro := ro0) R2 hk hb
     have c4 := fun (W : World) (ao : Option Addr) (n cap : Nat) (o : Obs W ao n cap (stX X0 x1 a3 a5)) (hk : Below w.heap.size w W) => load_v (t := t0) (ke := (ke0 : Int)) (ro := ro0) (mw_st hfA hlA o (l2.next hk) hll2).1 hb
     have c5 := fun (W : World) (hk : Below w.heap.size w W) => load_v (t := t0) (ke := (ke0 : Int)) (ro := ro0) (M2 W hk) hb
     have sW : wkE (stX X0 x1 a3 a5) x2 a4 = wkE X0 x2 a4 := st_wk htr.srt
     have HQ : Hid (wkE X0 x2 a4 ≠ 0 ∨ (wkE X0 x2 a4 = 0 ∧ (((wkO X0 x1 a3).id = (resO (wkE X0 x2 a4) (wkO X0 x2 a4)).id ∧ mpA X0 x1 a3 = (if wkE X0 x2 a4 = 0 then mpA X0 x2 a4 else 0) ∧ ldV (stX X0 x1 a3 a5) x2 a4 = a5) ∨ (¬ ((wkO X0 x1 a3).id = (resO (wkE X0 x2 a4) (wkO X0 x2 a4)).id ∧ mpA X0 x1 a3 = (if wkE X0 x2 a4 = 0 then mpA X0 x2 a4 else 0)) ∧ ldV (stX X0 x1 a3 a5) x2 a4 = ldV X0 x2 a4)))) := by
      by_cases hE : wkE X0 x2 a4 = 0
      ·refine .inr ⟨hE, ?_⟩
       rw [if_pos hE, hE, show resO 0 (wkO X0 x2 a4) = wkO X0 x2 a4 from rfl]
       by_cases hp : smP X0 x1 a3 x2 a4
       ·exact .inl ⟨hp.1, hp.2, ld_same htr.srt hA hE hp⟩
       ·exact .inr ⟨hp, ld_else htr.srt hA hp⟩
      ·exact .inl hE
     have hst : ∀ k, k < X0.length → oat (stX X0 x1 a3 a5) k = (if (oat X0 k).id = (wkO X0 x1 a3).id then putO (oat X0 k) (mpA X0 x1 a3) a5 else oat X0 k) := fun k hk => by
      rw [st_oat htr.srt hk, hA]; rfl
     have hdl : ∀ k, k < X0.length → ((oat X0 k).id = (wkO X0 x1 a3).id ∧ (oat (stX X0 x1 a3 a5) k).id = (wkO X0 x1 a3).id ∧ (oat (stX X0 x1 a3 a5) k).data.length = (wkO X0 x1 a3).data.length) ∨ ((oat (stX X0 x1 a3 a5) k).id ≠ (wkO X0 x1 a3).id ∧ oat (stX X0 x1 a3 a5) k = oat X0 k) := fun k hk => by
      rw [hst k hk]
      by_cases e : (oat X0 k).id = (wkO X0 x1 a3).id
      ·rw [if_pos e]
       refine .inl ⟨e, by rw [(put_wo _ _ _).1]; exact e, ?_⟩
       rw [put_len, srt_uniq htr.srt (oat_mem hk) (wk_zero zA).2.2.1 e]
      ·rw [if_neg e]; exact .inr ⟨e, rfl⟩
     have hlen : (stX X0 x1 a3 a5).length = X0.length := st_len htr.srt
     unfold RwO at c2 c3
     have r1 : resO 0 (wkO X0 x1 a3) = wkO X0 x1 a3 := rfl
     simp only [zA, if_pos, r1] at c2
     simp only [sW] at c4
     clear r1 sW zA hA hfA hst
     generalize stX X0 x1 a3 a5 = XA at c1 c4 HQ hdl hlen
     generalize wkO X0 x1 a3 = y at c2 HQ hdl
     generalize (mpM X0 x1 a3).wr = wb1 at c2
     generalize mpA X0 x1 a3 = A at c2 HQ
     generalize wkE X0 x2 a4 = ek at c3 c4 c5 HQ
     generalize resO ek (wkO X0 x2 a4) = z at c3 HQ
     generalize (if ek = 0 then (mpM X0 x2 a4).wr else false) = wb2 at c3
     generalize (if ek = 0 then mpA X0 x2 a4 else 0) = B0 at c3 HQ
     generalize ldV XA x2 a4 = gL at c4 HQ
     generalize ldV X0 x2 a4 = wL at c5 HQ
     obtain ⟨lb, hlb⟩ : ∃ lb, Hid (decide (ek = 0) = lb) := ⟨_, rfl⟩
     simp only [hlb.out] at c4 c5
     have hXn : X0.length = n0 := hX.1
     have e03 : (#[.int .i64 t0, .int .u64 (ke0 : Int), .int .u64 ro0, .slice ao0 n0 cap0] : Array Value)[3]? = some (.slice ao0 n0 cap0) := rfl
     have gz0 : Hid (n0 ≤ 4096) := by show n0 ≤ 4096; omega
     obtain ⟨D, hD⟩ : ∃ D : Array Value, D = #[.int .i64 t0, .int .u64 (ke0 : Int), .int .u64 ro0, .slice ao0 n0 cap0] := ⟨_, rfl⟩
     rw [← hD] at hzg hfw c1 c2 c3 c5 e03
     rw [← hD]
     clear hD
     go_enter Tryz.func4, Tryz.ntmps4
     go_upto_region 10 with (first
      | go_skip
      | (with_reducible refine wpList_box rfl 25 _ rfl D rfl ?_; intro B V1 hNB hB hk)
      | (with_reducible refine wpList_box rfl 43 _ rfl C1 rfl ?_; intro T1 V2 hNT1 hT1 hk2; replace hB := hB.next hk2; replace hk := hk.trans (hk2.mono hk.size); clear hk2)
      | (with_reducible refine wpList_box rfl 43 _ rfl C2 rfl ?_; intro T2 V3 hNT2 hT2 hk3; replace hB := hB.next hk3; replace hT1 := hT1.next hk3; replace hk := hk.trans (hk3.mono hk.size); clear hk3)
      | (with_reducible refine wpList_loadb (by first | kernel_rfl | with_unfolding_all rfl) 25 _ rfl B rfl D hB _ Tryz.underlying25 (by kernel_rfl) hzg ?_)
      | (with_reducible refine wpList_loadb (by first | kernel_rfl | with_unfolding_all rfl) 43 _ rfl T1 rfl C1 hT1 _ Tryz.underlying43 (by kernel_rfl) (size40C hz1) ?_)
      | (with_reducible refine wpList_loadb (by first | kernel_rfl | with_unfolding_all rfl) 43 _ rfl T2 rfl C2 hT2 _ Tryz.underlying43 (by kernel_rfl) (size40C hz2) ?_)
      | (go_at_call 7; (with_reducible refine ((hfw _ hk).yes hF).mono ?_); rintro e w44 ⟨rfl, hb4⟩; replace hB := hB.next hb4; replace hT1 := hT1.next hb4; replace hT2 := hT2.next hb4; replace hk := hk.trans (hb4.mono hk.size); clear hb4)
      | (go_at_call 8; (with_reducible refine ((hth1 _ hk).yes hR1).mono ?_); rintro e w55 ⟨rfl, hb5⟩; clear hth1; replace hB := hB.next hb5; replace hT1 := hT1.next hb5; replace hT2 := hT2.next hb5; replace hk := hk.trans (hb5.mono hk.size); clear hb5)
      | (go_at_call 8; (with_reducible refine ((hth2 _ hk).yes hR2).mono ?_); rintro e w55 ⟨rfl, hb5⟩; clear hth2; replace hB := hB.next hb5; replace hT1 := hT1.next hb5; replace hT2 := hT2.next hb5; replace hk := hk.trans (hb5.mono hk.size); clear hb5)
      | (go_at_call 14; (with_reducible refine (c1 _ hk).mono ?_); rintro e w66 ⟨ao1, n1, cap1, rfl, oW1, hbW1⟩)
      | ((with_reducible refine wpList_alloc rfl 25 rfl zW zero43 ?_); have hx := oW1; clear hx; intro P1 U1 hN21 hPa1 hka1)
      | ((with_reducible refine wpList_store_blk rfl _ _ _ rfl P1 rfl #[.int .i64 t0, .int .u64 (ke0 : Int), .int .u64 ro0, .slice ao1 n1 cap1] rfl zW hPa1 (infoW4 _ _ _ _ _ _) (zW4 _ _ _ _ _ _) (oneW4 _ _ _ _ _ _) ?_); intro X1 hP1 q1; obtain ⟨hbz, oV1⟩ := laidW hbW1 oW1 hN21 hka1 q1; clear oW1 hbW1 hN21 hka1 q1 hPa1; replace hB := hB.next hbz; replace hT1 := hT1.next hbz; replace hT2 := hT2.next hbz; replace hk := hk.trans (hbz.mono hk.size); clear hbz; skip)
      | (with_reducible refine wpList_loadb (by first | kernel_rfl | with_unfolding_all rfl) 25 _ rfl P1 rfl #[.int .i64 t0, .int .u64 (ke0 : Int), .int .u64 ro0, .slice ao1 n1 cap1] hP1 _ Tryz.underlying25 (by kernel_rfl) (infoW4 _ _ _ _ _ _) ?_)
      | (go_at_call 11; (with_reducible refine (c2 _ hk).mono ?_); rintro e w77 ⟨CF3, rfl, oF3, hb3⟩)
      | ((with_reducible refine wpList_alloc rfl 43 rfl zC zero40 ?_); have hx := oF3; clear hx; intro P3 U3 hN23 hPa3 hka3)
      | ((with_reducible refine wpList_store_blk rfl _ _ _ rfl P3 rfl CF3 rfl zC hPa3 (size40C oF3.size) (zC_size.trans oF3.size.symm) oF3.one ?_); intro X3 hP3 q3; obtain ⟨hbz, oG3⟩ := laidO hk hb3 oF3 hN23 hka3 q3; have zG3 := oG3.size; clear oF3 hb3 hN23 hka3 q3 hPa3; replace hB := hB.next hbz; replace hT1 := hT1.next hbz; replace hT2 := hT2.next hbz; replace hP1 := hP1.next hbz; replace oV1 := oV1.next hbz; replace hk := hk.trans (hbz.mono hk.size); clear hbz; have ki3 := oG3.lt.id; skip)
      | (with_reducible refine wpList_loadb (by first | kernel_rfl | with_unfolding_all rfl) 43 _ rfl P3 rfl CF3 hP3 _ Tryz.underlying43 (by kernel_rfl) (size40C zG3) ?_)
      | (go_at_call 11; (with_reducible refine (c3 _ hk).mono ?_); rintro e w77 ⟨CF4, rfl, oF4, hb4⟩)
      | ((with_reducible refine wpList_alloc rfl 43 rfl zC zero40 ?_); have hx := oF4; clear hx; intro P4 U4 hN24 hPa4 hka4)
      | ((with_reducible refine wpList_store_blk rfl _ _ _ rfl P4 rfl CF4 rfl zC hPa4 (size40C oF4.size) (zC_size.trans oF4.size.symm) oF4.one ?_); intro X4 hP4 q4; obtain ⟨hbz, oG4⟩ := laidO hk hb4 oF4 hN24 hka4 q4; have zG4 := oG4.size; clear oF4 hb4 hN24 hka4 q4 hPa4; replace hB := hB.next hbz; replace hT1 := hT1.next hbz; replace hT2 := hT2.next hbz; replace hP1 := hP1.next hbz; replace hP3 := hP3.next hbz; replace oV1 := oV1.next hbz; replace oG3 := oG3.next hbz; replace hk := hk.trans (hbz.mono hk.size); clear hbz; have ki4 := oG4.lt.id; skip)
      | (with_reducible refine wpList_loadb (by first | kernel_rfl | with_unfolding_all rfl) 43 _ rfl P4 rfl CF4 hP4 _ Tryz.underlying43 (by kernel_rfl) (size40C zG4) ?_)
      | (go_at_call 12; (with_reducible refine (c4 _ _ _ _ oV1 hk).mono ?_); rintro e w4 ⟨rfl, hb3⟩; replace hB := hB.next hb3; replace hT1 := hT1.next hb3; replace hT2 := hT2.next hb3; replace hP1 := hP1.next hb3; replace hP3 := hP3.next hb3; replace hP4 := hP4.next hb3; replace oV1 := oV1.next hb3; replace oG3 := oG3.next hb3; replace oG4 := oG4.next hb3; replace hk := hk.trans (hb3.mono hk.size); clear hb3; skip)
      | (go_at_call 12; (with_reducible refine (c5 _ hk).mono ?_); rintro e WL ⟨rfl, hb3⟩; replace hB := hB.next hb3; replace hT1 := hT1.next hb3; replace hT2 := hT2.next hb3; replace hP1 := hP1.next hb3; replace hP3 := hP3.next hb3; replace hP4 := hP4.next hb3; replace oV1 := oV1.next hb3; replace oG3 := oG3.next hb3; replace oG4 := oG4.next hb3; replace hk := hk.trans (hb3.mono hk.size); clear hb3))
     go_cut [139] (fun s wc => s = .bool false ∧ wc = WL)
     case first =>
      rcases HQ.out with h | ⟨rfl, h⟩
      ·obtain rfl : lb = false := by rw [← hlb.out]; exact decide_eq_false h
       have hek : (ek == 0) = false := by simpa using h
       clear h
       go_wp2_with (first
        | go_skip
        | (with_reducible refine wpList_load1 (by first | kernel_rfl | with_unfolding_all rfl) _ _ rfl P3 _ rfl _ _ hP3 _ ki3 ga1 ?_)
        | (with_reducible refine wpList_load1 (by first | kernel_rfl | with_unfolding_all rfl) _ _ rfl P4 _ rfl _ _ hP4 _ ki4 ga1 ?_))
       go_meet
       case rel => exact ⟨rfl, rfl⟩
      ·obtain rfl : lb = true := by rw [← hlb.out]; rfl
       rcases h with ⟨h1, rfl, rfl⟩ | ⟨h1, rfl⟩
       ·have i1 : (y.id == z.id) = true := by rw [h1]; exact beq_self_eq_true _
        have i2 : (y.id != z.id) = false := by rw [h1]; exact bne_self_eq_false _
        clear h1
        go_wp2_with (first
         | go_skip
         | (with_reducible refine wpList_load1 (by first | kernel_rfl | with_unfolding_all rfl) _ _ rfl P3 _ rfl _ _ hP3 _ ki3 ga1 ?_)
         | (with_reducible refine wpList_load1 (by first | kernel_rfl | with_unfolding_all rfl) _ _ rfl P4 _ rfl _ _ hP4 _ ki4 ga1 ?_))
        go_meet
        case rel => exact ⟨rfl, rfl⟩
       ·by_cases hi : y.id = z.id
        ·have i1 : (y.id == z.id) = true := by rw [hi]; exact beq_self_eq_true _
         have i2 : (y.id != z.id) = false := by rw [hi]; exact bne_self_eq_false _
         have hne : ¬ A = B0 := fun q => h1 ⟨hi, q⟩
         have j1 : ((A : Int) == (B0 : Int)) = false := beq_false_of_ne (by omega)
         have j2 : ((A : Int) != (B0 : Int)) = true := by unfold bne; rw [j1]; rfl
         clear h1 hi
         go_wp2_with (first
          | go_skip
          | (with_reducible refine wpList_load1 (by first | kernel_rfl | with_unfolding_all rfl) _ _ rfl P3 _ rfl _ _ hP3 _ ki3 ga1 ?_)
          | (with_reducible refine wpList_load1 (by first | kernel_rfl | with_unfolding_all rfl) _ _ rfl P4 _ rfl _ _ hP4 _ ki4 ga1 ?_))
         go_meet
         case rel => exact ⟨rfl, rfl⟩
        ·have i1 : (y.id == z.id) = false := beq_false_of_ne hi
         have i2 : (y.id != z.id) = true := by unfold bne; rw [i1]; rfl
         clear h1 hi
         go_wp2_with (first
          | go_skip
          | (with_reducible refine wpList_load1 (by first | kernel_rfl | with_unfolding_all rfl) _ _ rfl P3 _ rfl _ _ hP3 _ ki3 ga1 ?_)
          | (with_reducible refine wpList_load1 (by first | kernel_rfl | with_unfolding_all rfl) _ _ rfl P4 _ rfl _ _ hP4 _ ki4 ga1 ?_))
         go_meet
         case rel => exact ⟨rfl, rfl⟩
     case rest =>
      obtain ⟨rfl, rfl⟩ := hcut
      have hn1 : n1 = n0 := by have := oV1.1; omega
      have e31 : (#[.int .i64 t0, .int .u64 (ke0 : Int), .int .u64 ro0, .slice ao1 n1 cap1] : Array Value)[3]? = some (.slice ao1 n1 cap1) := rfl
      go_wp2_with (first
       | go_skip
       | (with_reducible refine wpList_load1 (by first | kernel_rfl | with_unfolding_all rfl) _ _ rfl P1 _ rfl _ _ hP1 _ e31 ga3 ?_))
      go_loopw [143] (fun i wr => ∃ k : Nat, k ≤ n0 ∧ i = .int .i64 k ∧ Below wc.heap.size wc wr) (fun i _ => n0 - (intOf i).toNat)
      case atStart => exact ⟨0, Nat.zero_le _, rfl, Below.refl _ _⟩
      case round =>
       obtain ⟨k, hkl, rfl, hbr⟩ := hrel
       have hbs := hbr.size
       by_cases hkn : k < n0
       ·have hkn' : (k : Int) < n1 := by omega
        obtain ⟨b, off, C, rfl, hbb, hC, hr⟩ := obs_at (oV1.next hbr) (show k < n1 by omega)
        obtain ⟨b0, off0, C0, rfl, hbb0, hC0, hr0⟩ := obs_at (obs_next (obs_next hX hk) hbr) hkn
        have hz := hC.size
        have hz0 := hC0.size
        go_upto_region 15 with (first
         | go_skip
         | (with_reducible refine wpList_loadm (by kernel_rfl) 43 _ rfl b _ rfl C hr _ Tryz.underlying43 (by kernel_rfl) (size40C hz) ?_)
         | ((with_reducible refine wpList_alloc rfl _ rfl zC zero40 ?_); intro Q W1 hB1 hQa hk1)
         | ((with_reducible refine wpList_store_blk rfl _ _ _ rfl Q rfl C rfl zC hQa (size40C hz) (zC_size.trans hz.symm) hC.one ?_); intro WQ hQ o2; have k2 := o2.below wr.heap.size wr (by have := hB1.out.1; omega) hk1))
        have hkq : Below wc.heap.size wc WQ := hbr.trans (k2.mono hbs)
        have hP3q := hP3.next hkq
        have hBq := hB.next hkq
        have oG3q := oG3.next hkq
        have hCq := hC.next k2
        have hC0q := hC0.next k2
        have hb0q : b0 < WQ.heap.size := Nat.lt_of_lt_of_le hbb0 k2.size
        have hr0q : WQ.rangeAt b0 (off0 + k * 51) C0.toList := range_block hr0 (k2.block b0 hbb0)
        refine PgM.region_out (S := fun V => Below WQ.heap.size WQ V) hmx ((Below.refl _ _).drew) (fun hS => ?_)
        generalize WQ.drew = v6 at hS ⊢
        have idC := hCq.id
        rcases hdl k (by omega) with ⟨hd1, hd2, hd3⟩ | ⟨hd1, hd2⟩
        ·have hnn : Hid (¬ ¬ (oat XA k).id = y.id) := fun q => q hd2
         have heq : Hid ((oat XA k).id = y.id) := hd2
         obtain ⟨d1, m1, q1, f1, g1⟩ := hCq.data
         obtain ⟨d2, m2, q2, f2, g2⟩ := oG3q.lt.data
         have hmm : Hid (¬ ¬ (m1 : Int) = (m2 : Int)) := fun q => q (by have h1 := g1.1; have h2 := g2.1; omega)
         clear g1 g2
         refine wpAnyH_sym (by kernel_rfl) (fun _ _ _ _ _ h => h) hS [(0, none), (1, some (.int .u64 (oat XA k).id)), (2, none), (3, some (.int .u64 y.id)), (4, some (.bool false)), (5, none), (6, none), (7, none), (8, none), (9, none), (10, none), (11, none), (12, none), (13, none), (14, none), (15, none), (16, none), (17, some (.int .u64 (oat XA k).id)), (18, none), (19, some (.int .u64 y.id)), (20, some (.bool true)), (21, none), (22, none), (23, some (.slice d1 m1 q1)), (24, some (.int .i64 (m1 : Int))), (25, none), (26, some (.slice d2 m2 q2)), (27, some (.int .i64 (m2 : Int))), (28, some (.bool false)), (29, none), (30, none)] (l' := #[true, true, true, true, true, true, true, true, true, true, true, true, true, true, true, true, true, true, true, true, true, true, true, true, true, true, true, true, true, true, true]) (a' := { tmps := #[.agg D, .agg C1, .agg C2, .int .u64 a3, .int .u64 a4, .int .u64 a5, .pointer (some ⟨B, 0, none⟩), .pointer (some ⟨T1, 0, none⟩), .pointer (some ⟨T2, 0, none⟩), undef, undef, undef, u12, .pointer (some ⟨P1, 0, none⟩), .bool true, .pointer (some ⟨P3, 0, none⟩), .int .u64 (A : Int), .bool wb1, .int .i64 0, .pointer (some ⟨P4, 0, none⟩), .int .u64 (B0 : Int), .bool wb2, .int .i64 ek, .int .u64 gL, .bool lb, .int .u64 wL, .bool lb, .int .i64 (k : Int), .pointer (some ⟨Q, 0, none⟩), u29, u30, u31, u32, u33, u34, u35, u36, u37, u38, u39, u40, u41, u42, u43, u44, u45, u46, u47, u48, u49, u50, u51, u52, u53, u54, u55, u56, u57, u58, u59, u60, u61, u62, u63, u64, u65, u66, u67, u68, u69, u70, u71, u72, u73, u74, u75, u76, u77, u78, u79, u80, u81, u82, u83, u84, u85, u86, u87, u88, u89, u90, u91, u92, u93, u94, u95, u96, u97, u98, u99, u100, u101, u102, u103, u104, u105, u106, u107, u108, u109, u110, u111, u112, u113, u114, u115, u116, u117, u118, u119, u120, u121, u122, u123, u124, u125, u126, u127, u128, u129, u130, u131, u132, u133, u134, u135, u136, u137, u138, .bool false, .pointer (some ⟨P1, 3, none⟩), .slice (some ⟨b, off, none⟩) n0 cap1, .int .i64 (n0 : Int), .int .i64 (k : Int), .bool true, .int .i64 (k : Int), .pointer (some ⟨b, off + k * 51, none⟩), .agg C, .pointer (some ⟨Q, 0, none⟩), .int .u64 (oat XA k).id, .pointer (some ⟨P3, 0, none⟩), .int .u64 y.id, .bool false, .bool false, undef, undef, undef, undef, undef, undef, undef, undef, .bool false, .bool false, .pointer (some ⟨Q, 0, none⟩), .int .u64 (oat XA k).id, .pointer (some ⟨P3, 0, none⟩), .int .u64 y.id, .bool true, .bool true, .pointer (some ⟨Q, 6, none⟩), .slice d1 m1 q1, .int .i64 (m1 : Int), .pointer (some ⟨P3, 6, none⟩), .slice d2 m2 q2, .int .i64 (m2 : Int), .bool false, .bool false, .bool false, u179, u180, u181, u182, u183, u184, u185, u186, u187, u188, u189], defers := [] }) (obs := [.load 22 Q 0 (.int .u64 (oat XA k).id), .load 22 P3 0 (.int .u64 y.id), .test .neq 22 (.tmp 149) (.tmp 151) (.int .u64 (oat XA k).id) (.int .u64 y.id) (.bool false), .load 22 Q 0 (.int .u64 (oat XA k).id), .load 22 P3 0 (.int .u64 y.id), .test .eql 22 (.tmp 165) (.tmp 167) (.int .u64 (oat XA k).id) (.int .u64 y.id) (.bool true), .load 28 Q 6 (.slice d1 m1 q1), .ln 28 3 (.slice d1 m1 q1) (.int .i64 (m1 : Int)), .load 28 P3 6 (.slice d2 m2 q2), .ln 28 3 (.slice d2 m2 q2) (.int .i64 (m2 : Int)), .test .neq 3 (.tmp 172) (.tmp 175) (.int .i64 (m1 : Int)) (.int .i64 (m2 : Int)) (.bool false)]) (n := 0) (by kernel_rfl) (by kernel_rfl) ⟨ob_load1 (fun _ q => hQ.next q) idC ga1, ob_load1 (fun _ q => hP3q.next q) ki3 ga1, ob_no (fun _ => neg_int _ _ _ _ _ _) hnn, ob_load1 (fun _ q => hQ.next q) idC ga1, ob_load1 (fun _ q => hP3q.next q) ki3 ga1, ob_yes (fun _ => eqg_int _ _ _ _ _ _) heq, ob_load1 (fun _ q => hQ.next q) f1 ga4, ob_lnw, ob_load1 (fun _ q => hP3q.next q) f2 ga4, ob_lnw, ob_no (fun _ => neg_int _ _ _ _ _ _) hmm, trivial⟩ ?_
         refine wpAnyH_done (by kernel_rfl) ?_ _
         go_wp2
         go_roundw
         case rel => exact ⟨k + 1, by omega, by go_num, hkq.trans (hS.mono hkq.size)⟩
         case measure => simp [intOf]; omega
        ·have hne : Hid (¬ (oat XA k).id = y.id) := hd1
         refine wpAnyH_sym (by kernel_rfl) (fun _ _ _ _ _ h => h) hS [(0, none), (1, some (.int .u64 (oat XA k).id)), (2, none), (3, some (.int .u64 y.id)), (4, some (.bool true)), (5, none), (6, some (.agg C)), (7, none), (8, some (.slice (some ⟨b0, off0, none⟩) n0 cap0)), (9, none), (10, some (.pointer (some ⟨b0, off0 + k * 51, none⟩))), (11, some (.agg C0))] (l' := #[true, true, true, true, true, true, true, true, true, true, true, true, false, false, false, false, false, false, false, false, false, false, false, false, false, false, false, false, false, false, false]) (a' := { tmps := #[.agg D, .agg C1, .agg C2, .int .u64 a3, .int .u64 a4, .int .u64 a5, .pointer (some ⟨B, 0, none⟩), .pointer (some ⟨T1, 0, none⟩), .pointer (some ⟨T2, 0, none⟩), undef, undef, undef, u12, .pointer (some ⟨P1, 0, none⟩), .bool true, .pointer (some ⟨P3, 0, none⟩), .int .u64 (A : Int), .bool wb1, .int .i64 0, .pointer (some ⟨P4, 0, none⟩), .int .u64 (B0 : Int), .bool wb2, .int .i64 ek, .int .u64 gL, .bool lb, .int .u64 wL, .bool lb, .int .i64 (k : Int), .pointer (some ⟨Q, 0, none⟩), u29, u30, u31, u32, u33, u34, u35, u36, u37, u38, u39, u40, u41, u42, u43, u44, u45, u46, u47, u48, u49, u50, u51, u52, u53, u54, u55, u56, u57, u58, u59, u60, u61, u62, u63, u64, u65, u66, u67, u68, u69, u70, u71, u72, u73, u74, u75, u76, u77, u78, u79, u80, u81, u82, u83, u84, u85, u86, u87, u88, u89, u90, u91, u92, u93, u94, u95, u96, u97, u98, u99, u100, u101, u102, u103, u104, u105, u106, u107, u108, u109, u110, u111, u112, u113, u114, u115, u116, u117, u118, u119, u120, u121, u122, u123, u124, u125, u126, u127, u128, u129, u130, u131, u132, u133, u134, u135, u136, u137, u138, .bool false, .pointer (some ⟨P1, 3, none⟩), .slice (some ⟨b, off, none⟩) n0 cap1, .int .i64 (n0 : Int), .int .i64 (k : Int), .bool true, .int .i64 (k : Int), .pointer (some ⟨b, off + k * 51, none⟩), .agg C, .pointer (some ⟨Q, 0, none⟩), .int .u64 (oat XA k).id, .pointer (some ⟨P3, 0, none⟩), .int .u64 y.id, .bool true, .bool true, .agg C, .pointer (some ⟨B, 3, none⟩), .slice (some ⟨b0, off0, none⟩) n0 cap0, .int .i64 (k : Int), .pointer (some ⟨b0, off0 + k * 51, none⟩), .agg C0, u160, u161, u162, u163, u164, u165, u166, u167, u168, u169, u170, u171, u172, u173, u174, u175, u176, u177, u178, u179, u180, u181, u182, u183, u184, u185, u186, u187, u188, u189], defers := [] }) (obs := [.load 22 Q 0 (.int .u64 (oat XA k).id), .load 22 P3 0 (.int .u64 y.id), .test .neq 22 (.tmp 149) (.tmp 151) (.int .u64 (oat XA k).id) (.int .u64 y.id) (.bool true), .load 43 Q 0 (.agg C), .load 23 B 3 (.slice (some ⟨b0, off0, none⟩) n0 cap0), .ia 23 (.slice (some ⟨b0, off0, none⟩) n0 cap0) (.int .i64 (k : Int)) (.pointer (some ⟨b0, off0 + k * 51, none⟩)), .load 43 b0 (off0 + k * 51) (.agg C0)]) (n := 19) (by kernel_rfl) (by kernel_rfl) ⟨ob_load1 (fun _ q => hQ.next q) idC ga1, ob_load1 (fun _ q => hP3q.next q) ki3 ga1, ob_yes (fun _ => neg_int _ _ _ _ _ _) hne, ob_loadb (fun _ q => hQ.next q) Tryz.underlying43 rfl (size40C hz), ob_load1 (fun _ q => hBq.next q) e03 ga3, ia_at hkn, ob_loadm (fun _ q => range_block hr0q (q.block b0 hb0q)) Tryz.underlying43 rfl (size40C hz0), trivial⟩ ?_
         refine wpAnyH_callL (i := 12) (fuel := 18) (f := 16) (vs := [.agg C, .agg C0]) (d := some 160) (by kernel_rfl) (by kernel_rfl) (by kernel_rfl) Tryz.call16 ((rsameOne_any (hCq.next hS) (hC0q.next hS)).yes hd2) ?_
         rintro e z1 ⟨rfl, hcz⟩
         have hSz : Below WQ.heap.size WQ z1 := hS.trans (hcz.mono hS.size)
         refine ⟨_, rfl, hSz, ?_⟩
         refine wpAnyH_sym (by kernel_rfl) (fun _ _ _ _ _ h => h) hSz [(13, none), (14, none), (15, none), (16, none), (17, some (.int .u64 (oat XA k).id)), (18, none), (19, some (.int .u64 y.id)), (20, some (.bool false)), (21, none), (22, none), (23, none), (24, none), (25, none), (26, none), (27, none), (28, none), (29, none), (30, none)] (l' := #[true, true, true, true, true, true, true, true, true, true, true, true, true, true, true, true, true, true, true, true, true, true, true, true, true, true, true, true, true, true, true]) (a' := { tmps := #[.agg D, .agg C1, .agg C2, .int .u64 a3, .int .u64 a4, .int .u64 a5, .pointer (some ⟨B, 0, none⟩), .pointer (some ⟨T1, 0, none⟩), .pointer (some ⟨T2, 0, none⟩), undef, undef, undef, u12, .pointer (some ⟨P1, 0, none⟩), .bool true, .pointer (some ⟨P3, 0, none⟩), .int .u64 (A : Int), .bool wb1, .int .i64 0, .pointer (some ⟨P4, 0, none⟩), .int .u64 (B0 : Int), .bool wb2, .int .i64 ek, .int .u64 gL, .bool lb, .int .u64 wL, .bool lb, .int .i64 (k : Int), .pointer (some ⟨Q, 0, none⟩), u29, u30, u31, u32, u33, u34, u35, u36, u37, u38, u39, u40, u41, u42, u43, u44, u45, u46, u47, u48, u49, u50, u51, u52, u53, u54, u55, u56, u57, u58, u59, u60, u61, u62, u63, u64, u65, u66, u67, u68, u69, u70, u71, u72, u73, u74, u75, u76, u77, u78, u79, u80, u81, u82, u83, u84, u85, u86, u87, u88, u89, u90, u91, u92, u93, u94, u95, u96, u97, u98, u99, u100, u101, u102, u103, u104, u105, u106, u107, u108, u109, u110, u111, u112, u113, u114, u115, u116, u117, u118, u119, u120, u121, u122, u123, u124, u125, u126, u127, u128, u129, u130, u131, u132, u133, u134, u135, u136, u137, u138, .bool false, .pointer (some ⟨P1, 3, none⟩), .slice (some ⟨b, off, none⟩) n0 cap1, .int .i64 (n0 : Int), .int .i64 (k : Int), .bool true, .int .i64 (k : Int), .pointer (some ⟨b, off + k * 51, none⟩), .agg C, .pointer (some ⟨Q, 0, none⟩), .int .u64 (oat XA k).id, .pointer (some ⟨P3, 0, none⟩), .int .u64 y.id, .bool true, .bool true, .agg C, .pointer (some ⟨B, 3, none⟩), .slice (some ⟨b0, off0, none⟩) n0 cap0, .int .i64 (k : Int), .pointer (some ⟨b0, off0 + k * 51, none⟩), .agg C0, .bool true, .bool false, .bool false, .bool false, .pointer (some ⟨Q, 0, none⟩), .int .u64 (oat XA k).id, .pointer (some ⟨P3, 0, none⟩), .int .u64 y.id, .bool false, .bool false, undef, undef, undef, undef, undef, undef, undef, .bool false, .bool false, u179, u180, u181, u182, u183, u184, u185, u186, u187, u188, u189], defers := [] }) (obs := [.load 22 Q 0 (.int .u64 (oat XA k).id), .load 22 P3 0 (.int .u64 y.id), .test .eql 22 (.tmp 165) (.tmp 167) (.int .u64 (oat XA k).id) (.int .u64 y.id) (.bool false)]) (n := 0) (by kernel_rfl) (by kernel_rfl) ⟨ob_load1 (fun _ q => hQ.next q) idC ga1, ob_load1 (fun _ q => hP3q.next q) ki3 ga1, ob_no (fun _ => eqg_int _ _ _ _ _ _) hne, trivial⟩ ?_
         refine wpAnyH_done (by kernel_rfl) ?_ _
         go_wp2
         go_roundw
         case rel => exact ⟨k + 1, by omega, by go_num, hkq.trans (hSz.mono hkq.size)⟩
         case measure => simp [intOf]; omega
       ·obtain rfl : k = n0 := by omega
        subst hn1
        go_wp2_with (first
         | go_skip
         | (with_reducible refine wpList_load1 (by first | kernel_rfl | with_unfolding_all rfl) _ _ rfl P1 _ rfl _ _ (hP1.next hbr) _ e31 ga3 ?_)
         | (with_reducible refine wpList_load1 (by first | kernel_rfl | with_unfolding_all rfl) _ _ rfl B _ rfl _ _ (hB.next hbr) _ e03 ga3 ?_)
         | (go_at_call 9; (with_reducible refine (awake18_any _).mono ?_); rintro e w99 ⟨rfl, hb9⟩))
        go_ret
        exact ⟨rfl, hk.trans ((hbr.trans (hb9.mono hbr.size)).mono hk.size)⟩
   ·skip
    obtain ⟨D, hD⟩ : ∃ D : Array Value, D = #[.int .i64 t0, .int .u64 (ke0 : Int), .int .u64 ro0, .slice ao0 n0 cap0] := ⟨_, rfl⟩
    rw [← hD] at hzg hfw
    rw [← hD]
    clear hD
    go_enter Tryz.func4, Tryz.ntmps4
    go_wp2_with (first
     | go_skip
     | (with_reducible refine wpList_box rfl 25 _ rfl D rfl ?_; intro B V1 hNB hB hk)
     | (with_reducible refine wpList_box rfl 43 _ rfl C1 rfl ?_; intro T1 V2 hNT1 hT1 hk2; replace hB := hB.next hk2; replace hk := hk.trans (hk2.mono hk.size); clear hk2)
     | (with_reducible refine wpList_box rfl 43 _ rfl C2 rfl ?_; intro T2 V3 hNT2 hT2 hk3; replace hB := hB.next hk3; replace hT1 := hT1.next hk3; replace hk := hk.trans (hk3.mono hk.size); clear hk3)
     | (with_reducible refine wpList_loadb (by first | kernel_rfl | with_unfolding_all rfl) 25 _ rfl B rfl D hB _ Tryz.underlying25 (by kernel_rfl) hzg ?_)
     | (with_reducible refine wpList_loadb (by first | kernel_rfl | with_unfolding_all rfl) 43 _ rfl T1 rfl C1 hT1 _ Tryz.underlying43 (by kernel_rfl) (size40C hz1) ?_)
     | (with_reducible refine wpList_loadb (by first | kernel_rfl | with_unfolding_all rfl) 43 _ rfl T2 rfl C2 hT2 _ Tryz.underlying43 (by kernel_rfl) (size40C hz2) ?_)
     | (go_at_call 7; (with_reducible refine ((hfw _ hk).yes hF).mono ?_); rintro e w44 ⟨rfl, hb4⟩; replace hB := hB.next hb4; replace hT1 := hT1.next hb4; replace hT2 := hT2.next hb4; replace hk := hk.trans (hb4.mono hk.size); clear hb4)
     | (go_at_call 8; (with_reducible refine ((hth1 _ hk).yes hR1).mono ?_); rintro e w55 ⟨rfl, hb5⟩; clear hth1; replace hB := hB.next hb5; replace hT1 := hT1.next hb5; replace hT2 := hT2.next hb5; replace hk := hk.trans (hb5.mono hk.size); clear hb5)
     | (go_at_call 8; (with_reducible refine ((hth2 _ hk).no hR2).mono ?_); rintro e w55 ⟨rfl, hb5⟩; clear hth2; replace hB := hB.next hb5; replace hT1 := hT1.next hb5; replace hT2 := hT2.next hb5; replace hk := hk.trans (hb5.mono hk.size); clear hb5)
     | (go_at_call 9; (with_reducible refine (awake18_any _).mono ?_); rintro e w99 ⟨rfl, hb9⟩; replace hk := hk.trans (hb9.mono hk.size)))
    go_ret
    exact ⟨rfl, hk⟩
  ·skip
   obtain ⟨D, hD⟩ : ∃ D : Array Value, D = #[.int .i64 t0, .int .u64 (ke0 : Int), .int .u64 ro0, .slice ao0 n0 cap0] := ⟨_, rfl⟩
   rw [← hD] at hzg hfw
   rw [← hD]
   clear hD
   go_enter Tryz.func4, Tryz.ntmps4
   go_wp2_with (first
    | go_skip
    | (with_reducible refine wpList_box rfl 25 _ rfl D rfl ?_; intro B V1 hNB hB hk)
    | (with_reducible refine wpList_box rfl 43 _ rfl C1 rfl ?_; intro T1 V2 hNT1 hT1 hk2; replace hB := hB.next hk2; replace hk := hk.trans (hk2.mono hk.size); clear hk2)
    | (with_reducible refine wpList_box rfl 43 _ rfl C2 rfl ?_; intro T2 V3 hNT2 hT2 hk3; replace hB := hB.next hk3; replace hT1 := hT1.next hk3; replace hk := hk.trans (hk3.mono hk.size); clear hk3)
    | (with_reducible refine wpList_loadb (by first | kernel_rfl | with_unfolding_all rfl) 25 _ rfl B rfl D hB _ Tryz.underlying25 (by kernel_rfl) hzg ?_)
    | (with_reducible refine wpList_loadb (by first | kernel_rfl | with_unfolding_all rfl) 43 _ rfl T1 rfl C1 hT1 _ Tryz.underlying43 (by kernel_rfl) (size40C hz1) ?_)
    | (with_reducible refine wpList_loadb (by first | kernel_rfl | with_unfolding_all rfl) 43 _ rfl T2 rfl C2 hT2 _ Tryz.underlying43 (by kernel_rfl) (size40C hz2) ?_)
    | (go_at_call 7; (with_reducible refine ((hfw _ hk).yes hF).mono ?_); rintro e w44 ⟨rfl, hb4⟩; replace hB := hB.next hb4; replace hT1 := hT1.next hb4; replace hT2 := hT2.next hb4; replace hk := hk.trans (hb4.mono hk.size); clear hb4)
    | (go_at_call 8; (with_reducible refine ((hth1 _ hk).no hR1).mono ?_); rintro e w55 ⟨rfl, hb5⟩; clear hth1; replace hB := hB.next hb5; replace hT1 := hT1.next hb5; replace hT2 := hT2.next hb5; replace hk := hk.trans (hb5.mono hk.size); clear hb5)
    | (go_at_call 9; (with_reducible refine (awake18_any _).mono ?_); rintro e w99 ⟨rfl, hb9⟩; replace hk := hk.trans (hb9.mono hk.size)))
   go_ret
   exact ⟨rfl, hk⟩
 ·skip
  obtain ⟨D, hD⟩ : ∃ D : Array Value, D = #[.int .i64 t0, .int .u64 (ke0 : Int), .int .u64 ro0, .slice ao0 n0 cap0] := ⟨_, rfl⟩
  rw [← hD] at hzg hfw
  rw [← hD]
  clear hD
  go_enter Tryz.func4, Tryz.ntmps4
  go_wp2_with (first
   | go_skip
   | (with_reducible refine wpList_box rfl 25 _ rfl D rfl ?_; intro B V1 hNB hB hk)
   | (with_reducible refine wpList_box rfl 43 _ rfl C1 rfl ?_; intro T1 V2 hNT1 hT1 hk2; replace hB := hB.next hk2; replace hk := hk.trans (hk2.mono hk.size); clear hk2)
   | (with_reducible refine wpList_box rfl 43 _ rfl C2 rfl ?_; intro T2 V3 hNT2 hT2 hk3; replace hB := hB.next hk3; replace hT1 := hT1.next hk3; replace hk := hk.trans (hk3.mono hk.size); clear hk3)
   | (with_reducible refine wpList_loadb (by first | kernel_rfl | with_unfolding_all rfl) 25 _ rfl B rfl D hB _ Tryz.underlying25 (by kernel_rfl) hzg ?_)
   | (with_reducible refine wpList_loadb (by first | kernel_rfl | with_unfolding_all rfl) 43 _ rfl T1 rfl C1 hT1 _ Tryz.underlying43 (by kernel_rfl) (size40C hz1) ?_)
   | (with_reducible refine wpList_loadb (by first | kernel_rfl | with_unfolding_all rfl) 43 _ rfl T2 rfl C2 hT2 _ Tryz.underlying43 (by kernel_rfl) (size40C hz2) ?_)
   | (go_at_call 7; (with_reducible refine ((hfw _ hk).no hF).mono ?_); rintro e w44 ⟨rfl, hb4⟩; replace hB := hB.next hb4; replace hT1 := hT1.next hb4; replace hT2 := hT2.next hb4; replace hk := hk.trans (hb4.mono hk.size); clear hb4)
   | (go_at_call 9; (with_reducible refine (awake18_any _).mono ?_); rintro e w99 ⟨rfl, hb9⟩; replace hk := hk.trans (hb9.mono hk.size)))
  go_ret
  exact ⟨rfl, hk⟩

theorem lifted (os : Os) (started : os.Started) (H : Type) (enc : TypeId × Value → H) :
  ReturnsInHanded {} Tryz.checked os 4 .any (Rows.memStoresSpec.pre6 enc Tryz.prog Tryz.f4 Rows.memStoresRow.domain false) (Rows.memStoresSpec.post enc Tryz.prog Tryz.f4 false true false false) := by
 refine returnsInHanded_of_change (C := Tryz.checked) own started (by kernel_rfl) Tryz.func4
  (ChangeSpec.witness6 (enc := enc) (C := Tryz.checked) false ⟨#[], #[.agg #[.int .i64 0, .int .u64 0, .int .u64 0, .slice none 0 0], .agg zC, .agg zC, .int .u64 0, .int .u64 0, .int .u64 0], []⟩ 8 (by kernel_rfl) (by kernel_rfl) (by kernel_rfl) (by kernel_rfl)) ?_
 intro W base args ds gs before hval0 hW hcnd _
 have hval : ∀ (j : Nat) t v, Tryz.f4.params[j]? = some t → args[j]? = some v → Value.okWide Tryz.prog W .any base t v := hval0
 have hW' := hW
 obtain ⟨p, q, hA0, hV, rfl, hfz, hnd⟩ := hW
 have hA : DataW.TrodAll enc Tryz.prog W 0 (fun _ => true) true Tryz.f4.params.toList args.toList ds p := hA0
 rw [Tryz.params4] at hA hval
 obtain ⟨v0, vs0, d0, ds0, p0, q0, hargs, rfl, rfl, h0, r0⟩ := trodAll_cons hA
 obtain ⟨v1, vs1, d1, ds1, p1, q1, rfl, rfl, rfl, h1, r1⟩ := trodAll_cons r0
 obtain ⟨v2, vs2, d2, ds2, p2, q2, rfl, rfl, rfl, h2, r2⟩ := trodAll_cons r1
 obtain ⟨v3, vs3, d3, ds3, p3, q3, rfl, rfl, rfl, h3, r3⟩ := trodAll_cons r2
 obtain ⟨v4, vs4, d4, ds4, p4, q4, rfl, rfl, rfl, h4, r4⟩ := trodAll_cons r3
 obtain ⟨v5, vs5, d5, ds5, p5, q5, rfl, rfl, rfl, h5, r5⟩ := trodAll_cons r4
 obtain ⟨rfl, rfl, rfl⟩ := trodAll_nil r5
 obtain rfl : args = #[v0, v1, v2, v3, v4, v5] := by cases args; simp_all
 obtain ⟨rfl, rfl⟩ := trodVars_none hV
 obtain ⟨t0, ke0, ro0, ao0, n0, cap0, X0, rfl, l0⟩ := worldW_of_trod (hval 0 25 v0 rfl rfl) h0
 have k0 := h0
 have lt0 : ∀ x ∈ p0, x.block < W.heap.size := by obtain ⟨m, hm⟩ := k0; exact DataW.trod_lt m _ _ _ hm
 obtain ⟨C1, x1, rfl, l1⟩ := obj_of_trod (hval 1 43 v1 rfl rfl) h1
 have k1 := h1
 have lt1 : ∀ x ∈ p1, x.block < W.heap.size := by obtain ⟨m, hm⟩ := k1; exact DataW.trod_lt m _ _ _ hm
 obtain ⟨C2, x2, rfl, l2⟩ := obj_of_trod (hval 2 43 v2 rfl rfl) h2
 have k2 := h2
 have lt2 : ∀ x ∈ p2, x.block < W.heap.size := by obtain ⟨m, hm⟩ := k2; exact DataW.trod_lt m _ _ _ hm
 obtain ⟨a3, rfl, rfl, rfl, w3⟩ := open_int Tryz.underlying22 (hval 3 22 v3 rfl rfl) h3
 obtain ⟨a4, rfl, rfl, rfl, w4⟩ := open_int Tryz.underlying22 (hval 4 22 v4 rfl rfl) h4
 obtain ⟨a5, rfl, rfl, rfl, w5⟩ := open_int Tryz.underlying22 (hval 5 22 v5 rfl rfl) h5
 clear hA0 hval0
 refine (walk t0 ke0 ro0 ao0 n0 cap0 X0 C1 x1 C2 x2 a3 a4 a5 W l0 l1 l2 w3 w4 w5).mono fun e W' ⟨he, bel⟩ => ?_
 subst he
 exact ⟨_, rfl, _, _, _, [], _, [], hW', trodAll_mk1 (shut_bool Tryz.underlying4 _), (trodAll_cons_mk (Below.trod laidOut (by kernel_rfl) (of_decide_eq_true (by kernel_rfl)) k0 bel lt0) (trodAll_cons_mk (Below.trod laidOut (by kernel_rfl) (of_decide_eq_true (by kernel_rfl)) k1 bel lt1) (trodAll_cons_mk (Below.trod laidOut (by kernel_rfl) (of_decide_eq_true (by kernel_rfl)) k2 bel lt2) (trodAll_cons_mk (shut_int Tryz.underlying22 w3) (trodAll_cons_mk (shut_int Tryz.underlying22 w4) (trodAll_cons_mk (shut_int Tryz.underlying22 w5) trodAll_mk0)))))), rfl, bel.frame _, fun h => by cases h⟩

theorem over : Rows.memStoresRow.holds Tryz.pinned (OpenSpec.ofChange Rows.memStoresSpec) :=
 OpenClaim.holds_of_wide 4 Tryz.f4 rfl rfl rfl rfl rfl rfl rfl ⟨rfl, rfl, rfl, rfl, rfl⟩ rfl rfl rfl rfl rfl (by kernel_rfl) Tryz.func4 (by kernel_rfl)
  (of_decide_eq_true (by kernel_rfl)) (by unfold Func.isWrapper; first | (rw [if_pos (by decide +kernel)]; kernel_rfl) | (rw [if_neg (by decide +kernel)]; exact ⟨rfl, rfl⟩))
  (fun os started H enc _ => lifted os started H enc)

end memStores
theorem memStores_holds : Rows.MemStoresSaid :=
 memStores.over
#print axioms memStores_holds
end Go.Proofs.YtiiaohejldchdaaGreat
