/-
 PROVED HERE: what was put is got, all other words stay; what is within stays behind a resize, what is new is 0; pages are the words (SegFound), over the landed code. No condition.
-/
import Derived.Test.YtlaagheeemkklaaRows
import Derived.WalkKit
import Derived.ProofKit
import Derived.OpenShut
import Derived.Below
import Derived.ShutString
import Derived.Deep.QuietTactic
import Derived.Deep.DeepCutAuto
import Derived.Test.YtlaagheeemkklaaZ17
import Derived.Test.YtlaagheeemkklaaZ21
namespace Go.Proofs.Ytlaagheeemkklaa
set_option maxRecDepth 100000
set_option maxHeartbeats 8000000
namespace segFound
open Go.ChangeShapes Go.WideShapes Go.ChangeAt Go.RowKit
open Go.ChangeMaps (open_string shut_string)
set_option linter.unusedVariables false

theorem own : ownKnob Try.prog.godebug = none := by kernel_rfl

theorem walk (C0 : Array Value) (x0 : Ob) (a1 : Int) (a2 : Int) (a3 : Int) (a4 : Int) (w : World) (l0 : ObD (LtN w) w C0 x0) (w1 : (Lit.int .u64 a1).wf = true) (w2 : (Lit.int .u64 a2).wf = true) (w3 : (Lit.int .u64 a3).wf = true) (w4 : (Lit.int .i64 a4).wf = true) :
  Calls Try.prog 4 #[.agg C0, .int .u64 a1, .int .u64 a2, .int .u64 a3, .int .i64 a4] w fun e w' => e = .returned (.bool true) ∧ Below w.heap.size w w' := by
 have hz0 := l0.size
 have hbr0 := fun (W : World) (hk : Below w.heap.size w W) => brief16_any (l0.next hk)
 have ga2 := Try.isAgg3
 have ga4 := Try.isAgg25
 have hki := l0.kind
 obtain ⟨a6, n6, c6, e6, l6⟩ := l0.data
 have hn6 : Hid (x0.data.length = n6) := l6.1
 obtain ⟨p, rfl, hp⟩ := u64_nat w1
 obtain ⟨q, rfl, hq⟩ := u64_nat w2
 by_cases hbr : brP x0
 ·by_cases h1 : x0.kind = 1
  ·rw [h1] at hki
   have h1H : Hid (x0.kind = 1) := h1
   clear h1
   by_cases h5 : 5000 < a4
   ·go_enter Try.func4, Try.ntmps4
    try simp only [List.append]
    go_wp2_with (first
     | go_skip
     | (with_reducible refine wpList_box rfl _ _ rfl C0 rfl ?_; intro B W0 hB0 hB hk)
     | (with_reducible refine wpList_loadb (by first | kernel_rfl | with_unfolding_all rfl) 40 _ rfl B rfl C0 hB _ Try.underlying40 (by kernel_rfl) (size40C hz0) ?_)
     | (with_reducible refine wpList_load1 (by first | kernel_rfl | with_unfolding_all rfl) _ _ rfl B 1 rfl _ _ hB _ hki ga2 ?_)
     | (go_at_call 6; (with_reducible refine ((hbr0 _ hk).yes hbr).mono ?_); rintro e w1 ⟨rfl, hb8⟩; replace hB := hB.next hb8; replace hk := hk.trans (hb8.mono hk.size))
     | (go_at_call 8; (with_reducible refine (awake16_any _).mono ?_); rintro e w8 ⟨rfl, hb8⟩; replace hB := hB.next hb8; replace hk := hk.trans (hb8.mono hk.size)))
    all_goals go_ret
    all_goals exact ⟨rfl, hk⟩
   ·have h50 : decide (5000 < a4) = false := decide_eq_false h5
    have hsm := hbr.small
    have hso := hbr.2.2.2.2
    have hqu := hbr.quota
    have hsx := fun q => sg_of hso q
    have hda : n6 ≤ 200 := by rw [← hn6.out]; exact hbr.2.1
    have hgo := fun (W : World) (hk : Below w.heap.size w W) {r : Nat} (hr : r < 18446744073709551616) => get_any (l0.next hk) hr
    have hpz := wpl_zero (p := p) h1H.out
    rw [hn6.out] at hpz
    go_enter Try.func4, Try.ntmps4
    try simp only [List.append]
    go_upto_if 51 with (first
     | go_skip
     | (with_reducible refine wpList_box rfl _ _ rfl C0 rfl ?_; intro B W0 hB0 hB hk)
     | (with_reducible refine wpList_loadb (by first | kernel_rfl | with_unfolding_all rfl) 40 _ rfl B rfl C0 hB _ Try.underlying40 (by kernel_rfl) (size40C hz0) ?_)
     | (with_reducible refine wpList_load1 (by first | kernel_rfl | with_unfolding_all rfl) _ _ rfl B 1 rfl _ _ hB _ hki ga2 ?_)
     | (go_at_call 6; (with_reducible refine ((hbr0 _ hk).yes hbr).mono ?_); rintro e w1 ⟨rfl, hb8⟩; replace hB := hB.next hb8; replace hk := hk.trans (hb8.mono hk.size))
     | ((with_reducible refine wpList_alloc rfl _ rfl zC zero40 ?_); intro P1 A1 hA1 hP1 hkA1; have hz1 := hO1.size; have ho1 := hO1.one; have hle1 := hA1.out.1)
     | (go_at_call 13; (with_reducible refine (put_any (l0.next hk) hsm hsx hp (v := a3)).mono ?_); rintro e v1 ⟨C1, rfl, hO1, hv1⟩; replace hB := hB.next hv1; replace hk := hk.trans (hv1.mono hk.size))
     | ((with_reducible refine wpList_store_blk rfl _ _ _ rfl P1 rfl C1 rfl zC hP1 (size40C hz1) (zC_size.trans hz1.symm) ho1 ?_); intro S1 hQ1 oS1; have kS1 := oS1.below _ _ (Nat.le_of_eq hle1) hkA1; replace hB := hB.next kS1; replace hk := hk.trans (kS1.mono hk.size); replace hO1 := hO1.next kS1; clear hP1 hkA1 oS1 hA1)
     | (with_reducible refine wpList_loadb (by first | kernel_rfl | with_unfolding_all rfl) 40 _ rfl P1 rfl C1 hQ1 _ Try.underlying40 (by kernel_rfl) (size40C hz1) ?_))
    obtain ⟨a61, n61, c61, e61, l61⟩ := hO1.data
    obtain rfl : n6 = n61 := by rw [← l61.1, put_len]; exact hn6.out.symm
    go_cut [] (fun wc => Blk wc B C0 40 ∧ Below w.heap.size w wc)
    case first =>
     by_cases hpl : wpl x0 p = 0
     ·have hpl' : (wpl x0 p == 0) = true := by rw [hpl]; rfl
      have hgp := fun {W : World} (hO : ObD (LtN W) W C1 (putO x0 p a3)) => get_any hO hp
      simp only [put_wpl, put_same hpl, hpl] at hgp
      by_cases hpq : p = q
      ·subst hpq
       have hgo1 := fun (W : World) (hk : Below w.heap.size w W) => hgo W hk hp
       simp only [hpl] at hgo1
       clear hpl
       go_wp2_with (first
        | go_skip
        | (with_reducible refine wpList_loadb (by first | kernel_rfl | with_unfolding_all rfl) 40 _ rfl P1 rfl C1 hQ1 _ Try.underlying40 (by kernel_rfl) (size40C hz1) ?_)
        | (with_reducible refine wpList_loadb (by first | kernel_rfl | with_unfolding_all rfl) 40 _ rfl B rfl C0 hB _ Try.underlying40 (by kernel_rfl) (size40C hz0) ?_)
        | (go_at_call 11; (with_reducible refine (hgp hO1).mono ?_); rintro e g1 ⟨rfl, hg1⟩; replace hB := hB.next hg1; replace hO1 := hO1.next hg1; replace hQ1 := hQ1.next hg1; replace hk := hk.trans (hg1.mono hk.size); clear hg1)
        | (go_at_call 11; (with_reducible refine (hgo1 _ hk).mono ?_); rintro e g2 ⟨rfl, hg2⟩; replace hB := hB.next hg2; replace hO1 := hO1.next hg2; replace hQ1 := hQ1.next hg2; replace hk := hk.trans (hg2.mono hk.size); clear hg2)
        | (with_reducible refine wpList_load1 (by first | kernel_rfl | with_unfolding_all rfl) _ _ rfl P1 6 rfl _ _ hQ1 _ e61 ga4 ?_)
        | (with_reducible refine wpList_load1 (by first | kernel_rfl | with_unfolding_all rfl) _ _ rfl B 6 rfl _ _ hB _ e6 ga4 ?_))
       go_meet
       case rel => exact ⟨hB, hk⟩
      ·have hpq' : ((p : Int) == (q : Int)) = false := by simp; omega
       have hgq := fun {W : World} (hO : ObD (LtN W) W C1 (putO x0 p a3)) => get_any hO hq
       simp only [put_wpl, put_else hpl hpq] at hgq
       have hgo1 := fun (W : World) (hk : Below w.heap.size w W) => hgo W hk hq
       obtain ⟨gv, hgv⟩ : ∃ gv, gtV x0 q = gv := ⟨_, rfl⟩
       obtain ⟨wv, hwv⟩ : ∃ wv, wpl x0 q = wv := ⟨_, rfl⟩
       simp only [hgv, hwv] at hgq hgo1
       clear hpl hgv hwv
       go_wp2_with (first
        | go_skip
        | (with_reducible refine wpList_loadb (by first | kernel_rfl | with_unfolding_all rfl) 40 _ rfl P1 rfl C1 hQ1 _ Try.underlying40 (by kernel_rfl) (size40C hz1) ?_)
        | (with_reducible refine wpList_loadb (by first | kernel_rfl | with_unfolding_all rfl) 40 _ rfl B rfl C0 hB _ Try.underlying40 (by kernel_rfl) (size40C hz0) ?_)
        | (go_at_call 11; (with_reducible refine (hgp hO1).mono ?_); rintro e g1 ⟨rfl, hg1⟩; replace hB := hB.next hg1; replace hO1 := hO1.next hg1; replace hQ1 := hQ1.next hg1; replace hk := hk.trans (hg1.mono hk.size); clear hg1)
        | (go_at_call 11; (with_reducible refine (hgq hO1).mono ?_); rintro e g2 ⟨rfl, hg2⟩; replace hB := hB.next hg2; replace hO1 := hO1.next hg2; replace hQ1 := hQ1.next hg2; replace hk := hk.trans (hg2.mono hk.size); clear hg2)
        | (go_at_call 11; (with_reducible refine (hgo1 _ hk).mono ?_); rintro e g3 ⟨rfl, hg3⟩; replace hB := hB.next hg3; replace hO1 := hO1.next hg3; replace hQ1 := hQ1.next hg3; replace hk := hk.trans (hg3.mono hk.size); clear hg3)
        | (with_reducible refine wpList_load1 (by first | kernel_rfl | with_unfolding_all rfl) _ _ rfl P1 6 rfl _ _ hQ1 _ e61 ga4 ?_)
        | (with_reducible refine wpList_load1 (by first | kernel_rfl | with_unfolding_all rfl) _ _ rfl B 6 rfl _ _ hB _ e6 ga4 ?_))
       go_meet
       case rel => exact ⟨hB, hk⟩
     ·have hpl' : (wpl x0 p == 0) = false := by simpa using hpl
      go_wp2_with (first | go_skip)
      go_meet
      case rel => exact ⟨hB, hk⟩
    case rest =>
     obtain ⟨hB, hk⟩ := hcut
     go_upto_if 108 with (first
      | go_skip
      | (with_reducible refine wpList_loadb (by first | kernel_rfl | with_unfolding_all rfl) 40 _ rfl B rfl C0 hB _ Try.underlying40 (by kernel_rfl) (size40C hz0) ?_)
      | ((with_reducible refine wpList_alloc rfl _ rfl zC zero40 ?_); intro P2 A2 hA2 hP2 hkA2; have hz2 := hO2.size; have ho2 := hO2.one; have hle2 := hA2.out.1)
      | (go_at_call 9; (with_reducible refine (resize_any (l0.next hk) hsm (n := a4)).mono ?_); rintro e v1 ⟨C2, rfl, ⟨hO2a, _⟩, hv1⟩; replace hB := hB.next hv1; replace hk := hk.trans (hv1.mono hk.size); have hO2 := hO2a.wide (D' := LtN v1) fun b hb => hb.2)
      | ((with_reducible refine wpList_store_blk rfl _ _ _ rfl P2 rfl C2 rfl zC hP2 (size40C hz2) (zC_size.trans hz2.symm) ho2 ?_); intro S2 hQ2 oS2; have kS2 := oS2.below _ _ (Nat.le_of_eq hle2) hkA2; replace hB := hB.next kS2; replace hk := hk.trans (kS2.mono hk.size); replace hO2 := hO2.next kS2; clear hP2 hkA2 oS2 hA2)
      | (with_reducible refine wpList_loadb (by first | kernel_rfl | with_unfolding_all rfl) 40 _ rfl P2 rfl C2 hQ2 _ Try.underlying40 (by kernel_rfl) (size40C hz2) ?_))
     go_cut [] (fun wc => Blk wc B C0 40 ∧ Below w.heap.size w wc)
     case first =>
      by_cases hwz : wsz x0 a4 = 0
      ·have hwz' : (wsz x0 a4 == 0) = true := by rw [hwz]; rfl
       obtain ⟨m, rfl⟩ : ∃ m : Nat, a4 = m := by
        rcases wsz_cases x0 a4 with ⟨_, _, h, _⟩ | h
        ·exact ⟨a4.toNat, by omega⟩
        ·exact absurd hwz h
       have hmb : m ≤ 5000 := by omega
       have hgy := fun {W : World} (hO : ObD (LtN W) W C2 (rsz x0 (m : Int))) => get_any hO hp
       have hgo1 := fun (W : World) (hk : Below w.heap.size w W) => hgo W hk hp
       by_cases hpm : p < m
       ·have hpm' : (p : Int) < m := by omega
        simp only [rsz_wpl hwz, if_pos hpm, rsz_gt hwz hpm] at hgy
        by_cases hpl : p < n6
        ·have hpg : gtV x0 p = x0.data.getD p 0 := gt_near h1H.out (by rw [hn6.out]; exact hpl)
         simp only [hpz.2 hpl, hpg] at hgo1
         obtain ⟨gv, hgv⟩ : ∃ gv, x0.data.getD p 0 = gv := ⟨_, rfl⟩
         simp only [hgv] at hgy hgo1
         clear hwz hgv hpg
         go_wp2_with (first
          | go_skip
          | (with_reducible refine wpList_loadb (by first | kernel_rfl | with_unfolding_all rfl) 40 _ rfl P2 rfl C2 hQ2 _ Try.underlying40 (by kernel_rfl) (size40C hz2) ?_)
          | (with_reducible refine wpList_loadb (by first | kernel_rfl | with_unfolding_all rfl) 40 _ rfl B rfl C0 hB _ Try.underlying40 (by kernel_rfl) (size40C hz0) ?_)
          | (go_at_call 11; (with_reducible refine (hgy hO2).mono ?_); rintro e g4 ⟨rfl, hg4⟩; replace hB := hB.next hg4; replace hO2 := hO2.next hg4; replace hQ2 := hQ2.next hg4; replace hk := hk.trans (hg4.mono hk.size); clear hg4)
          | (go_at_call 11; (with_reducible refine (hgo1 _ hk).mono ?_); rintro e g5 ⟨rfl, hg5⟩; replace hB := hB.next hg5; replace hO2 := hO2.next hg5; replace hQ2 := hQ2.next hg5; replace hk := hk.trans (hg5.mono hk.size); clear hg5))
         go_meet
         case rel => exact ⟨hB, hk⟩
        ·have hpg : x0.data.getD p 0 = 0 := get_far (by rw [hn6.out]; exact hpl)
         simp only [wpl_far h1H.out (show ¬ p < x0.data.length by rw [hn6.out]; exact hpl)] at hgo1
         simp only [hpg] at hgy
         clear hwz hpg
         go_wp2_with (first
          | go_skip
          | (with_reducible refine wpList_loadb (by first | kernel_rfl | with_unfolding_all rfl) 40 _ rfl P2 rfl C2 hQ2 _ Try.underlying40 (by kernel_rfl) (size40C hz2) ?_)
          | (with_reducible refine wpList_loadb (by first | kernel_rfl | with_unfolding_all rfl) 40 _ rfl B rfl C0 hB _ Try.underlying40 (by kernel_rfl) (size40C hz0) ?_)
          | (go_at_call 11; (with_reducible refine (hgy hO2).mono ?_); rintro e g4 ⟨rfl, hg4⟩; replace hB := hB.next hg4; replace hO2 := hO2.next hg4; replace hQ2 := hQ2.next hg4; replace hk := hk.trans (hg4.mono hk.size); clear hg4)
          | (go_at_call 11; (with_reducible refine (hgo1 _ hk).mono ?_); rintro e g5 ⟨rfl, hg5⟩; replace hB := hB.next hg5; replace hO2 := hO2.next hg5; replace hQ2 := hQ2.next hg5; replace hk := hk.trans (hg5.mono hk.size); clear hg5))
         go_meet
         case rel => exact ⟨hB, hk⟩
       ·have hpm' : ¬ (p : Int) < m := by omega
        simp only [rsz_wpl hwz, if_neg hpm] at hgy
        obtain ⟨gv, hgv⟩ : ∃ gv, gtV x0 p = gv := ⟨_, rfl⟩
        obtain ⟨wv, hwv⟩ : ∃ wv, wpl x0 p = wv := ⟨_, rfl⟩
        have hgo2 := hgo1
        simp only [hgv, hwv] at hgo2
        clear hwz hgv hwv
        go_wp2_with (first
         | go_skip
         | (with_reducible refine wpList_loadb (by first | kernel_rfl | with_unfolding_all rfl) 40 _ rfl P2 rfl C2 hQ2 _ Try.underlying40 (by kernel_rfl) (size40C hz2) ?_)
         | (with_reducible refine wpList_loadb (by first | kernel_rfl | with_unfolding_all rfl) 40 _ rfl B rfl C0 hB _ Try.underlying40 (by kernel_rfl) (size40C hz0) ?_)
         | (go_at_call 11; (with_reducible refine (hgy hO2).mono ?_); rintro e g4 ⟨rfl, hg4⟩; replace hB := hB.next hg4; replace hO2 := hO2.next hg4; replace hQ2 := hQ2.next hg4; replace hk := hk.trans (hg4.mono hk.size); clear hg4)
         | (go_at_call 11; (with_reducible refine (hgo2 _ hk).mono ?_); rintro e g5 ⟨rfl, hg5⟩; replace hB := hB.next hg5; replace hO2 := hO2.next hg5; replace hQ2 := hQ2.next hg5; replace hk := hk.trans (hg5.mono hk.size); clear hg5))
        go_meet
        case rel => exact ⟨hB, hk⟩
      ·have hwz' : (wsz x0 a4 == 0) = false := by simpa using hwz
       go_wp2_with (first | go_skip)
       go_meet
       case rel => exact ⟨hB, hk⟩
     case rest =>
      obtain ⟨hB, hk⟩ := hcut
      have hr : (p : Int) % 64 = ((p % 64 : Nat) : Int) := by omega
      obtain ⟨m, hm⟩ : ∃ m, p % 64 = m := ⟨_, rfl⟩
      have hm64 : m < 64 := by omega
      rw [hm] at hr
      go_wp2_with (first
       | (with_reducible refine wpList_loadb (by first | kernel_rfl | with_unfolding_all rfl) 40 _ rfl B rfl C0 hB _ Try.underlying40 (by kernel_rfl) (size40C hz0) ?_)
       | (go_at_call 18; (with_reducible refine (page_any (l0.next hk) (n := (m : Int))).mono ?_); rintro e g6 ⟨rfl, hg6⟩; replace hB := hB.next hg6; replace hk := hk.trans (hg6.mono hk.size); clear hg6)
       | ((with_reducible refine wpList_alloc rfl _ rfl zP zeroP ?_); intro G A7 hA7 hG hkA; have hGe := hA7.out.1)
       | ((with_reducible refine wpList_store_blk rfl _ _ _ rfl G rfl (pgC x0 (m : Int)) rfl zP hG (sizeP (pgC_size _ _)) (zP_size.trans (pgC_size _ _).symm) (pgC_one _ _) ?_); intro A8 hG8 o8; have kS8 := o8.below _ _ (Nat.le_of_eq hGe) hkA; replace hB := hB.next kS8; replace hk := hk.trans (kS8.mono hk.size))
       | (with_reducible refine wpList_loadb (by first | kernel_rfl | with_unfolding_all rfl) 27 _ rfl G rfl (pgC x0 (m : Int)) hG8 _ Try.underlying27 (by kernel_rfl) (sizeP (pgC_size _ _)) ?_))
      go_loopw [159] (fun i wr => ∃ k : Nat, k ≤ 16 ∧ i = .int .i64 k ∧ Blk wr B C0 40 ∧ Below w.heap.size w wr) (fun i _ => 16 - (intOf i).toNat)
      case atStart => exact ⟨0, Nat.zero_le _, rfl, hB, hk⟩
      case round =>
       obtain ⟨k, hk16, rfl, hBr, hkr⟩ := hrel
       by_cases hlt : k < 16
       ·have hlt' : (k : Int) < 16 := by omega
        have hix : (Instr.index 27 (.agg (pgC x0 (m : Int))) (.int .i64 (k : Int))).run Try.prog wr = .ok (.int .u64 (x0.data.getD (16 * m + k) 0)) wr := idx_pg h1H.out hlt
        have hj : 16 * m + k < 18446744073709551616 := by omega
        have hgj := hgo wr hkr hj
        have hwm : IntKind.u64.wrap ((m : Int) * 16) = (m : Int) * 16 := by rw [IntKind.wrap_u64]; omega
        have hwk : IntKind.u64.wrap (k : Int) = k := by rw [IntKind.wrap_u64]; omega
        have hwa : IntKind.u64.wrap ((m : Int) * 16 + k) = ((16 * m + k : Nat) : Int) := by rw [IntKind.wrap_u64]; omega
        obtain ⟨j, hjj⟩ : ∃ j, Hid (16 * m + k = j) := ⟨_, rfl⟩
        rw [hjj.out] at hix hgj hwa
        by_cases hjl : j < n6
        ·have hpg : gtV x0 j = x0.data.getD j 0 := gt_near h1H.out (by rw [hn6.out]; exact hjl)
         have hjw : wpl x0 j = 0 := (wpl_zero h1H.out).2 (by rw [hn6.out]; exact hjl)
         rw [hpg, hjw] at hgj
         obtain ⟨gv, hgv⟩ : ∃ gv, x0.data.getD j 0 = gv := ⟨_, rfl⟩
         rw [hgv] at hgj hix
         clear hpg hjw hgv
         go_wp2_with (first
          | go_skip
          | (with_reducible refine wpList_loadb (by first | kernel_rfl | with_unfolding_all rfl) 40 _ rfl B rfl C0 hBr _ Try.underlying40 (by kernel_rfl) (size40C hz0) ?_)
          | (with_reducible refine wpList_ixv (by first | kernel_rfl | with_unfolding_all rfl) 27 _ _ rfl _ _ rfl rfl _ hix ?_)
          | (go_at_call 11; (with_reducible refine hgj.mono ?_); rintro e g7 ⟨rfl, hg7⟩; replace hBr := hBr.next hg7; replace hkr := hkr.trans (hg7.mono hkr.size)))
         go_roundw
         case rel => exact ⟨k + 1, by omega, by go_num, hBr, hkr⟩
         case measure => simp [intOf]; omega
        ·have hpg : x0.data.getD j 0 = 0 := get_far (by rw [hn6.out]; exact hjl)
         rw [wpl_far h1H.out (show ¬ j < x0.data.length by rw [hn6.out]; exact hjl)] at hgj
         rw [hpg] at hix
         obtain ⟨gv, hgv⟩ : ∃ gv, gtV x0 j = gv := ⟨_, rfl⟩
         rw [hgv] at hgj
         clear hpg hgv
         go_wp2_with (first
          | go_skip
          | (with_reducible refine wpList_loadb (by first | kernel_rfl | with_unfolding_all rfl) 40 _ rfl B rfl C0 hBr _ Try.underlying40 (by kernel_rfl) (size40C hz0) ?_)
          | (with_reducible refine wpList_ixv (by first | kernel_rfl | with_unfolding_all rfl) 27 _ _ rfl _ _ rfl rfl _ hix ?_)
          | (go_at_call 11; (with_reducible refine hgj.mono ?_); rintro e g7 ⟨rfl, hg7⟩; replace hBr := hBr.next hg7; replace hkr := hkr.trans (hg7.mono hkr.size)))
         go_roundw
         case rel => exact ⟨k + 1, by omega, by go_num, hBr, hkr⟩
         case measure => simp [intOf]; omega
       ·obtain rfl : k = 16 := by omega
        go_wp2_with (go_at_call 8; (with_reducible refine (awake16_any _).mono ?_); rintro e w8 ⟨rfl, hb8⟩; replace hkr := hkr.trans (hb8.mono hkr.size))
        go_ret
        exact ⟨rfl, hkr⟩
  ·have h1' : (x0.kind == 1) = false := by simpa using h1
   go_enter Try.func4, Try.ntmps4
   try simp only [List.append]
   go_wp2_with (first
    | go_skip
    | (with_reducible refine wpList_box rfl _ _ rfl C0 rfl ?_; intro B W0 hB0 hB hk)
    | (with_reducible refine wpList_loadb (by first | kernel_rfl | with_unfolding_all rfl) 40 _ rfl B rfl C0 hB _ Try.underlying40 (by kernel_rfl) (size40C hz0) ?_)
    | (with_reducible refine wpList_load1 (by first | kernel_rfl | with_unfolding_all rfl) _ _ rfl B 1 rfl _ _ hB _ hki ga2 ?_)
    | (go_at_call 6; (with_reducible refine ((hbr0 _ hk).yes hbr).mono ?_); rintro e w1 ⟨rfl, hb8⟩; replace hB := hB.next hb8; replace hk := hk.trans (hb8.mono hk.size))
    | (go_at_call 8; (with_reducible refine (awake16_any _).mono ?_); rintro e w8 ⟨rfl, hb8⟩; replace hB := hB.next hb8; replace hk := hk.trans (hb8.mono hk.size)))
   all_goals go_ret
   all_goals exact ⟨rfl, hk⟩
 ·go_enter Try.func4, Try.ntmps4
  try simp only [List.append]
  go_wp2_with (first
   | go_skip
   | (with_reducible refine wpList_box rfl _ _ rfl C0 rfl ?_; intro B W0 hB0 hB hk)
   | (with_reducible refine wpList_loadb (by first | kernel_rfl | with_unfolding_all rfl) 40 _ rfl B rfl C0 hB _ Try.underlying40 (by kernel_rfl) (size40C hz0) ?_)
   | (with_reducible refine wpList_load1 (by first | kernel_rfl | with_unfolding_all rfl) _ _ rfl B 1 rfl _ _ hB _ hki ga2 ?_)
   | (go_at_call 6; (with_reducible refine ((hbr0 _ hk).no hbr).mono ?_); rintro e w1 ⟨rfl, hb8⟩; replace hB := hB.next hb8; replace hk := hk.trans (hb8.mono hk.size))
   | (go_at_call 8; (with_reducible refine (awake16_any _).mono ?_); rintro e w8 ⟨rfl, hb8⟩; replace hB := hB.next hb8; replace hk := hk.trans (hb8.mono hk.size)))
  all_goals go_ret
  all_goals exact ⟨rfl, hk⟩

theorem lifted (os : Os) (started : os.Started) (H : Type) (enc : TypeId × Value → H) :
  ReturnsInHanded {} Try.checked os 4 .any (Rows.segFoundSpec.pre6 enc Try.prog Try.f4 Rows.segFoundRow.domain false) (Rows.segFoundSpec.post enc Try.prog Try.f4 false true false false) := by
 refine returnsInHanded_of_change (C := Try.checked) own started (by kernel_rfl) Try.func4
  (ChangeSpec.witness6 (enc := enc) (C := Try.checked) false ⟨#[], #[.agg zC, .int .u64 0, .int .u64 0, .int .u64 0, .int .i64 0], []⟩ 8 (by kernel_rfl) (by kernel_rfl) (by kernel_rfl) (by kernel_rfl)) ?_
 intro W base args ds gs before hval0 hW hcnd _
 have hval : ∀ (j : Nat) t v, Try.f4.params[j]? = some t → args[j]? = some v → Value.okWide Try.prog W .any base t v := hval0
 have hW' := hW
 obtain ⟨p, q, hA0, hV, rfl, hfz, hnd⟩ := hW
 have hA : DataW.TrodAll enc Try.prog W 0 (fun _ => true) true Try.f4.params.toList args.toList ds p := hA0
 rw [Try.params4] at hA hval
 obtain ⟨v0, vs0, d0, ds0, p0, q0, hargs, rfl, rfl, h0, r0⟩ := trodAll_cons hA
 obtain ⟨v1, vs1, d1, ds1, p1, q1, rfl, rfl, rfl, h1, r1⟩ := trodAll_cons r0
 obtain ⟨v2, vs2, d2, ds2, p2, q2, rfl, rfl, rfl, h2, r2⟩ := trodAll_cons r1
 obtain ⟨v3, vs3, d3, ds3, p3, q3, rfl, rfl, rfl, h3, r3⟩ := trodAll_cons r2
 obtain ⟨v4, vs4, d4, ds4, p4, q4, rfl, rfl, rfl, h4, r4⟩ := trodAll_cons r3
 obtain ⟨rfl, rfl, rfl⟩ := trodAll_nil r4
 obtain rfl : args = #[v0, v1, v2, v3, v4] := by cases args; simp_all
 obtain ⟨rfl, rfl⟩ := trodVars_none hV
 obtain ⟨C0, x0, rfl, l0⟩ := obj_of_trod (hval 0 40 v0 rfl rfl) h0
 have k0 := h0
 have lt0 : ∀ x ∈ p0, x.block < W.heap.size := by obtain ⟨m, hm⟩ := k0; exact DataW.trod_lt m _ _ _ hm
 obtain ⟨a1, rfl, rfl, rfl, w1⟩ := open_int Try.underlying22 (hval 1 22 v1 rfl rfl) h1
 obtain ⟨a2, rfl, rfl, rfl, w2⟩ := open_int Try.underlying22 (hval 2 22 v2 rfl rfl) h2
 obtain ⟨a3, rfl, rfl, rfl, w3⟩ := open_int Try.underlying22 (hval 3 22 v3 rfl rfl) h3
 obtain ⟨a4, rfl, rfl, rfl, w4⟩ := open_int Try.underlying3 (hval 4 3 v4 rfl rfl) h4
 clear hA0 hval0
 refine (walk C0 x0 a1 a2 a3 a4 W l0 w1 w2 w3 w4).mono fun e W' ⟨he, bel⟩ => ?_
 subst he
 exact ⟨_, rfl, _, _, _, [], _, [], hW', trodAll_mk1 (shut_bool Try.underlying4 _), (trodAll_cons_mk (Below.trod laidOut (by kernel_rfl) (of_decide_eq_true (by kernel_rfl)) k0 bel lt0) (trodAll_cons_mk (shut_int Try.underlying22 w1) (trodAll_cons_mk (shut_int Try.underlying22 w2) (trodAll_cons_mk (shut_int Try.underlying22 w3) (trodAll_cons_mk (shut_int Try.underlying3 w4) trodAll_mk0))))), rfl, bel.frame _, fun h => by cases h⟩

theorem over : Rows.segFoundRow.holds Try.pinned (OpenSpec.ofChange Rows.segFoundSpec) :=
 OpenClaim.holds_of_wide 4 Try.f4 rfl rfl rfl rfl rfl rfl rfl ⟨rfl, rfl, rfl, rfl, rfl⟩ rfl rfl rfl rfl rfl (by kernel_rfl) Try.func4 (by kernel_rfl)
  (of_decide_eq_true (by kernel_rfl)) (by unfold Func.isWrapper; first | (rw [if_pos (by decide +kernel)]; kernel_rfl) | (rw [if_neg (by decide +kernel)]; exact ⟨rfl, rfl⟩))
  (fun os started H enc _ => lifted os started H enc)

end segFound
theorem segFound_holds : Rows.SegFoundSaid :=
 segFound.over
#print axioms segFound_holds
end Go.Proofs.Ytlaagheeemkklaa
