/-
 PROVED HERE: words at unlike places may be put in either order, one that is put again is the last one; a segment made smaller and greater again has 0 where it was cut; a copy's words are the segment's (SegSwaps), over the landed code. No condition.
-/
import Derived.Test.YtlaagheeemkklaaRows
import Derived.WalkKit
import Derived.ProofKit
import Derived.OpenShut
import Derived.Below
import Derived.ShutString
import Derived.Deep.QuietTactic
import Derived.Deep.DeepCutAuto
import Derived.Test.YtlaagheeemkklaaZ17
import Derived.Test.YtlaagheeemkklaaZ21
namespace Go.Proofs.Ytlaagheeemkklaa
set_option maxRecDepth 100000
set_option maxHeartbeats 8000000
namespace segSwaps
open Go.ChangeShapes Go.WideShapes Go.ChangeAt Go.RowKit
open Go.ChangeMaps (open_string shut_string)
set_option linter.unusedVariables false

theorem own : ownKnob Try.prog.godebug = none := by kernel_rfl

theorem walk (C0 : Array Value) (x0 : Ob) (a1 : Int) (a2 : Int) (a3 : Int) (a4 : Int) (a5 : Int) (w : World) (l0 : ObD (LtN w) w C0 x0) (w1 : (Lit.int .u64 a1).wf = true) (w2 : (Lit.int .u64 a2).wf = true) (w3 : (Lit.int .u64 a3).wf = true) (w4 : (Lit.int .u64 a4).wf = true) (w5 : (Lit.int .i64 a5).wf = true) :
  Calls Try.prog 5 #[.agg C0, .int .u64 a1, .int .u64 a2, .int .u64 a3, .int .u64 a4, .int .i64 a5] w fun e w' => e = .returned (.bool true) ∧ Below w.heap.size w w' := by
 have hz0 := l0.size
 have hbr0 := fun (W : World) (hk : Below w.heap.size w W) => brief16_any (l0.next hk)
 have ga0 := Try.isAgg24
 have ga1 := Try.isAgg22
 have ga2 := Try.isAgg3
 have ga4 := Try.isAgg25
 have hki := l0.kind
 have hid := l0.id
 have hqt := l0.quota
 obtain ⟨a6, n6, c6, e6, l6⟩ := l0.data
 obtain ⟨a2', n2, c2, e2, l2⟩ := l0.label
 have hn6 : Hid (x0.data.length = n6) := l6.1
 obtain ⟨p, rfl, hp⟩ := u64_nat w1
 obtain ⟨q, rfl, hq⟩ := u64_nat w2
 by_cases hbr : brP x0
 ·by_cases h1 : x0.kind = 1
  ·rw [h1] at hki
   have h1H : Hid (x0.kind = 1) := h1
   clear h1
   by_cases h5 : 5000 < a5
   ·go_enter Try.func5, Try.ntmps5
    try simp only [List.append]
    go_wp2_with (first
     | go_skip
     | (with_reducible refine wpList_box rfl _ _ rfl C0 rfl ?_; intro B W0 hB0 hB hk)
     | (with_reducible refine wpList_loadb (by first | kernel_rfl | with_unfolding_all rfl) 40 _ rfl B rfl C0 hB _ Try.underlying40 (by kernel_rfl) (size40C hz0) ?_)
     | (with_reducible refine wpList_load1 (by first | kernel_rfl | with_unfolding_all rfl) _ _ rfl B 1 rfl _ _ hB _ hki ga2 ?_)
     | (go_at_call 6; (with_reducible refine ((hbr0 _ hk).yes hbr).mono ?_); rintro e w1 ⟨rfl, hb8⟩; replace hB := hB.next hb8; replace hk := hk.trans (hb8.mono hk.size))
     | (go_at_call 8; (with_reducible refine (awake16_any _).mono ?_); rintro e w8 ⟨rfl, hb8⟩; replace hB := hB.next hb8; replace hk := hk.trans (hb8.mono hk.size)))
    all_goals go_ret
    all_goals exact ⟨rfl, hk⟩
   ·have h50 : decide (5000 < a5) = false := decide_eq_false h5
    have hsm := hbr.small
    have hso := hbr.2.2.2.2
    have hqu := hbr.quota
    have hsx := fun q => sg_of hso q
    have hda : n6 ≤ 200 := by rw [← hn6.out]; exact hbr.2.1
    have hcp := fun (W : World) (hk : Below w.heap.size w W) => copy_any (l0.next hk) hsm (i := x0.id) (q := x0.quota) (labD_next l2 hk) hsm.c2
    obtain ⟨hcE, hcO⟩ := cp_same hso h1H.out
    simp only [hcE, hcO] at hcp
    go_enter Try.func5, Try.ntmps5
    try simp only [List.append]
    go_upto_region 5 with (first
     | go_skip
     | (with_reducible refine wpList_box rfl _ _ rfl C0 rfl ?_; intro B W0 hB0 hB hk)
     | (with_reducible refine wpList_loadb (by first | kernel_rfl | with_unfolding_all rfl) 40 _ rfl B rfl C0 hB _ Try.underlying40 (by kernel_rfl) (size40C hz0) ?_)
     | (with_reducible refine wpList_load1 (by first | kernel_rfl | with_unfolding_all rfl) _ _ rfl B 1 rfl _ _ hB _ hki ga2 ?_)
     | (go_at_call 6; (with_reducible refine ((hbr0 _ hk).yes hbr).mono ?_); rintro e w1 ⟨rfl, hb8⟩; replace hB := hB.next hb8; replace hk := hk.trans (hb8.mono hk.size))
     | ((with_reducible refine wpList_alloc rfl _ rfl zC zero40 ?_); intro P2 A2 hA2 hP2 hkA2; have hz2 := hO2.size; have ho2 := hO2.one; have hle2 := hA2.out.1)
     | ((with_reducible refine wpList_alloc rfl _ rfl zC zero40 ?_); intro P1 A1 hA1 hP1 hkA1; have hz1 := hO1.size; have ho1 := hO1.one; have hle1 := hA1.out.1)
     | (go_at_call 13; (with_reducible refine (put_any (l0.next hk) hsm hsx hp (v := a3)).mono ?_); rintro e v1 ⟨C1, rfl, hO1, hv1⟩; replace hB := hB.next hv1; replace hk := hk.trans (hv1.mono hk.size))
     | ((with_reducible refine wpList_store_blk rfl _ _ _ rfl P1 rfl C1 rfl zC hP1 (size40C hz1) (zC_size.trans hz1.symm) ho1 ?_); intro S1 hQ1 oS1; have kS1 := oS1.below _ _ (Nat.le_of_eq hle1) hkA1; replace hB := hB.next kS1; replace hk := hk.trans (kS1.mono hk.size); replace hO1 := hO1.next kS1; clear hP1 hkA1 oS1 hA1)
     | (with_reducible refine wpList_loadb (by first | kernel_rfl | with_unfolding_all rfl) 40 _ rfl P1 rfl C1 hQ1 _ Try.underlying40 (by kernel_rfl) (size40C hz1) ?_)
     | (go_at_call 13; (with_reducible refine (put_any (l0.next hk) hsm hsx hq (v := a4)).mono ?_); rintro e v2 ⟨C2, rfl, hO2, hv2⟩; replace hB := hB.next hv2; replace hO1 := hO1.next hv2; replace hQ1 := hQ1.next hv2; replace hk := hk.trans (hv2.mono hk.size))
     | ((with_reducible refine wpList_store_blk rfl _ _ _ rfl P2 rfl C2 rfl zC hP2 (size40C hz2) (zC_size.trans hz2.symm) ho2 ?_); intro S2 hQ2 oS2; have kS2 := oS2.below _ _ (Nat.le_of_eq hle2) hkA2; replace hB := hB.next kS2; replace hO1 := hO1.next kS2; replace hQ1 := hQ1.next kS2; replace hk := hk.trans (kS2.mono hk.size); replace hO2 := hO2.next kS2; clear hP2 hkA2 oS2 hA2)
     | (with_reducible refine wpList_loadb (by first | kernel_rfl | with_unfolding_all rfl) 40 _ rfl P2 rfl C2 hQ2 _ Try.underlying40 (by kernel_rfl) (size40C hz2) ?_))
    obtain ⟨bb, hbb⟩ := bool_of (wpl x0 p = 0 ∧ wpl x0 q = 0)
    go_cut [61] (fun s wc => s = .bool bb ∧ wc = S2)
    case first =>
     cases hpp : (wpl x0 p == 0) with
     | true =>
      cases hpq : (wpl x0 q == 0) with
      | true =>
       have hb0 : bb = true := hbb.out.2 ⟨by simpa using hpp, by simpa using hpq⟩
       go_wp2_with (first | go_skip)
       go_meet
       case rel => exact ⟨by rw [show bb = true from hb0], rfl⟩
      | false =>
       have hb0 : bb = false := by
        cases hB : bb with
        | false => rfl
        | true => rw [(hbb.out.1 hB).2] at hpq; cases hpq
       go_wp2_with (first | go_skip)
       go_meet
       case rel => exact ⟨by rw [show bb = false from hb0], rfl⟩
     | false =>
      have hb0 : bb = false := by
       cases hB : bb with
       | false => rfl
       | true => rw [(hbb.out.1 hB).1] at hpp; cases hpp
      go_wp2_with (first | go_skip)
      go_meet
      case rel => exact ⟨by rw [show bb = false from hb0], rfl⟩
    case rest =>
     obtain ⟨rfl, rfl⟩ := hcut
     go_upto_if 61 with (fail)
     go_cut [] (fun wc => Blk wc B C0 40 ∧ Below w.heap.size w wc)
     case first =>
      cases bb with
      | true =>
       obtain ⟨hpp, hpq⟩ := hbb.out.1 rfl
       by_cases he : p = q
       ·have heH : Hid ((p : Int) = (q : Int)) := by show (p : Int) = q; omega
        have hput : Hid (putO (putO x0 p a3) q a4 = putO x0 q a4) := by subst he; exact put_twice hpp
        clear hpp hpq hbb he
        go_wp2_with (first
         | go_skip
         | (with_reducible refine wpList_neF (by with_unfolding_all rfl) 22 _ _ _ rfl .u64 (p : Int) (q : Int) rfl rfl heH ?_)
         | (with_reducible refine wpList_eqT (by with_unfolding_all rfl) 22 _ _ _ rfl .u64 (p : Int) (q : Int) rfl rfl heH ?_)
         | (with_reducible refine wpList_loadb (by with_unfolding_all rfl) 40 _ rfl P1 rfl C1 hQ1 _ Try.underlying40 (by kernel_rfl) (size40C hz1) ?_)
         | (with_reducible refine wpList_loadb (by with_unfolding_all rfl) 40 _ rfl P2 rfl C2 hQ2 _ Try.underlying40 (by kernel_rfl) (size40C hz2) ?_)
         | ((with_reducible refine wpList_alloc rfl _ rfl zC zero40 ?_); intro P4 A4 hA4 hP4 hkA4; have hz4 := hO4.size; have ho4 := hO4.one; have hle4 := hA4.out.1)
         | ((with_reducible refine wpList_alloc rfl _ rfl zC zero40 ?_); intro P3 A3 hA3 hP3 hkA3; have hz3 := hO3.size; have ho3 := hO3.one; have hle3 := hA3.out.1)
         | (go_at_call 13; (with_reducible refine (put_any hO1 (put_small hsm) (put_sg (hsx h1H.out)) hq (v := a4)).mono ?_); rintro e v1 ⟨C3, rfl, hO3, hv1⟩; replace hB := hB.next hv1; replace hO1 := hO1.next hv1; replace hQ1 := hQ1.next hv1; replace hO2 := hO2.next hv1; replace hQ2 := hQ2.next hv1; replace hk := hk.trans (hv1.mono hk.size))
         | ((with_reducible refine wpList_store_blk rfl _ _ _ rfl P3 rfl C3 rfl zC hP3 (size40C hz3) (zC_size.trans hz3.symm) ho3 ?_); intro S3 hQ3 oS3; have kS3 := oS3.below _ _ (Nat.le_of_eq hle3) hkA3; replace hB := hB.next kS3; replace hO1 := hO1.next kS3; replace hQ1 := hQ1.next kS3; replace hO2 := hO2.next kS3; replace hQ2 := hQ2.next kS3; replace hk := hk.trans (kS3.mono hk.size); replace hO3 := hO3.next kS3; clear hP3 hkA3 oS3 hA3)
         | (with_reducible refine wpList_loadb (by with_unfolding_all rfl) 40 _ rfl P3 rfl C3 hQ3 _ Try.underlying40 (by kernel_rfl) (size40C hz3) ?_)
         | (go_at_call 13; (with_reducible refine (put_any hO2 (put_small hsm) (put_sg (hsx h1H.out)) hp (v := a3)).mono ?_); rintro e v2 ⟨C4, rfl, hO4, hv2⟩; replace hB := hB.next hv2; replace hO1 := hO1.next hv2; replace hQ1 := hQ1.next hv2; replace hO2 := hO2.next hv2; replace hQ2 := hQ2.next hv2; replace hO3 := hO3.next hv2; replace hQ3 := hQ3.next hv2; replace hk := hk.trans (hv2.mono hk.size))
         | ((with_reducible refine wpList_store_blk rfl _ _ _ rfl P4 rfl C4 rfl zC hP4 (size40C hz4) (zC_size.trans hz4.symm) ho4 ?_); intro S4 hQ4 oS4; have kS4 := oS4.below _ _ (Nat.le_of_eq hle4) hkA4; replace hB := hB.next kS4; replace hO1 := hO1.next kS4; replace hQ1 := hQ1.next kS4; replace hO2 := hO2.next kS4; replace hQ2 := hQ2.next kS4; replace hO3 := hO3.next kS4; replace hQ3 := hQ3.next kS4; replace hk := hk.trans (kS4.mono hk.size); replace hO4 := hO4.next kS4; clear hP4 hkA4 oS4 hA4)
         | (with_reducible refine wpList_loadb (by with_unfolding_all rfl) 40 _ rfl P4 rfl C4 hQ4 _ Try.underlying40 (by kernel_rfl) (size40C hz4) ?_)
         | (go_at_call 17; (with_reducible refine ((rsameOne_any hO3 hO2).yes hput.out).mono ?_); rintro e s1 ⟨rfl, hb8⟩; replace hB := hB.next hb8; replace hO1 := hO1.next hb8; replace hQ1 := hQ1.next hb8; replace hO2 := hO2.next hb8; replace hQ2 := hQ2.next hb8; replace hO3 := hO3.next hb8; replace hQ3 := hQ3.next hb8; replace hO4 := hO4.next hb8; replace hQ4 := hQ4.next hb8; replace hk := hk.trans (hb8.mono hk.size)))
        go_meet
        case rel => exact ⟨hB, hk⟩
       ·have heH : Hid (¬ p = q) := he
        have hput : Hid (putO (putO x0 p a3) q a4 = putO (putO x0 q a4) p a3) := put_swap_o hpp hpq he
        clear hpp hpq hbb he
        go_wp2_with (first
         | go_skip
         | (with_reducible refine wpList_neN (by with_unfolding_all rfl) 22 _ _ _ rfl .u64 p q rfl rfl heH ?_)
         | (with_reducible refine wpList_eqN (by with_unfolding_all rfl) 22 _ _ _ rfl .u64 p q rfl rfl heH ?_)
         | (with_reducible refine wpList_loadb (by with_unfolding_all rfl) 40 _ rfl P1 rfl C1 hQ1 _ Try.underlying40 (by kernel_rfl) (size40C hz1) ?_)
         | (with_reducible refine wpList_loadb (by with_unfolding_all rfl) 40 _ rfl P2 rfl C2 hQ2 _ Try.underlying40 (by kernel_rfl) (size40C hz2) ?_)
         | ((with_reducible refine wpList_alloc rfl _ rfl zC zero40 ?_); intro P4 A4 hA4 hP4 hkA4; have hz4 := hO4.size; have ho4 := hO4.one; have hle4 := hA4.out.1)
         | ((with_reducible refine wpList_alloc rfl _ rfl zC zero40 ?_); intro P3 A3 hA3 hP3 hkA3; have hz3 := hO3.size; have ho3 := hO3.one; have hle3 := hA3.out.1)
         | (go_at_call 13; (with_reducible refine (put_any hO1 (put_small hsm) (put_sg (hsx h1H.out)) hq (v := a4)).mono ?_); rintro e v1 ⟨C3, rfl, hO3, hv1⟩; replace hB := hB.next hv1; replace hO1 := hO1.next hv1; replace hQ1 := hQ1.next hv1; replace hO2 := hO2.next hv1; replace hQ2 := hQ2.next hv1; replace hk := hk.trans (hv1.mono hk.size))
         | ((with_reducible refine wpList_store_blk rfl _ _ _ rfl P3 rfl C3 rfl zC hP3 (size40C hz3) (zC_size.trans hz3.symm) ho3 ?_); intro S3 hQ3 oS3; have kS3 := oS3.below _ _ (Nat.le_of_eq hle3) hkA3; replace hB := hB.next kS3; replace hO1 := hO1.next kS3; replace hQ1 := hQ1.next kS3; replace hO2 := hO2.next kS3; replace hQ2 := hQ2.next kS3; replace hk := hk.trans (kS3.mono hk.size); replace hO3 := hO3.next kS3; clear hP3 hkA3 oS3 hA3)
         | (with_reducible refine wpList_loadb (by with_unfolding_all rfl) 40 _ rfl P3 rfl C3 hQ3 _ Try.underlying40 (by kernel_rfl) (size40C hz3) ?_)
         | (go_at_call 13; (with_reducible refine (put_any hO2 (put_small hsm) (put_sg (hsx h1H.out)) hp (v := a3)).mono ?_); rintro e v2 ⟨C4, rfl, hO4, hv2⟩; replace hB := hB.next hv2; replace hO1 := hO1.next hv2; replace hQ1 := hQ1.next hv2; replace hO2 := hO2.next hv2; replace hQ2 := hQ2.next hv2; replace hO3 := hO3.next hv2; replace hQ3 := hQ3.next hv2; replace hk := hk.trans (hv2.mono hk.size))
         | ((with_reducible refine wpList_store_blk rfl _ _ _ rfl P4 rfl C4 rfl zC hP4 (size40C hz4) (zC_size.trans hz4.symm) ho4 ?_); intro S4 hQ4 oS4; have kS4 := oS4.below _ _ (Nat.le_of_eq hle4) hkA4; replace hB := hB.next kS4; replace hO1 := hO1.next kS4; replace hQ1 := hQ1.next kS4; replace hO2 := hO2.next kS4; replace hQ2 := hQ2.next kS4; replace hO3 := hO3.next kS4; replace hQ3 := hQ3.next kS4; replace hk := hk.trans (kS4.mono hk.size); replace hO4 := hO4.next kS4; clear hP4 hkA4 oS4 hA4)
         | (with_reducible refine wpList_loadb (by with_unfolding_all rfl) 40 _ rfl P4 rfl C4 hQ4 _ Try.underlying40 (by kernel_rfl) (size40C hz4) ?_)
         | (go_at_call 17; (with_reducible refine ((rsameOne_any hO3 hO4).yes hput.out).mono ?_); rintro e s1 ⟨rfl, hb8⟩; replace hB := hB.next hb8; replace hO1 := hO1.next hb8; replace hQ1 := hQ1.next hb8; replace hO2 := hO2.next hb8; replace hQ2 := hQ2.next hb8; replace hO3 := hO3.next hb8; replace hQ3 := hQ3.next hb8; replace hO4 := hO4.next hb8; replace hQ4 := hQ4.next hb8; replace hk := hk.trans (hb8.mono hk.size)))
        go_meet
        case rel => exact ⟨hB, hk⟩
      | false =>
       clear hbb
       go_wp2_with (first | go_skip)
       go_meet
       case rel => exact ⟨hB, hk⟩
     case rest =>
      obtain ⟨hB, hk⟩ := hcut
      go_upto_region 11 with (first
       | go_skip
       | (with_reducible refine wpList_loadb (by first | kernel_rfl | with_unfolding_all rfl) 40 _ rfl B rfl C0 hB _ Try.underlying40 (by kernel_rfl) (size40C hz0) ?_)
       | ((with_reducible refine wpList_alloc rfl _ rfl zC zero40 ?_); intro P5 A5 hA5 hP5 hkA5; have hz5 := hO5.size; have ho5 := hO5.one; have hle5 := hA5.out.1)
       | (go_at_call 9; (with_reducible refine (resize_any (l0.next hk) hsm (n := a5)).mono ?_); rintro e v1 ⟨C5, rfl, ⟨hO5a, _⟩, hv1⟩; replace hB := hB.next hv1; replace hk := hk.trans (hv1.mono hk.size); have hO5 := hO5a.wide (D' := LtN v1) fun b hb => hb.2)
       | ((with_reducible refine wpList_store_blk rfl _ _ _ rfl P5 rfl C5 rfl zC hP5 (size40C hz5) (zC_size.trans hz5.symm) ho5 ?_); intro S5 hQ5 oS5; have kS5 := oS5.below _ _ (Nat.le_of_eq hle5) hkA5; replace hB := hB.next kS5; replace hk := hk.trans (kS5.mono hk.size); replace hO5 := hO5.next kS5; clear hP5 hkA5 oS5 hA5)
       | (with_reducible refine wpList_loadb (by first | kernel_rfl | with_unfolding_all rfl) 40 _ rfl P5 rfl C5 hQ5 _ Try.underlying40 (by kernel_rfl) (size40C hz5) ?_))
      obtain ⟨cb, hcb⟩ := bool_of (wsz x0 a5 = 0 ∧ a5 < (n6 : Int))
      go_cut [110] (fun s wc => s = .bool cb ∧ wc = S5)
      case first =>
       cases hpp : (wsz x0 a5 == 0) with
       | true =>
        by_cases hpq : a5 < (n6 : Int)
        ·have hb0 : cb = true := hcb.out.2 ⟨by simpa using hpp, hpq⟩
         go_wp2_with (first | go_skip | (with_reducible refine wpList_load1 (by first | kernel_rfl | with_unfolding_all rfl) _ _ rfl B 6 rfl _ _ hB _ e6 ga4 ?_))
         go_meet
         case rel => exact ⟨by rw [hb0], rfl⟩
        ·have hb0 : cb = false := by
          cases hB : cb with
          | false => rfl
          | true => exact absurd (hcb.out.1 hB).2 hpq
         go_wp2_with (first | go_skip | (with_reducible refine wpList_load1 (by first | kernel_rfl | with_unfolding_all rfl) _ _ rfl B 6 rfl _ _ hB _ e6 ga4 ?_))
         go_meet
         case rel => exact ⟨by rw [hb0], rfl⟩
       | false =>
        have hb0 : cb = false := by
         cases hB : cb with
         | false => rfl
         | true => rw [(hcb.out.1 hB).1] at hpp; cases hpp
        go_wp2_with (first | go_skip)
        go_meet
        case rel => exact ⟨by rw [hb0], rfl⟩
      case rest =>
      obtain ⟨rfl, rfl⟩ := hcut
      go_upto_if 110 with (fail)
      go_cut [] (fun wc => Blk wc B C0 40 ∧ Below w.heap.size w wc)
      case first =>
       cases cb with
       | true =>
        obtain ⟨hwz, hml⟩ := hcb.out.1 rfl
        clear hcb
        obtain ⟨m, rfl⟩ : ∃ m : Nat, a5 = m := by
         rcases wsz_cases x0 a5 with ⟨_, _, h, _⟩ | h
         ·exact ⟨a5.toNat, by omega⟩
         ·exact absurd hwz h
        ·obtain ⟨hbk1, hbk2⟩ := rsz_back hso h1H.out hwz (by rw [hn6.out]; omega)
         rw [hn6.out] at hbk1 hbk2
         have hrz := fun {W : World} (hO : ObD (LtN W) W C5 (rsz x0 (m : Int))) => resize_any hO (rsz_small hsm (by omega)) (n := (n6 : Int))
         simp only [hbk1] at hrz
         replace hbk2 : Hid ((rsz (rsz x0 (m : Int)) (n6 : Int)).data = ws (ws x0.data 0 m) 0 n6) := hbk2
         clear hwz hbk1
         go_wp2_with (first
          | go_skip
          | (with_reducible refine wpList_loadb (by first | kernel_rfl | with_unfolding_all rfl) 40 _ rfl P5 rfl C5 hQ5 _ Try.underlying40 (by kernel_rfl) (size40C hz5) ?_)
          | (with_reducible refine wpList_load1 (by first | kernel_rfl | with_unfolding_all rfl) _ _ rfl B 6 rfl _ _ hB _ e6 ga4 ?_)
          | ((with_reducible refine wpList_alloc rfl _ rfl zC zero40 ?_); intro P6 A6 hA6 hP6 hkA6; have hz6 := hO6.size; have ho6 := hO6.one; have hle6 := hA6.out.1)
          | (go_at_call 9; (with_reducible refine (hrz hO5).mono ?_); rintro e v1 ⟨C6, rfl, ⟨hO6a, _⟩, hv1⟩; replace hB := hB.next hv1; replace hO5 := hO5.next hv1; replace hQ5 := hQ5.next hv1; replace hk := hk.trans (hv1.mono hk.size); have hO6 := hO6a.wide (D' := LtN v1) fun b hb => hb.2)
          | ((with_reducible refine wpList_store_blk rfl _ _ _ rfl P6 rfl C6 rfl zC hP6 (size40C hz6) (zC_size.trans hz6.symm) ho6 ?_); intro S6 hQ6 oS6; have kS6 := oS6.below _ _ (Nat.le_of_eq hle6) hkA6; replace hB := hB.next kS6; replace hO5 := hO5.next kS6; replace hQ5 := hQ5.next kS6; replace hk := hk.trans (kS6.mono hk.size); replace hO6 := hO6.next kS6; clear hP6 hkA6 oS6 hA6; obtain ⟨a66, n66, c66, e66, l66⟩ := hO6.data; obtain rfl : n6 = n66 := (by rw [← l66.1, hbk2.out, ws_len]))
          | (with_reducible refine wpList_loadb (by first | kernel_rfl | with_unfolding_all rfl) 40 _ rfl P6 rfl C6 hQ6 _ Try.underlying40 (by kernel_rfl) (size40C hz6) ?_)
          | (with_reducible refine wpList_load1 (by first | kernel_rfl | with_unfolding_all rfl) _ _ rfl P6 6 rfl _ _ hQ6 _ e66 ga4 ?_))
         go_loopw [122] (fun i wr => ∃ k : Nat, k ≤ n6 ∧ i = .int .i64 k ∧ wr = S6) (fun i _ => n6 - (intOf i).toNat)
         case atStart => exact ⟨0, Nat.zero_le _, rfl, rfl⟩
         case round =>
          obtain ⟨k, hkn, rfl, rfl⟩ := hrel
          by_cases hlt : k < n6
          ·have hlt' : (k : Int) < n6 := by omega
           obtain ⟨b, off, rfl, hbl, hcl⟩ := l66.2.2.2 (by omega)
           obtain ⟨b', off', rfl, hbl', hcl'⟩ := l6.2.2.2 (by omega)
           have hce := hcl k hlt
           have hce' := (hk.cell (p := ⟨b', off' + k, none⟩) hbl').trans (hcl' k hlt)
           rw [hbk2.out, ws_cut hlt] at hce
           clear hcl hcl'
           obtain ⟨gv, hgv⟩ : ∃ gv, x0.data.getD k 0 = gv := ⟨_, rfl⟩
           rw [hgv] at hce hce'
           by_cases hkm : k < m
           ·have hkm' : (k : Int) < m := by omega
            rw [if_pos hkm] at hce
            clear hgv
            go_wp2_with (first
             | go_skip
             | (with_reducible refine wpList_load1 (by first | kernel_rfl | with_unfolding_all rfl) _ _ rfl B 6 rfl _ _ hB _ e6 ga4 ?_))
            go_roundw
            case rel => exact ⟨k + 1, by omega, by go_num, by first | rfl | trivial⟩
            case measure => simp [intOf]; omega
           ·have hkm' : ¬ (k : Int) < m := by omega
            rw [if_neg hkm] at hce
            clear hgv
            go_wp2_with (first
             | go_skip
             | (with_reducible refine wpList_load1 (by first | kernel_rfl | with_unfolding_all rfl) _ _ rfl B 6 rfl _ _ hB _ e6 ga4 ?_))
            go_roundw
            case rel => exact ⟨k + 1, by omega, by go_num, by first | rfl | trivial⟩
            case measure => simp [intOf]; omega
          ·obtain rfl : k = n6 := by omega
           have hlt' : ¬ (k : Int) < k := by omega
           go_wp2_with (first | go_skip)
           go_meet
           case rel => exact ⟨hB, hk⟩
       | false =>
        clear hcb
        go_wp2_with (first | go_skip)
        go_meet
        case rel => exact ⟨hB, hk⟩
      case rest =>
       obtain ⟨hB, hk⟩ := hcut
       have hBw : w.heap.size ≤ B := by have := hB0.out; omega
       go_wp2_with (first
        | go_skip
        | (with_reducible refine wpList_loadb (by first | kernel_rfl | with_unfolding_all rfl) 40 _ rfl B rfl C0 hB _ Try.underlying40 (by kernel_rfl) (size40C hz0) ?_)
        | (with_reducible refine wpList_load1 (by first | kernel_rfl | with_unfolding_all rfl) _ _ rfl B 0 rfl _ _ hB _ hid ga1 ?_)
        | (with_reducible refine wpList_load1 (by first | kernel_rfl | with_unfolding_all rfl) _ _ rfl B 2 rfl _ _ hB _ e2 ga0 ?_)
        | (with_reducible refine wpList_load1 (by first | kernel_rfl | with_unfolding_all rfl) _ _ rfl B 3 rfl _ _ hB _ hqt ga2 ?_)
        | (go_at_call 15; (with_reducible refine (hcp _ hk).mono ?_); rintro e v7 ⟨C7, rfl, hO7a, hv7⟩; have hBl := hB.lt; have hO7 := hO7a.wide (D' := Ex B v7) (fun b hb => ⟨hb.2, by have := hb.1; omega⟩); replace hB := hB.next hv7; replace hk := hk.trans (hv7.mono hk.size))
        | ((with_reducible refine wpList_alloc rfl _ rfl zC zero40 ?_); intro P7 A7 hA7 hP7 hkA7; have hz7 := hO7.size; have ho7 := hO7.one; have hle7 := hA7.out.1)
        | ((with_reducible refine wpList_store_blk rfl _ _ _ rfl P7 rfl C7 rfl zC hP7 (size40C hz7) (zC_size.trans hz7.symm) ho7 ?_); intro S7 hQ7 oS7; have kS7 := oS7.below _ _ (Nat.le_of_eq hle7) hkA7; have hne : P7 ≠ B := (by have := hB.lt; omega); replace hB := hB.next kS7; replace hk := hk.trans (kS7.mono hk.size); have hO7n := hO7.nextE kS7)
        | ((with_reducible refine wpList_store_cell rfl _ _ _ rfl B 4 rfl (.bool false) rfl rfl _ _ hB size4 (by rw [hz0]; omega) rfl ?_); intro S8 hB8 o8; have hk8 := o8.below _ _ hBw hk; have hO8 := (l0.next hk8).set4 false; have hz8 := hO8.size; have hQ8 := hQ7.other o8 hne; have hO9 := (hO7n.laterK fun b hb => o8.block b hb.2).wide (D' := LtN S8) fun b hb => by rw [LtN, o8.size]; exact hb.1)
        | (with_reducible refine wpList_loadb (by first | kernel_rfl | with_unfolding_all rfl) 40 _ rfl P7 rfl C7 hQ8 _ Try.underlying40 (by kernel_rfl) (size40C hz7) ?_)
        | (with_reducible refine wpList_loadb (by first | kernel_rfl | with_unfolding_all rfl) 40 _ rfl B rfl _ hB8 _ Try.underlying40 (by kernel_rfl) (size40C hz8) ?_)
        | (go_at_call 17; (with_reducible refine ((rsameOne_any hO9 hO8).yes rfl).mono ?_); rintro e s9 ⟨rfl, hb9⟩; replace hk8 := hk8.trans (hb9.mono hk8.size))
        | (go_at_call 8; (with_reducible refine (awake16_any _).mono ?_); rintro e s10 ⟨rfl, hb10⟩; replace hk8 := hk8.trans (hb10.mono hk8.size)))
       all_goals go_ret
       all_goals exact ⟨rfl, hk8⟩
  ·have h1' : (x0.kind == 1) = false := by simpa using h1
   go_enter Try.func5, Try.ntmps5
   try simp only [List.append]
   go_wp2_with (first
    | go_skip
    | (with_reducible refine wpList_box rfl _ _ rfl C0 rfl ?_; intro B W0 hB0 hB hk)
    | (with_reducible refine wpList_loadb (by first | kernel_rfl | with_unfolding_all rfl) 40 _ rfl B rfl C0 hB _ Try.underlying40 (by kernel_rfl) (size40C hz0) ?_)
    | (with_reducible refine wpList_load1 (by first | kernel_rfl | with_unfolding_all rfl) _ _ rfl B 1 rfl _ _ hB _ hki ga2 ?_)
    | (go_at_call 6; (with_reducible refine ((hbr0 _ hk).yes hbr).mono ?_); rintro e w1 ⟨rfl, hb8⟩; replace hB := hB.next hb8; replace hk := hk.trans (hb8.mono hk.size))
    | (go_at_call 8; (with_reducible refine (awake16_any _).mono ?_); rintro e w8 ⟨rfl, hb8⟩; replace hB := hB.next hb8; replace hk := hk.trans (hb8.mono hk.size)))
   all_goals go_ret
   all_goals exact ⟨rfl, hk⟩
 ·go_enter Try.func5, Try.ntmps5
  try simp only [List.append]
  go_wp2_with (first
   | go_skip
   | (with_reducible refine wpList_box rfl _ _ rfl C0 rfl ?_; intro B W0 hB0 hB hk)
   | (with_reducible refine wpList_loadb (by first | kernel_rfl | with_unfolding_all rfl) 40 _ rfl B rfl C0 hB _ Try.underlying40 (by kernel_rfl) (size40C hz0) ?_)
   | (with_reducible refine wpList_load1 (by first | kernel_rfl | with_unfolding_all rfl) _ _ rfl B 1 rfl _ _ hB _ hki ga2 ?_)
   | (go_at_call 6; (with_reducible refine ((hbr0 _ hk).no hbr).mono ?_); rintro e w1 ⟨rfl, hb8⟩; replace hB := hB.next hb8; replace hk := hk.trans (hb8.mono hk.size))
   | (go_at_call 8; (with_reducible refine (awake16_any _).mono ?_); rintro e w8 ⟨rfl, hb8⟩; replace hB := hB.next hb8; replace hk := hk.trans (hb8.mono hk.size)))
  all_goals go_ret
  all_goals exact ⟨rfl, hk⟩

theorem lifted (os : Os) (started : os.Started) (H : Type) (enc : TypeId × Value → H) :
  ReturnsInHanded {} Try.checked os 5 .any (Rows.segSwapsSpec.pre6 enc Try.prog Try.f5 Rows.segSwapsRow.domain false) (Rows.segSwapsSpec.post enc Try.prog Try.f5 false true false false) := by
 refine returnsInHanded_of_change (C := Try.checked) own started (by kernel_rfl) Try.func5
  (ChangeSpec.witness6 (enc := enc) (C := Try.checked) false ⟨#[], #[.agg zC, .int .u64 0, .int .u64 0, .int .u64 0, .int .u64 0, .int .i64 0], []⟩ 8 (by kernel_rfl) (by kernel_rfl) (by kernel_rfl) (by kernel_rfl)) ?_
 intro W base args ds gs before hval0 hW hcnd _
 have hval : ∀ (j : Nat) t v, Try.f5.params[j]? = some t → args[j]? = some v → Value.okWide Try.prog W .any base t v := hval0
 have hW' := hW
 obtain ⟨p, q, hA0, hV, rfl, hfz, hnd⟩ := hW
 have hA : DataW.TrodAll enc Try.prog W 0 (fun _ => true) true Try.f5.params.toList args.toList ds p := hA0
 rw [Try.params5] at hA hval
 obtain ⟨v0, vs0, d0, ds0, p0, q0, hargs, rfl, rfl, h0, r0⟩ := trodAll_cons hA
 obtain ⟨v1, vs1, d1, ds1, p1, q1, rfl, rfl, rfl, h1, r1⟩ := trodAll_cons r0
 obtain ⟨v2, vs2, d2, ds2, p2, q2, rfl, rfl, rfl, h2, r2⟩ := trodAll_cons r1
 obtain ⟨v3, vs3, d3, ds3, p3, q3, rfl, rfl, rfl, h3, r3⟩ := trodAll_cons r2
 obtain ⟨v4, vs4, d4, ds4, p4, q4, rfl, rfl, rfl, h4, r4⟩ := trodAll_cons r3
 obtain ⟨v5, vs5, d5, ds5, p5, q5, rfl, rfl, rfl, h5, r5⟩ := trodAll_cons r4
 obtain ⟨rfl, rfl, rfl⟩ := trodAll_nil r5
 obtain rfl : args = #[v0, v1, v2, v3, v4, v5] := by cases args; simp_all
 obtain ⟨rfl, rfl⟩ := trodVars_none hV
 obtain ⟨C0, x0, rfl, l0⟩ := obj_of_trod (hval 0 40 v0 rfl rfl) h0
 have k0 := h0
 have lt0 : ∀ x ∈ p0, x.block < W.heap.size := by obtain ⟨m, hm⟩ := k0; exact DataW.trod_lt m _ _ _ hm
 obtain ⟨a1, rfl, rfl, rfl, w1⟩ := open_int Try.underlying22 (hval 1 22 v1 rfl rfl) h1
 obtain ⟨a2, rfl, rfl, rfl, w2⟩ := open_int Try.underlying22 (hval 2 22 v2 rfl rfl) h2
 obtain ⟨a3, rfl, rfl, rfl, w3⟩ := open_int Try.underlying22 (hval 3 22 v3 rfl rfl) h3
 obtain ⟨a4, rfl, rfl, rfl, w4⟩ := open_int Try.underlying22 (hval 4 22 v4 rfl rfl) h4
 obtain ⟨a5, rfl, rfl, rfl, w5⟩ := open_int Try.underlying3 (hval 5 3 v5 rfl rfl) h5
 clear hA0 hval0
 refine (walk C0 x0 a1 a2 a3 a4 a5 W l0 w1 w2 w3 w4 w5).mono fun e W' ⟨he, bel⟩ => ?_
 subst he
 exact ⟨_, rfl, _, _, _, [], _, [], hW', trodAll_mk1 (shut_bool Try.underlying4 _), (trodAll_cons_mk (Below.trod laidOut (by kernel_rfl) (of_decide_eq_true (by kernel_rfl)) k0 bel lt0) (trodAll_cons_mk (shut_int Try.underlying22 w1) (trodAll_cons_mk (shut_int Try.underlying22 w2) (trodAll_cons_mk (shut_int Try.underlying22 w3) (trodAll_cons_mk (shut_int Try.underlying22 w4) (trodAll_cons_mk (shut_int Try.underlying3 w5) trodAll_mk0)))))), rfl, bel.frame _, fun h => by cases h⟩

theorem over : Rows.segSwapsRow.holds Try.pinned (OpenSpec.ofChange Rows.segSwapsSpec) :=
 OpenClaim.holds_of_wide 5 Try.f5 rfl rfl rfl rfl rfl rfl rfl ⟨rfl, rfl, rfl, rfl, rfl⟩ rfl rfl rfl rfl rfl (by kernel_rfl) Try.func5 (by kernel_rfl)
  (of_decide_eq_true (by kernel_rfl)) (by unfold Func.isWrapper; first | (rw [if_pos (by decide +kernel)]; kernel_rfl) | (rw [if_neg (by decide +kernel)]; exact ⟨rfl, rfl⟩))
  (fun os started H enc _ => lifted os started H enc)

end segSwaps
theorem segSwaps_holds : Rows.SegSwapsSaid :=
 segSwaps.over
#print axioms segSwaps_holds
end Go.Proofs.Ytlaagheeemkklaa
