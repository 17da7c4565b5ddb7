/-
 PROVED HERE: what lies in another container, too, does not go; what lies in one alone goes, and with it all below that lies nowhere else (SweepFound), over the landed code. No condition.
-/
import Derived.Test.YtobcdaaghdljbaaRows
import Derived.WalkKit
import Derived.ProofKit
import Derived.OpenShut
import Derived.Below
import Derived.ShutString
import Derived.Deep.QuietTactic
import Derived.Deep.DeepCutAuto
import Derived.Test.YtobcdaaghdljbaaZ7
import Derived.Test.YtobcdaaghdljbaaZ8
import Derived.Test.YtobcdaaghdljbaaZ14
import Derived.Test.YtobcdaaghdljbaaZ20
namespace Go.Proofs.Ytobcdaaghdljbaa
set_option maxRecDepth 100000
set_option maxHeartbeats 8000000
namespace sweepFound
open Go.ChangeShapes Go.WideShapes Go.ChangeAt Go.RowKit
open Go.ChangeMaps (open_string shut_string)
set_option linter.unusedVariables false

theorem own : ownKnob Try.prog.godebug = none := by kernel_rfl

theorem walk (t0 : Int) (ke0 : Nat) (ro0 : Int) (ao0 : Option Addr) (n0 cap0 : Nat) (X0 : List Ob) (a1 : Int) (a2 : Int) (w : World) (l0 : Obs w ao0 n0 cap0 X0 ∧ ∀ x ∈ X0, WdO x) (w1 : (Lit.int .u64 a1).wf = true) (w2 : (Lit.int .u64 a2).wf = true) :
  Calls Try.prog 5 #[.agg #[.int .i64 t0, .int .u64 (ke0 : Int), .int .u64 ro0, .slice ao0 n0 cap0], .int .u64 a1, .int .u64 a2] w fun e w' => e = .returned (.bool true) ∧ Below w.heap.size w w' := by
 obtain ⟨l0, hw0⟩ := l0
 have hn : Hid (X0.length = n0) := l0.1
 have hX : Ws w #[.int .i64 t0, .int .u64 (ke0 : Int), .int .u64 ro0, .slice ao0 n0 cap0] t0 ke0 ro0 X0 := ⟨_, _, _, rfl, l0⟩
 have hzw := hX.size
 have few0 := fun (W : World) (hk : Below w.heap.size w W) => few15_any (t := t0) (key := ke0) (ro := ro0) (obs_next l0 hk) hw0
 obtain ⟨G, hG⟩ : ∃ G : Array Value, G = #[.int .i64 t0, .int .u64 (ke0 : Int), .int .u64 ro0, .slice ao0 n0 cap0] := ⟨_, rfl⟩
 rw [← hG] at hX hzw
 simp only [← hG] at few0
 rw [← hG]
 clear hG
 by_cases hfw : few15P t0 ke0 ro0 X0
 ·have hf := hfw.2
  have hT := tre_of hf
  have hl2 : X0.length < 1024 := by have := hfw.1.1; omega
  by_cases hin : a2 ∈ (fO X0 a1).links
  ·have hun := fun {W : World} (hk : Below w.heap.size w W) => unref_s (hX.next hk) hf hl2 hin
   have hxy : Hid (¬ ((0 : Int) = 1)) := by show ¬ _; omega
   go_enter Try.func5, Try.ntmps5
   try simp only [List.append]
   go_upto_region 6 with (first
    | go_skip
    | (with_reducible refine wpList_box rfl 25 _ rfl G rfl ?_; intro B W1 hN1 hB hk)
    | (with_reducible refine wpList_loadb (by first | kernel_rfl | with_unfolding_all rfl) 25 _ rfl B rfl G hB _ Try.underlying25 (by kernel_rfl) hzw ?_)
    | (go_at_call 7; (with_reducible refine ((few0 _ hk).yes hfw).mono ?_); rintro e w3 ⟨rfl, hb8⟩; replace hB := hB.next hb8; replace hk := hk.trans (hb8.mono hk.size); clear hb8)
    | (go_at_call 9; (with_reducible refine (hun hk).mono ?_); rintro e w5 ⟨V, v, L, rfl, hGn, hV, hown, hb8⟩; have hzV := hV.size; have hoV := hV.old; have h1V := hV.one; replace hB := hB.next hb8; replace hk := hk.trans (hb8.mono hk.size); clear hb8)
    | ((with_reducible refine wpList_alloc rfl 25 rfl zW zero43 ?_); intro P7 W6 hN6 hP7a hk6; have hle6 := hN6.out.1)
    | ((with_reducible refine wpList_store_blk rfl _ _ _ rfl P7 rfl V rfl zW hP7a hzV hoV h1V ?_); intro V7 hP7 o7; have k7 := o7.below _ _ (Nat.le_of_eq hle6) hk6; replace hV := hV.next k7; clear hP7a hk6 o7 hN6; replace hB := hB.next k7; replace hk := hk.trans (k7.mono hk.size); clear k7))
   have hY := hGn.out
   have hll : (swpX X0 (oneP a1 a2) L).length ≤ 4096 := by have := swp_len X0 (oneP a1 a2) L; omega
   have hth := found_th hf hY hin
   have hx0 := fun (x : Int) (hx : x ∈ (fO X0 a2).links) => found_x hf hY hin hx
   have hl4 : X0.length ≤ 4096 := by omega
   generalize swpX X0 (oneP a1 a2) L = Y at hV hll hth hx0
   clear hown hGn hY hun few0
   have hfa := fun {W : World} (h : Ws W V t0 ke0 ro0 Y) => rfind_s h (i := a2)
   have hho := fun {W : World} (hk : Below w.heap.size w W) => rholders_s (hX.next hk) hl4 (i := a2)
   have hfw2 := fun {W : World} (hk : Below w.heap.size w W) => rfind_s (hX.next hk) (i := a2)
   simp only [hth] at hfa
   obtain ⟨m, hm⟩ : ∃ m, Hid ((holL X0 a2).length = m) := ⟨_, rfl⟩
   simp only [hm.out] at hfa hho hx0
   obtain ⟨b2, hb2⟩ : ∃ b2, Hid ((fnd X0 a2).isSome = b2) := ⟨_, rfl⟩
   simp only [hb2.out] at hfw2
   clear hth
   obtain ⟨th, hth⟩ : ∃ th, Hid (decide (1 < m) = th) := ⟨_, rfl⟩
   simp only [hth.out] at hfa hx0
   have hne : (!(th == decide ((1 : Int) < (m : Int)))) = false := by
    have h1 := hth.out
    by_cases q : 1 < m
    ·rw [← h1, decide_eq_true q, decide_eq_true (by omega : (1 : Int) < m)]; rfl
    ·rw [← h1, decide_eq_false q, decide_eq_false (by omega : ¬ (1 : Int) < m)]; rfl
   go_upto_region 9 with (first
    | go_skip
    | (with_reducible refine wpList_loadb (by first | kernel_rfl | with_unfolding_all rfl) 25 _ rfl P7 rfl V hP7 _ Try.underlying25 (by kernel_rfl) hzV ?_)
    | (go_at_call 16; (with_reducible refine (hfa hV).mono ?_); rintro e w7 ⟨C10, rfl, hC10, hb8⟩; have hz10 := hC10.size; have h110 := hC10.one; replace hB := hB.next hb8; replace hV := hV.next hb8; replace hP7 := hP7.next hb8; replace hk := hk.trans (hb8.mono hk.size); clear hb8)
    | ((with_reducible refine wpList_alloc rfl 54 rfl zC zero40 ?_); intro P10 W8 hN8 hP10a hk8; have hle8 := hN8.out.1)
    | ((with_reducible refine wpList_store_blk rfl _ _ _ rfl P10 rfl C10 rfl zC hP10a (size40C hz10) (zC_size.trans hz10.symm) h110 ?_); intro V8 hP10 o8; have k8 := o8.below _ _ (Nat.le_of_eq hle8) hk8; clear hP10a hk8 o8 hN8 hC10; replace hB := hB.next k8; replace hV := hV.next k8; replace hP7 := hP7.next k8; replace hk := hk.trans (k8.mono hk.size); clear k8)
    | (with_reducible refine wpList_loadb (by first | kernel_rfl | with_unfolding_all rfl) 25 _ rfl B rfl G hB _ Try.underlying25 (by kernel_rfl) hzw ?_)
    | (go_at_call 17; (with_reducible refine (hho hk).mono ?_); rintro e w9 ⟨ah, ch, rfl, hb8⟩; replace hB := hB.next hb8; replace hV := hV.next hb8; replace hP7 := hP7.next hb8; replace hk := hk.trans (hb8.mono hk.size); clear hb8))
   go_wp2_with (first
    | go_skip
    | (with_reducible refine wpList_loadb (by first | kernel_rfl | with_unfolding_all rfl) 25 _ rfl B rfl G hB _ Try.underlying25 (by kernel_rfl) hzw ?_)
    | (go_at_call 16; (with_reducible refine (hfw2 hk).mono ?_); rintro e w10 ⟨C12, rfl, hC12, hb8⟩; have hz12 := hC12.size; have h112 := hC12.one; obtain ⟨a5, n5, q5, c5, l5⟩ := hC12.links; clear hC12; replace hB := hB.next hb8; replace hV := hV.next hb8; replace hP7 := hP7.next hb8; replace hk := hk.trans (hb8.mono hk.size); clear hb8)
    | ((with_reducible refine wpList_alloc rfl 54 rfl zC zero40 ?_); have hx := l5; intro P12 W11 hN11 hP12a hk11; clear hx; have hle11 := hN11.out.1)
    | ((with_reducible refine wpList_store_blk rfl _ _ _ rfl P12 rfl C12 rfl zC hP12a (size40C hz12) (zC_size.trans hz12.symm) h112 ?_); intro V11 hP12 o11; have k11 := o11.below _ _ (Nat.le_of_eq hle11) hk11; replace l5 := ct_up l5 k11; clear hP12a hk11 o11 hN11; replace hB := hB.next k11; replace hV := hV.next k11; replace hP7 := hP7.next k11; replace hk := hk.trans (k11.mono hk.size); clear k11)
    | (with_reducible refine wpList_load1 (by first | kernel_rfl | with_unfolding_all rfl) _ _ rfl P12 5 rfl _ _ hP12 _ c5 Try.isAgg28 ?_))
   clear hfa hho hfw2 hne
   have hl5 : Hid ((fO X0 a2).links.length = n5) := l5.1
   have hkw := hk
   have hnc5 := l5.2.1
   have hcm5 := l5.2.2.1.1
   go_loopw [55] (fun i wr => ∃ k : Nat, k ≤ n5 ∧ i = .int .i64 k ∧ Below V11.heap.size V11 wr) (fun i _ => n5 - (intOf i).toNat)
   case atStart => exact ⟨0, Nat.zero_le _, rfl, Below.refl _ _⟩
   case round =>
    clear hk
    obtain ⟨k, hk5, rfl, hk⟩ := hrel
    by_cases hkn : k < n5
    ·have hkn' : (k : Int) < n5 := by omega
     obtain ⟨b5, o5, rfl, hb5, hcl⟩ := (ct_up l5 hk).2.2.2 (by omega)
     have hck := hcl k hkn
     have hxm : (fO X0 a2).links.getD k 0 ∈ (fO X0 a2).links := by
      rw [List.getD_eq_getElem?_getD, List.getElem?_eq_getElem (by rw [hl5.out]; exact hkn)]
      exact List.getElem_mem _
     generalize (fO X0 a2).links.getD k 0 = x at hck hxm
     have hx1 := hx0 x hxm
     have hia := fun (W : World) => (iaw_at (S := fun _ => True) (b := b5) (off := o5) (i := k) (n := n5) (cap := q5) hkn) W trivial
     have hfx := fun {W : World} (h : Ws W V t0 ke0 ro0 Y) => rfind_s h (i := x)
     have hhx := fun {W : World} (h : Ws W V t0 ke0 ro0 Y) => rholders_s h hll (i := x)
     simp only [hx1] at hfx
     obtain ⟨mx, hmx⟩ : ∃ mx, Hid ((holL Y x).length = mx) := ⟨_, rfl⟩
     simp only [hmx.out] at hfx hhx
     have hd0 : decide (0 < mx) = decide ((0 : Int) < (mx : Int)) := by
      by_cases q : 0 < mx
      ·rw [decide_eq_true q, decide_eq_true (by omega)]
      ·rw [decide_eq_false q, decide_eq_false (by omega)]
     rw [hd0] at hfx
     have hne2 : (!(decide ((0 : Int) < (mx : Int)) == decide ((0 : Int) < (mx : Int)))) = false := by cases decide ((0 : Int) < (mx : Int)) <;> rfl
     replace hV := hV.next hk
     replace hP7 := hP7.next hk
     clear hcl hx0 hx1 hd0 hxm l5
     cases th with
     | true =>
      simp only [Bool.true_or] at hfx
      go_wp2_with (first
       | go_skip
       | (with_reducible refine wpList_iaX (by first | kernel_rfl | with_unfolding_all rfl) _ _ _ rfl _ _ rfl rfl _ (hia _) ?_)
       | (with_reducible refine wpList_loadc (by first | kernel_rfl | with_unfolding_all rfl) _ _ rfl b5 (o5 + k) rfl _ hck Try.isAgg22 ?_)
       | (with_reducible refine wpList_loadb (by with_unfolding_all rfl) 25 _ rfl P7 rfl V hP7 _ Try.underlying25 (by kernel_rfl) hzV ?_)
       | (go_at_call 16; (with_reducible refine (hfx hV).mono ?_); rintro e w13 ⟨C16, rfl, hC16, hb8⟩; have hz16 := hC16.size; have h116 := hC16.one; replace hV := hV.next hb8; replace hP7 := hP7.next hb8; replace hk := hk.trans (hb8.mono hk.size); clear hb8)
       | ((with_reducible refine wpList_alloc rfl 54 rfl zC zero40 ?_); intro P16 W14 hN14 hP16a hk14; have hle14 := hN14.out.1)
       | ((with_reducible refine wpList_store_blk rfl _ _ _ rfl P16 rfl C16 rfl zC hP16a (size40C hz16) (zC_size.trans hz16.symm) h116 ?_); intro V14 hP16 o14; have k14 := o14.below _ _ (Nat.le_of_eq hle14) hk14; clear hP16a hk14 o14 hN14 hC16; replace hV := hV.next k14; replace hP7 := hP7.next k14; replace hk := hk.trans (k14.mono hk.size); clear k14))
      go_roundw
      case rel => exact ⟨k + 1, by omega, by go_num, hk⟩
      case measure => simp [intOf]; omega

     | false =>
      simp only [Bool.false_or] at hfx
      go_wp2_with (first
       | go_skip
       | (with_reducible refine wpList_iaX (by first | kernel_rfl | with_unfolding_all rfl) _ _ _ rfl _ _ rfl rfl _ (hia _) ?_)
       | (with_reducible refine wpList_loadc (by first | kernel_rfl | with_unfolding_all rfl) _ _ rfl b5 (o5 + k) rfl _ hck Try.isAgg22 ?_)
       | (with_reducible refine wpList_loadb (by with_unfolding_all rfl) 25 _ rfl P7 rfl V hP7 _ Try.underlying25 (by kernel_rfl) hzV ?_)
       | (go_at_call 16; (with_reducible refine (hfx hV).mono ?_); rintro e w13 ⟨C16, rfl, hC16, hb8⟩; have hz16 := hC16.size; have h116 := hC16.one; replace hV := hV.next hb8; replace hP7 := hP7.next hb8; replace hk := hk.trans (hb8.mono hk.size); clear hb8)
       | ((with_reducible refine wpList_alloc rfl 54 rfl zC zero40 ?_); intro P16 W14 hN14 hP16a hk14; have hle14 := hN14.out.1)
       | ((with_reducible refine wpList_store_blk rfl _ _ _ rfl P16 rfl C16 rfl zC hP16a (size40C hz16) (zC_size.trans hz16.symm) h116 ?_); intro V14 hP16 o14; have k14 := o14.below _ _ (Nat.le_of_eq hle14) hk14; clear hP16a hk14 o14 hN14 hC16; replace hV := hV.next k14; replace hP7 := hP7.next k14; replace hk := hk.trans (k14.mono hk.size); clear k14)
       | (go_at_call 17; (with_reducible refine (hhx hV).mono ?_); rintro e w15 ⟨ah, ch, rfl, hb8⟩; replace hV := hV.next hb8; replace hP7 := hP7.next hb8; replace hk := hk.trans (hb8.mono hk.size); clear hb8))
      go_roundw
      case rel => exact ⟨k + 1, by omega, by go_num, hk⟩
      case measure => simp [intOf]; omega

    ·obtain rfl : k = n5 := by omega
     replace hk := hkw.trans (hk.mono hkw.size)
     go_wp2_with (first
      | go_skip
      | (go_at_call 8; (with_reducible refine (awake15_any _).mono ?_); rintro e w4 ⟨rfl, hb8⟩; replace hk := hk.trans (hb8.mono hk.size)))
     all_goals go_ret
     all_goals exact ⟨rfl, hk⟩

  ·have hun := fun {W : World} (hk : Below w.heap.size w W) => unref_n (hX.next hk) hf hl2 hin
   go_enter Try.func5, Try.ntmps5
   try simp only [List.append]
   go_wp2_with (first
    | go_skip
    | (with_reducible refine wpList_box rfl 25 _ rfl G rfl ?_; intro B W1 hN1 hB hk)
    | (with_reducible refine wpList_loadb (by first | kernel_rfl | with_unfolding_all rfl) 25 _ rfl B rfl G hB _ Try.underlying25 (by kernel_rfl) hzw ?_)
    | (go_at_call 7; (with_reducible refine ((few0 _ hk).yes hfw).mono ?_); rintro e w3 ⟨rfl, hb8⟩; replace hB := hB.next hb8; replace hk := hk.trans (hb8.mono hk.size); clear hb8)
    | (go_at_call 9; (with_reducible refine (hun hk).mono ?_); rintro e w5 ⟨V, rfl, hV, hb8⟩; have hzV := hV.size; have hoV := hV.old; have h1V := hV.one; replace hB := hB.next hb8; replace hk := hk.trans (hb8.mono hk.size); clear hb8)
    | ((with_reducible refine wpList_alloc rfl 25 rfl zW zero43 ?_); intro P7 W6 hN6 hP7a hk6; have hle6 := hN6.out.1)
    | ((with_reducible refine wpList_store_blk rfl _ _ _ rfl P7 rfl V rfl zW hP7a hzV hoV h1V ?_); intro V7 hP7 o7; have k7 := o7.below _ _ (Nat.le_of_eq hle6) hk6; replace hV := hV.next k7; clear hP7a hk6 o7 hN6; replace hB := hB.next k7; replace hk := hk.trans (k7.mono hk.size); clear k7)
    | (go_at_call 8; (with_reducible refine (awake15_any _).mono ?_); rintro e w4 ⟨rfl, hb8⟩; replace hk := hk.trans (hb8.mono hk.size)))
   all_goals go_ret
   all_goals exact ⟨rfl, hk⟩
 ·go_enter Try.func5, Try.ntmps5
  try simp only [List.append]
  go_wp2_with (first
   | go_skip
   | (with_reducible refine wpList_box rfl 25 _ rfl G rfl ?_; intro B W1 hN1 hB hk)
   | (with_reducible refine wpList_loadb (by first | kernel_rfl | with_unfolding_all rfl) 25 _ rfl B rfl G hB _ Try.underlying25 (by kernel_rfl) hzw ?_)
   | (go_at_call 7; (with_reducible refine ((few0 _ hk).no hfw).mono ?_); rintro e w3 ⟨rfl, hb8⟩; replace hB := hB.next hb8; replace hk := hk.trans (hb8.mono hk.size); clear hb8)
   | (go_at_call 8; (with_reducible refine (awake15_any _).mono ?_); rintro e w4 ⟨rfl, hb8⟩; replace hk := hk.trans (hb8.mono hk.size)))
  all_goals go_ret
  all_goals exact ⟨rfl, hk⟩

theorem lifted (os : Os) (started : os.Started) (H : Type) (enc : TypeId × Value → H) :
  ReturnsInHanded {} Try.checked os 5 .any (Rows.sweepFoundSpec.pre6 enc Try.prog Try.f5 Rows.sweepFoundRow.domain false) (Rows.sweepFoundSpec.post enc Try.prog Try.f5 false true false false) := by
 refine returnsInHanded_of_change (C := Try.checked) own started (by kernel_rfl) Try.func5
  (ChangeSpec.witness6 (enc := enc) (C := Try.checked) false ⟨#[], #[.agg #[.int .i64 0, .int .u64 0, .int .u64 0, .slice none 0 0], .int .u64 0, .int .u64 0], []⟩ 8 (by kernel_rfl) (by kernel_rfl) (by kernel_rfl) (by kernel_rfl)) ?_
 intro W base args ds gs before hval0 hW hcnd _
 have hval : ∀ (j : Nat) t v, Try.f5.params[j]? = some t → args[j]? = some v → Value.okWide Try.prog W .any base t v := hval0
 have hW' := hW
 obtain ⟨p, q, hA0, hV, rfl, hfz, hnd⟩ := hW
 have hA : DataW.TrodAll enc Try.prog W 0 (fun _ => true) true Try.f5.params.toList args.toList ds p := hA0
 rw [Try.params5] at hA hval
 obtain ⟨v0, vs0, d0, ds0, p0, q0, hargs, rfl, rfl, h0, r0⟩ := trodAll_cons hA
 obtain ⟨v1, vs1, d1, ds1, p1, q1, rfl, rfl, rfl, h1, r1⟩ := trodAll_cons r0
 obtain ⟨v2, vs2, d2, ds2, p2, q2, rfl, rfl, rfl, h2, r2⟩ := trodAll_cons r1
 obtain ⟨rfl, rfl, rfl⟩ := trodAll_nil r2
 obtain rfl : args = #[v0, v1, v2] := by cases args; simp_all
 obtain ⟨rfl, rfl⟩ := trodVars_none hV
 obtain ⟨t0, ke0, ro0, ao0, n0, cap0, X0, rfl, l0⟩ := worldW_of_trod (hval 0 25 v0 rfl rfl) h0
 have k0 := h0
 have lt0 : ∀ x ∈ p0, x.block < W.heap.size := by obtain ⟨m, hm⟩ := k0; exact DataW.trod_lt m _ _ _ hm
 obtain ⟨a1, rfl, rfl, rfl, w1⟩ := open_int Try.underlying22 (hval 1 22 v1 rfl rfl) h1
 obtain ⟨a2, rfl, rfl, rfl, w2⟩ := open_int Try.underlying22 (hval 2 22 v2 rfl rfl) h2
 clear hA0 hval0
 refine (walk t0 ke0 ro0 ao0 n0 cap0 X0 a1 a2 W l0 w1 w2).mono fun e W' ⟨he, bel⟩ => ?_
 subst he
 exact ⟨_, rfl, _, _, _, [], _, [], hW', trodAll_mk1 (shut_bool Try.underlying4 _), (trodAll_cons_mk (Below.trod laidOut (by kernel_rfl) (of_decide_eq_true (by kernel_rfl)) k0 bel lt0) (trodAll_cons_mk (shut_int Try.underlying22 w1) (trodAll_cons_mk (shut_int Try.underlying22 w2) trodAll_mk0))), rfl, bel.frame _, fun h => by cases h⟩

theorem over : Rows.sweepFoundRow.holds Try.pinned (OpenSpec.ofChange Rows.sweepFoundSpec) :=
 OpenClaim.holds_of_wide 5 Try.f5 rfl rfl rfl rfl rfl rfl rfl ⟨rfl, rfl, rfl, rfl, rfl⟩ rfl rfl rfl rfl rfl (by kernel_rfl) Try.func5 (by kernel_rfl)
  (of_decide_eq_true (by kernel_rfl)) (by unfold Func.isWrapper; first | (rw [if_pos (by decide +kernel)]; kernel_rfl) | (rw [if_neg (by decide +kernel)]; exact ⟨rfl, rfl⟩))
  (fun os started H enc _ => lifted os started H enc)

end sweepFound
theorem sweepFound_holds : Rows.SweepFoundSaid :=
 sweepFound.over
#print axioms sweepFound_holds
end Go.Proofs.Ytobcdaaghdljbaa
