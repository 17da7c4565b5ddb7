/-
 PROVED HERE: two links that go, go in either order: the same world is left; what goes by both is what goes by the one, and then by the other (SweepSwaps), over the landed code. No condition.
-/
import Derived.Test.YtobcdaaghdljbaaRows
import Derived.WalkKit
import Derived.ProofKit
import Derived.OpenShut
import Derived.Below
import Derived.ShutString
import Derived.Deep.QuietTactic
import Derived.Deep.DeepCutAuto
import Derived.Test.YtobcdaaghdljbaaY9
import Derived.Test.YtobcdaaghdljbaaY10
import Derived.Test.YtobcdaaghdljbaaY18
import Derived.Test.YtobcdaaghdljbaaY28
namespace Go.Proofs.Ytobcdaaghdljbaa
set_option maxRecDepth 100000
set_option maxHeartbeats 8000000
namespace sweepSwaps
open Go.ChangeShapes Go.WideShapes Go.ChangeAt Go.RowKit
open Go.ChangeMaps (open_string shut_string)
set_option linter.unusedVariables false

theorem own : ownKnob Try.prog.godebug = none := by kernel_rfl

theorem walk (t0 : Int) (ke0 : Nat) (ro0 : Int) (ao0 : Option Addr) (n0 cap0 : Nat) (X0 : List Ob) (a1 : Int) (a2 : Int) (a3 : Int) (a4 : Int) (w : World) (l0 : Obs w ao0 n0 cap0 X0 ∧ ∀ x ∈ X0, WdO x) (w1 : (Lit.int .u64 a1).wf = true) (w2 : (Lit.int .u64 a2).wf = true) (w3 : (Lit.int .u64 a3).wf = true) (w4 : (Lit.int .u64 a4).wf = true) :
  Calls Try.prog 6 #[.agg #[.int .i64 t0, .int .u64 (ke0 : Int), .int .u64 ro0, .slice ao0 n0 cap0], .int .u64 a1, .int .u64 a2, .int .u64 a3, .int .u64 a4] w fun e w' => e = .returned (.bool true) ∧ Below w.heap.size w w' := by
 obtain ⟨l0, hw0⟩ := l0
 have hn : Hid (X0.length = n0) := l0.1
 have hX : Ws w #[.int .i64 t0, .int .u64 (ke0 : Int), .int .u64 ro0, .slice ao0 n0 cap0] t0 ke0 ro0 X0 := ⟨_, _, _, rfl, l0⟩
 have hzw := hX.size
 have few0 := fun (W : World) (hk : Below w.heap.size w W) => few15_any (t := t0) (key := ke0) (ro := ro0) (obs_next l0 hk) hw0
 obtain ⟨G, hG⟩ : ∃ G : Array Value, G = #[.int .i64 t0, .int .u64 (ke0 : Int), .int .u64 ro0, .slice ao0 n0 cap0] := ⟨_, rfl⟩
 rw [← hG] at hX hzw
 simp only [← hG] at few0
 rw [← hG]
 clear hG
 by_cases hfw : few15P t0 ke0 ro0 X0
 ·have hf := hfw.2
  have hl2 : X0.length < 1024 := by have := hfw.1.1; omega
  obtain ⟨er1, he1⟩ : ∃ er1 : Int, Hid (er1 = if a2 ∈ (fO X0 a1).links then 0 else 1) := ⟨_, rfl⟩
  obtain ⟨er2, he2⟩ : ∃ er2 : Int, Hid (er2 = if a4 ∈ (fO X0 a3).links then 0 else 1) := ⟨_, rfl⟩
  have hu1 := fun {W : World} (hk : Below w.heap.size w W) => unref_b (hX.next hk) hf hl2 he1.out
  have hu2 := fun {W : World} (hk : Below w.heap.size w W) => unref_b (hX.next hk) hf hl2 he2.out
  go_enter Try.func6, Try.ntmps6
  try simp only [List.append]
  go_upto_region 5 with (first
   | go_skip
   | (with_reducible refine wpList_box rfl 25 _ rfl G rfl ?_; intro B W1 hN1 hB hk)
   | (with_reducible refine wpList_loadb (by with_unfolding_all rfl) 25 _ rfl B rfl G hB _ Try.underlying25 (by kernel_rfl) hzw ?_)
   | (go_at_call 7; (with_reducible refine ((few0 _ hk).yes hfw).mono ?_); rintro e w3 ⟨rfl, hb8⟩; replace hB := hB.next hb8; replace hk := hk.trans (hb8.mono hk.size); clear hb8)
   | (go_at_call 9; have hx := hP1; clear hx; (with_reducible refine (hu2 hk).mono ?_); rintro e u2 ⟨V2, al2, L2, cl2, Y2, rfl, g2, f2, hV2, hb8⟩; have hzV2 := hV2.size; have hoV2 := hV2.old; have h1V2 := hV2.one; replace hB := hB.next hb8; replace hV1 := hV1.next hb8; replace hP1 := hP1.next hb8; replace hk := hk.trans (hb8.mono hk.size); clear hb8)
   | (go_at_call 9; (with_reducible refine (hu1 hk).mono ?_); rintro e u1 ⟨V1, al1, L1, cl1, Y1, rfl, g1, f1, hV1, hb8⟩; have hzV1 := hV1.size; have hoV1 := hV1.old; have h1V1 := hV1.one; replace hB := hB.next hb8; replace hk := hk.trans (hb8.mono hk.size); clear hb8)
   | ((with_reducible refine wpList_alloc rfl 25 rfl zW zero43 ?_); have hx := hV2; clear hx; intro P2 A2 hN2 hPa2 hka2; have hle2 := hN2.out.1)
   | ((with_reducible refine wpList_alloc rfl 25 rfl zW zero43 ?_); have hx := hV1; clear hx; intro P1 A1 hN1 hPa1 hka1; have hle1 := hN1.out.1)
   | ((with_reducible refine wpList_store_blk rfl _ _ _ rfl P2 rfl V2 rfl zW hPa2 hzV2 hoV2 h1V2 ?_); intro S2 hP2 oS2; have kS2 := oS2.below _ _ (Nat.le_of_eq hle2) hka2; replace hV2 := hV2.next kS2; clear hPa2 hka2 oS2 hN2; replace hB := hB.next kS2; replace hV1 := hV1.next kS2; replace hP1 := hP1.next kS2; replace hk := hk.trans (kS2.mono hk.size); clear kS2)
   | ((with_reducible refine wpList_store_blk rfl _ _ _ rfl P1 rfl V1 rfl zW hPa1 hzV1 hoV1 h1V1 ?_); intro S1 hP1 oS1; have kS1 := oS1.below _ _ (Nat.le_of_eq hle1) hka1; replace hV1 := hV1.next kS1; clear hPa1 hka1 oS1 hN1; replace hB := hB.next kS1; replace hk := hk.trans (kS1.mono hk.size); clear kS1))
  clear hu1 hu2 few0
  by_cases hA : a2 ∈ (fO X0 a1).links
  ·obtain rfl : er1 = 0 := by have := he1.out; rw [if_pos hA] at this; exact this
   by_cases hB2 : a4 ∈ (fO X0 a3).links
   ·obtain rfl : er2 = 0 := by have := he2.out; rw [if_pos hB2] at this; exact this
    by_cases hE1 : a1 = a3
    ·replace hE1 : Hid (a1 = a3) := hE1
     by_cases hE2 : a2 = a4
     ·replace hE2 : Hid (a2 = a4) := hE2
      go_wp2_with (first
       | go_skip
       | (with_reducible refine wpList_test (by with_unfolding_all rfl) .eql 22 _ _ _ rfl (.int .u64 a1) (.int .u64 a3) rfl rfl (eqg_int _ _ _ _ _ _) (fun _ => ?_) (fun q => absurd hE1.out q.out))
       | (with_reducible refine wpList_test (by with_unfolding_all rfl) .eql 22 _ _ _ rfl (.int .u64 a2) (.int .u64 a4) rfl rfl (eqg_int _ _ _ _ _ _) (fun _ => ?_) (fun q => absurd hE2.out q.out))
       | (go_at_call 8; (with_reducible refine (awake15_any _).mono ?_); rintro e w4 ⟨rfl, hb8⟩; replace hk := hk.trans (hb8.mono hk.size)))
      all_goals go_ret
      all_goals exact ⟨rfl, hk⟩
     ·replace hE2 : Hid (¬ a2 = a4) := hE2
      obtain ⟨hG1, hY1⟩ := g1.out hA
      obtain ⟨hG2, hY2⟩ := g2.out hB2
      obtain ⟨er3, he3⟩ : ∃ er3 : Int, Hid (er3 = if a4 ∈ (fO Y1 a3).links then 0 else 1) := ⟨_, rfl⟩
      obtain ⟨er4, he4⟩ : ∃ er4 : Int, Hid (er4 = if a2 ∈ (fO Y2 a1).links then 0 else 1) := ⟨_, rfl⟩
      have hu3 := fun {W : World} (h : Ws W V1 t0 ke0 ro0 Y1) => unref_b h f1.out.1 f1.out.2.1 he3.out
      have hu4 := fun {W : World} (h : Ws W V2 t0 ke0 ro0 Y2) => unref_b h f2.out.1 f2.out.2.1 he4.out
      have hLG1 : Hid (Gone X0 ro0 (oneP a1 a2) L1) := hG1
      have hLG2 : Hid (Gone X0 ro0 (oneP a3 a4) L2) := hG2
      have hYY1 : Hid (Y1 = swpX X0 (oneP a1 a2) L1) := hY1
      have hYY2 : Hid (Y2 = swpX X0 (oneP a3 a4) L2) := hY2
      clear hG1 hG2 hY1 hY2 g1 g2
      go_upto_region 9 with (first
       | go_skip
       | (with_reducible refine wpList_test (by with_unfolding_all rfl) .eql 22 _ _ _ rfl (.int .u64 a1) (.int .u64 a3) rfl rfl (eqg_int _ _ _ _ _ _) (fun _ => ?_) (fun q => absurd hE1.out q.out))
       | (with_reducible refine wpList_test (by with_unfolding_all rfl) .eql 22 _ _ _ rfl (.int .u64 a2) (.int .u64 a4) rfl rfl (eqg_int _ _ _ _ _ _) (fun q => absurd q.out hE2.out) (fun _ => ?_))
       | (with_reducible refine wpList_loadb (by with_unfolding_all rfl) 25 _ rfl P1 rfl V1 hP1 _ Try.underlying25 (by kernel_rfl) hzV1 ?_)
       | (with_reducible refine wpList_loadb (by with_unfolding_all rfl) 25 _ rfl P2 rfl V2 hP2 _ Try.underlying25 (by kernel_rfl) hzV2 ?_)
       | (go_at_call 9; have hx := hP3; clear hx; (with_reducible refine (hu4 hV2).mono ?_); rintro e u4 ⟨V4, al4, L4, cl4, Y4, rfl, g4, f4, hV4, hb8⟩; have hzV4 := hV4.size; have hoV4 := hV4.old; have h1V4 := hV4.one; replace hV2 := hV2.next hb8; replace hV3 := hV3.next hb8; replace hP3 := hP3.next hb8; replace hk := hk.trans (hb8.mono hk.size); clear hb8)
       | (go_at_call 9; (with_reducible refine (hu3 hV1).mono ?_); rintro e u3 ⟨V3, al3, L3, cl3, Y3, rfl, g3, f3, hV3, hb8⟩; have hzV3 := hV3.size; have hoV3 := hV3.old; have h1V3 := hV3.one; replace hV1 := hV1.next hb8; replace hV2 := hV2.next hb8; replace hP2 := hP2.next hb8; replace hk := hk.trans (hb8.mono hk.size); clear hb8)
       | ((with_reducible refine wpList_alloc rfl 25 rfl zW zero43 ?_); have hx := hV4; clear hx; intro P4 A4 hN4 hPa4 hka4; have hle4 := hN4.out.1)
       | ((with_reducible refine wpList_alloc rfl 25 rfl zW zero43 ?_); have hx := hV3; clear hx; intro P3 A3 hN3 hPa3 hka3; have hle3 := hN3.out.1)
       | ((with_reducible refine wpList_store_blk rfl _ _ _ rfl P4 rfl V4 rfl zW hPa4 hzV4 hoV4 h1V4 ?_); intro S4 hP4 oS4; have kS4 := oS4.below _ _ (Nat.le_of_eq hle4) hka4; replace hV4 := hV4.next kS4; clear hPa4 hka4 oS4 hN4; replace hV2 := hV2.next kS4; replace hV3 := hV3.next kS4; replace hP3 := hP3.next kS4; replace hk := hk.trans (kS4.mono hk.size); clear kS4)
       | ((with_reducible refine wpList_store_blk rfl _ _ _ rfl P3 rfl V3 rfl zW hPa3 hzV3 hoV3 h1V3 ?_); intro S3 hP3 oS3; have kS3 := oS3.below _ _ (Nat.le_of_eq hle3) hka3; replace hV3 := hV3.next kS3; clear hPa3 hka3 oS3 hN3; replace hV1 := hV1.next kS3; replace hV2 := hV2.next kS3; replace hP2 := hP2.next kS3; replace hk := hk.trans (kS3.mono hk.size); clear kS3))
      clear hu3 hu4
      by_cases hC : a4 ∈ (fO Y1 a3).links
      ·obtain rfl : er3 = 0 := by have := he3.out; rw [if_pos hC] at this; exact this
       by_cases hD : a2 ∈ (fO Y2 a1).links
       ·obtain rfl : er4 = 0 := by have := he4.out; rw [if_pos hD] at this; exact this
        obtain ⟨hG3, hY3⟩ := g3.out hC
        obtain ⟨hG4, hY4⟩ := g4.out hD
        have hfl : Hid (L1.length ≤ 1024 ∧ L2.length ≤ 1024 ∧ L3.length ≤ 1024 ∧ L4.length ≤ 1024) := by
         have h1 := f1.out.2
         have h2 := f2.out.2
         have h3 := f3.out.2.2
         have h4 := f4.out.2.2
         exact ⟨by omega, by omega, by omega, by omega⟩
        have hy1 := hYY1.out
        have hy2 := hYY2.out
        subst hy1 hy2
        obtain ⟨hsw, hln⟩ := swp_swap hf hLG1.out hG3 hLG2.out hG4
        rw [← hY3, ← hY4] at hsw
        subst hsw
        have hln' : Hid ((L1.length : Int) + (L3.length : Int) = (L2.length : Int) + (L4.length : Int)) := by show _ = _; omega
        obtain ⟨q1, q2, q3, q4⟩ := hfl.out
        clear hY3 hY4 hG3 hG4 hln f1 f2 f3 f4 g3 g4 hLG1 hLG2 hYY1 hYY2 hC hD he3 he4
        go_wp2_with (first
         | go_skip
         | (with_reducible refine wpList_loadb (by with_unfolding_all rfl) 25 _ rfl P3 rfl V3 hP3 _ Try.underlying25 (by kernel_rfl) hzV3 ?_)
         | (with_reducible refine wpList_loadb (by with_unfolding_all rfl) 25 _ rfl P4 rfl V4 hP4 _ Try.underlying25 (by kernel_rfl) hzV4 ?_)
         | (go_at_call 11; (with_reducible refine (rsame_s hV3 hV4).mono ?_); rintro e w9 ⟨rfl, hb8⟩; replace hk := hk.trans (hb8.mono hk.size); clear hb8)
         | (with_reducible refine wpList_test (by with_unfolding_all rfl) .eql 3 _ _ _ rfl (.int .i64 _) (.int .i64 _) rfl rfl (eqg_int _ _ _ _ _ _) (fun _ => ?_) (fun q => absurd (by have := hln'.out; go_num) q.out))
         | (go_at_call 8; (with_reducible refine (awake15_any _).mono ?_); rintro e w4 ⟨rfl, hb8⟩; replace hk := hk.trans (hb8.mono hk.size)))
        all_goals go_ret
        all_goals exact ⟨rfl, hk⟩
       ·obtain rfl : er4 = 1 := by have := he4.out; rw [if_neg hD] at this; exact this
        go_wp2_with (first
         | go_skip
         | (go_at_call 8; (with_reducible refine (awake15_any _).mono ?_); rintro e w4 ⟨rfl, hb8⟩; replace hk := hk.trans (hb8.mono hk.size)))
        all_goals go_ret
        all_goals exact ⟨rfl, hk⟩
      ·obtain rfl : er3 = 1 := by have := he3.out; rw [if_neg hC] at this; exact this
       by_cases hD : a2 ∈ (fO Y2 a1).links
       ·obtain rfl : er4 = 0 := by have := he4.out; rw [if_pos hD] at this; exact this
        go_wp2_with (first
         | go_skip
         | (go_at_call 8; (with_reducible refine (awake15_any _).mono ?_); rintro e w4 ⟨rfl, hb8⟩; replace hk := hk.trans (hb8.mono hk.size)))
        all_goals go_ret
        all_goals exact ⟨rfl, hk⟩
       ·obtain rfl : er4 = 1 := by have := he4.out; rw [if_neg hD] at this; exact this
        go_wp2_with (first
         | go_skip
         | (go_at_call 8; (with_reducible refine (awake15_any _).mono ?_); rintro e w4 ⟨rfl, hb8⟩; replace hk := hk.trans (hb8.mono hk.size)))
        all_goals go_ret
        all_goals exact ⟨rfl, hk⟩

    ·replace hE1 : Hid (¬ a1 = a3) := hE1
     obtain ⟨hG1, hY1⟩ := g1.out hA
     obtain ⟨hG2, hY2⟩ := g2.out hB2
     obtain ⟨er3, he3⟩ : ∃ er3 : Int, Hid (er3 = if a4 ∈ (fO Y1 a3).links then 0 else 1) := ⟨_, rfl⟩
     obtain ⟨er4, he4⟩ : ∃ er4 : Int, Hid (er4 = if a2 ∈ (fO Y2 a1).links then 0 else 1) := ⟨_, rfl⟩
     have hu3 := fun {W : World} (h : Ws W V1 t0 ke0 ro0 Y1) => unref_b h f1.out.1 f1.out.2.1 he3.out
     have hu4 := fun {W : World} (h : Ws W V2 t0 ke0 ro0 Y2) => unref_b h f2.out.1 f2.out.2.1 he4.out
     have hLG1 : Hid (Gone X0 ro0 (oneP a1 a2) L1) := hG1
     have hLG2 : Hid (Gone X0 ro0 (oneP a3 a4) L2) := hG2
     have hYY1 : Hid (Y1 = swpX X0 (oneP a1 a2) L1) := hY1
     have hYY2 : Hid (Y2 = swpX X0 (oneP a3 a4) L2) := hY2
     clear hG1 hG2 hY1 hY2 g1 g2
     go_upto_region 9 with (first
      | go_skip
      | (with_reducible refine wpList_test (by with_unfolding_all rfl) .eql 22 _ _ _ rfl (.int .u64 a1) (.int .u64 a3) rfl rfl (eqg_int _ _ _ _ _ _) (fun q => absurd q.out hE1.out) (fun _ => ?_))
      | (with_reducible refine wpList_loadb (by with_unfolding_all rfl) 25 _ rfl P1 rfl V1 hP1 _ Try.underlying25 (by kernel_rfl) hzV1 ?_)
      | (with_reducible refine wpList_loadb (by with_unfolding_all rfl) 25 _ rfl P2 rfl V2 hP2 _ Try.underlying25 (by kernel_rfl) hzV2 ?_)
      | (go_at_call 9; have hx := hP3; clear hx; (with_reducible refine (hu4 hV2).mono ?_); rintro e u4 ⟨V4, al4, L4, cl4, Y4, rfl, g4, f4, hV4, hb8⟩; have hzV4 := hV4.size; have hoV4 := hV4.old; have h1V4 := hV4.one; replace hV2 := hV2.next hb8; replace hV3 := hV3.next hb8; replace hP3 := hP3.next hb8; replace hk := hk.trans (hb8.mono hk.size); clear hb8)
      | (go_at_call 9; (with_reducible refine (hu3 hV1).mono ?_); rintro e u3 ⟨V3, al3, L3, cl3, Y3, rfl, g3, f3, hV3, hb8⟩; have hzV3 := hV3.size; have hoV3 := hV3.old; have h1V3 := hV3.one; replace hV1 := hV1.next hb8; replace hV2 := hV2.next hb8; replace hP2 := hP2.next hb8; replace hk := hk.trans (hb8.mono hk.size); clear hb8)
      | ((with_reducible refine wpList_alloc rfl 25 rfl zW zero43 ?_); have hx := hV4; clear hx; intro P4 A4 hN4 hPa4 hka4; have hle4 := hN4.out.1)
      | ((with_reducible refine wpList_alloc rfl 25 rfl zW zero43 ?_); have hx := hV3; clear hx; intro P3 A3 hN3 hPa3 hka3; have hle3 := hN3.out.1)
      | ((with_reducible refine wpList_store_blk rfl _ _ _ rfl P4 rfl V4 rfl zW hPa4 hzV4 hoV4 h1V4 ?_); intro S4 hP4 oS4; have kS4 := oS4.below _ _ (Nat.le_of_eq hle4) hka4; replace hV4 := hV4.next kS4; clear hPa4 hka4 oS4 hN4; replace hV2 := hV2.next kS4; replace hV3 := hV3.next kS4; replace hP3 := hP3.next kS4; replace hk := hk.trans (kS4.mono hk.size); clear kS4)
      | ((with_reducible refine wpList_store_blk rfl _ _ _ rfl P3 rfl V3 rfl zW hPa3 hzV3 hoV3 h1V3 ?_); intro S3 hP3 oS3; have kS3 := oS3.below _ _ (Nat.le_of_eq hle3) hka3; replace hV3 := hV3.next kS3; clear hPa3 hka3 oS3 hN3; replace hV1 := hV1.next kS3; replace hV2 := hV2.next kS3; replace hP2 := hP2.next kS3; replace hk := hk.trans (kS3.mono hk.size); clear kS3))
     clear hu3 hu4
     by_cases hC : a4 ∈ (fO Y1 a3).links
     ·obtain rfl : er3 = 0 := by have := he3.out; rw [if_pos hC] at this; exact this
      by_cases hD : a2 ∈ (fO Y2 a1).links
      ·obtain rfl : er4 = 0 := by have := he4.out; rw [if_pos hD] at this; exact this
       obtain ⟨hG3, hY3⟩ := g3.out hC
       obtain ⟨hG4, hY4⟩ := g4.out hD
       have hfl : Hid (L1.length ≤ 1024 ∧ L2.length ≤ 1024 ∧ L3.length ≤ 1024 ∧ L4.length ≤ 1024) := by
        have h1 := f1.out.2
        have h2 := f2.out.2
        have h3 := f3.out.2.2
        have h4 := f4.out.2.2
        exact ⟨by omega, by omega, by omega, by omega⟩
       have hy1 := hYY1.out
       have hy2 := hYY2.out
       subst hy1 hy2
       obtain ⟨hsw, hln⟩ := swp_swap hf hLG1.out hG3 hLG2.out hG4
       rw [← hY3, ← hY4] at hsw
       subst hsw
       have hln' : Hid ((L1.length : Int) + (L3.length : Int) = (L2.length : Int) + (L4.length : Int)) := by show _ = _; omega
       obtain ⟨q1, q2, q3, q4⟩ := hfl.out
       clear hY3 hY4 hG3 hG4 hln f1 f2 f3 f4 g3 g4 hLG1 hLG2 hYY1 hYY2 hC hD he3 he4
       go_wp2_with (first
        | go_skip
        | (with_reducible refine wpList_loadb (by with_unfolding_all rfl) 25 _ rfl P3 rfl V3 hP3 _ Try.underlying25 (by kernel_rfl) hzV3 ?_)
        | (with_reducible refine wpList_loadb (by with_unfolding_all rfl) 25 _ rfl P4 rfl V4 hP4 _ Try.underlying25 (by kernel_rfl) hzV4 ?_)
        | (go_at_call 11; (with_reducible refine (rsame_s hV3 hV4).mono ?_); rintro e w9 ⟨rfl, hb8⟩; replace hk := hk.trans (hb8.mono hk.size); clear hb8)
        | (with_reducible refine wpList_test (by with_unfolding_all rfl) .eql 3 _ _ _ rfl (.int .i64 _) (.int .i64 _) rfl rfl (eqg_int _ _ _ _ _ _) (fun _ => ?_) (fun q => absurd (by have := hln'.out; go_num) q.out))
        | (go_at_call 8; (with_reducible refine (awake15_any _).mono ?_); rintro e w4 ⟨rfl, hb8⟩; replace hk := hk.trans (hb8.mono hk.size)))
       all_goals go_ret
       all_goals exact ⟨rfl, hk⟩
      ·obtain rfl : er4 = 1 := by have := he4.out; rw [if_neg hD] at this; exact this
       go_wp2_with (first
        | go_skip
        | (go_at_call 8; (with_reducible refine (awake15_any _).mono ?_); rintro e w4 ⟨rfl, hb8⟩; replace hk := hk.trans (hb8.mono hk.size)))
       all_goals go_ret
       all_goals exact ⟨rfl, hk⟩
     ·obtain rfl : er3 = 1 := by have := he3.out; rw [if_neg hC] at this; exact this
      by_cases hD : a2 ∈ (fO Y2 a1).links
      ·obtain rfl : er4 = 0 := by have := he4.out; rw [if_pos hD] at this; exact this
       go_wp2_with (first
        | go_skip
        | (go_at_call 8; (with_reducible refine (awake15_any _).mono ?_); rintro e w4 ⟨rfl, hb8⟩; replace hk := hk.trans (hb8.mono hk.size)))
       all_goals go_ret
       all_goals exact ⟨rfl, hk⟩
      ·obtain rfl : er4 = 1 := by have := he4.out; rw [if_neg hD] at this; exact this
       go_wp2_with (first
        | go_skip
        | (go_at_call 8; (with_reducible refine (awake15_any _).mono ?_); rintro e w4 ⟨rfl, hb8⟩; replace hk := hk.trans (hb8.mono hk.size)))
       all_goals go_ret
       all_goals exact ⟨rfl, hk⟩

   ·obtain rfl : er2 = 1 := by have := he2.out; rw [if_neg hB2] at this; exact this
    go_wp2_with (first
     | go_skip
     | (go_at_call 8; (with_reducible refine (awake15_any _).mono ?_); rintro e w4 ⟨rfl, hb8⟩; replace hk := hk.trans (hb8.mono hk.size)))
    all_goals go_ret
    all_goals exact ⟨rfl, hk⟩
  ·obtain rfl : er1 = 1 := by have := he1.out; rw [if_neg hA] at this; exact this
   go_wp2_with (first
    | go_skip
    | (go_at_call 8; (with_reducible refine (awake15_any _).mono ?_); rintro e w4 ⟨rfl, hb8⟩; replace hk := hk.trans (hb8.mono hk.size)))
   all_goals go_ret
   all_goals exact ⟨rfl, hk⟩
 ·go_enter Try.func6, Try.ntmps6
  try simp only [List.append]
  go_wp2_with (first
   | go_skip
   | (with_reducible refine wpList_box rfl 25 _ rfl G rfl ?_; intro B W1 hN1 hB hk)
   | (with_reducible refine wpList_loadb (by with_unfolding_all rfl) 25 _ rfl B rfl G hB _ Try.underlying25 (by kernel_rfl) hzw ?_)
   | (go_at_call 7; (with_reducible refine ((few0 _ hk).no hfw).mono ?_); rintro e w3 ⟨rfl, hb8⟩; replace hB := hB.next hb8; replace hk := hk.trans (hb8.mono hk.size); clear hb8)
   | (go_at_call 8; (with_reducible refine (awake15_any _).mono ?_); rintro e w4 ⟨rfl, hb8⟩; replace hk := hk.trans (hb8.mono hk.size)))
  all_goals go_ret
  all_goals exact ⟨rfl, hk⟩

theorem lifted (os : Os) (started : os.Started) (H : Type) (enc : TypeId × Value → H) :
  ReturnsInHanded {} Try.checked os 6 .any (Rows.sweepSwapsSpec.pre6 enc Try.prog Try.f6 Rows.sweepSwapsRow.domain false) (Rows.sweepSwapsSpec.post enc Try.prog Try.f6 false true false false) := by
 refine returnsInHanded_of_change (C := Try.checked) own started (by kernel_rfl) Try.func6
  (ChangeSpec.witness6 (enc := enc) (C := Try.checked) false ⟨#[], #[.agg #[.int .i64 0, .int .u64 0, .int .u64 0, .slice none 0 0], .int .u64 0, .int .u64 0, .int .u64 0, .int .u64 0], []⟩ 8 (by kernel_rfl) (by kernel_rfl) (by kernel_rfl) (by kernel_rfl)) ?_
 intro W base args ds gs before hval0 hW hcnd _
 have hval : ∀ (j : Nat) t v, Try.f6.params[j]? = some t → args[j]? = some v → Value.okWide Try.prog W .any base t v := hval0
 have hW' := hW
 obtain ⟨p, q, hA0, hV, rfl, hfz, hnd⟩ := hW
 have hA : DataW.TrodAll enc Try.prog W 0 (fun _ => true) true Try.f6.params.toList args.toList ds p := hA0
 rw [Try.params6] at hA hval
 obtain ⟨v0, vs0, d0, ds0, p0, q0, hargs, rfl, rfl, h0, r0⟩ := trodAll_cons hA
 obtain ⟨v1, vs1, d1, ds1, p1, q1, rfl, rfl, rfl, h1, r1⟩ := trodAll_cons r0
 obtain ⟨v2, vs2, d2, ds2, p2, q2, rfl, rfl, rfl, h2, r2⟩ := trodAll_cons r1
 obtain ⟨v3, vs3, d3, ds3, p3, q3, rfl, rfl, rfl, h3, r3⟩ := trodAll_cons r2
 obtain ⟨v4, vs4, d4, ds4, p4, q4, rfl, rfl, rfl, h4, r4⟩ := trodAll_cons r3
 obtain ⟨rfl, rfl, rfl⟩ := trodAll_nil r4
 obtain rfl : args = #[v0, v1, v2, v3, v4] := by cases args; simp_all
 obtain ⟨rfl, rfl⟩ := trodVars_none hV
 obtain ⟨t0, ke0, ro0, ao0, n0, cap0, X0, rfl, l0⟩ := worldW_of_trod (hval 0 25 v0 rfl rfl) h0
 have k0 := h0
 have lt0 : ∀ x ∈ p0, x.block < W.heap.size := by obtain ⟨m, hm⟩ := k0; exact DataW.trod_lt m _ _ _ hm
 obtain ⟨a1, rfl, rfl, rfl, w1⟩ := open_int Try.underlying22 (hval 1 22 v1 rfl rfl) h1
 obtain ⟨a2, rfl, rfl, rfl, w2⟩ := open_int Try.underlying22 (hval 2 22 v2 rfl rfl) h2
 obtain ⟨a3, rfl, rfl, rfl, w3⟩ := open_int Try.underlying22 (hval 3 22 v3 rfl rfl) h3
 obtain ⟨a4, rfl, rfl, rfl, w4⟩ := open_int Try.underlying22 (hval 4 22 v4 rfl rfl) h4
 clear hA0 hval0
 refine (walk t0 ke0 ro0 ao0 n0 cap0 X0 a1 a2 a3 a4 W l0 w1 w2 w3 w4).mono fun e W' ⟨he, bel⟩ => ?_
 subst he
 exact ⟨_, rfl, _, _, _, [], _, [], hW', trodAll_mk1 (shut_bool Try.underlying4 _), (trodAll_cons_mk (Below.trod laidOut (by kernel_rfl) (of_decide_eq_true (by kernel_rfl)) k0 bel lt0) (trodAll_cons_mk (shut_int Try.underlying22 w1) (trodAll_cons_mk (shut_int Try.underlying22 w2) (trodAll_cons_mk (shut_int Try.underlying22 w3) (trodAll_cons_mk (shut_int Try.underlying22 w4) trodAll_mk0))))), rfl, bel.frame _, fun h => by cases h⟩

theorem over : Rows.sweepSwapsRow.holds Try.pinned (OpenSpec.ofChange Rows.sweepSwapsSpec) :=
 OpenClaim.holds_of_wide 6 Try.f6 rfl rfl rfl rfl rfl rfl rfl ⟨rfl, rfl, rfl, rfl, rfl⟩ rfl rfl rfl rfl rfl (by kernel_rfl) Try.func6 (by kernel_rfl)
  (of_decide_eq_true (by kernel_rfl)) (by unfold Func.isWrapper; first | (rw [if_pos (by decide +kernel)]; kernel_rfl) | (rw [if_neg (by decide +kernel)]; exact ⟨rfl, rfl⟩))
  (fun os started H enc _ => lifted os started H enc)

end sweepSwaps
theorem sweepSwaps_holds : Rows.SweepSwapsSaid :=
 sweepSwaps.over
#print axioms sweepSwaps_holds
end Go.Proofs.Ytobcdaaghdljbaa
