/-
 PROVED HERE: what was laid into a container lies there, alone; what was linked lies in one more; a container uses as much more as what was laid into it has, all others use what they used; what is moved is charged (TreeHolds), over the landed code. No condition.
-/
import Derived.Test.YtklnneiblmakmaaGreatRows
import Derived.WalkKit
import Derived.ProofKit
import Derived.OpenShut
import Derived.Below
import Derived.ShutString
import Derived.Deep.QuietTactic
import Derived.Deep.DeepCutAuto
import Derived.Test.YtklnneiblmakmaaGreatZ21
import Derived.Test.YtklnneiblmakmaaGreatZ33
import Derived.Test.YtklnneiblmakmaaGreatZ46
import Derived.Test.YtklnneiblmakmaaGreatZ49
set_option maxRecDepth 100000
set_option maxHeartbeats 8000000
set_option linter.unusedVariables false
open Go.Proofs.Tryz
namespace Go.Proofs.YtklnneiblmakmaaGreat
namespace treeHolds
open Go.ChangeShapes Go.WideShapes Go.ChangeAt Go.RowKit
open Go.ChangeMaps (open_string shut_string)
theorem own : ownKnob prog.godebug = none := by kernel_rfl
theorem walk (t0 : Int) (ke0 : Nat) (ro0 : Int) (ao0 : Option Addr) (n0 cap0 : Nat) (X0 : List Ob) (C1 : Array Value) (x1 : Ob) (a2 : Int) (a3 : Int) (a4 : Int) (w : World) (l0 : Obs w ao0 n0 cap0 X0 ∧ ∀ x ∈ X0, WdO x) (l1 : ObD (LtN w) w C1 x1) (w2 : (Lit.int .u64 a2).wf = true) (w3 : (Lit.int .u64 a3).wf = true) (w4 : (Lit.int .i64 a4).wf = true) :
  Calls prog 5 #[.agg #[.int .i64 t0, .int .u64 (ke0 : Int), .int .u64 ro0, .slice ao0 n0 cap0], .agg C1, .int .u64 a2, .int .u64 a3, .int .i64 a4] w fun e w' => e = .returned (.bool true) ∧ Below w.heap.size w w' := by
 obtain ⟨l0, hw0⟩ := l0
 have hn : Hid (X0.length = n0) := l0.1
 have hz1 := l1.size
 have hid1 := l1.id
 have hqu1 := l1.quota
 obtain ⟨a5, n5, k5, c5, l5⟩ := l1.links
 have hn5 : Hid (x1.links.length = n5) := l5.1
 have hzw : (prog.info? 25).map (·.size) = some (#[.int .i64 t0, .int .u64 (ke0 : Int), .int .u64 ro0, .slice ao0 n0 cap0] : Array Value).size := by kernel_rfl
 have hX0 : Wr w #[.int .i64 t0, .int .u64 (ke0 : Int), .int .u64 ro0, .slice ao0 n0 cap0] t0 ke0 ro0 X0 := ⟨_, _, _, rfl, l0⟩
 have few0 := fun (W : World) (hk : Below w.heap.size w W) => glz (t := t0) (ke := (ke0 : Int)) (ro := ro0) (qzz l0 hk)
 have snd0 := fun (W : World) (hk : Below w.heap.size w W) => kJz (l1.next hk)
 by_cases hfw : gmz X0
 ·have hsm : fitW ⟨t0, ke0, ro0, X0⟩ = true → wbz X0 := fun q => ySz hfw q
  have hn16 : X0.length ≤ 16 := hfw.1
  have rf0 := fun (W : World) (hk : Below w.heap.size w W) => rtfit_w (t := t0) (key := ke0) (ro := ro0) (qzz l0 hk) hsm hw0
  cases hbF : fitD t0 ke0 ro0 X0 with
  | false =>
   simp only [hbF] at rf0
   obtain ⟨G, hG⟩ : ∃ G : Array Value, G = #[.int .i64 t0, .int .u64 (ke0 : Int), .int .u64 ro0, .slice ao0 n0 cap0] := ⟨_, rfl⟩
   simp only [← hG] at few0 rf0
   rw [← hG] at hzw
   rw [← hG]
   clear hG hX0
   go_enter func5, ntmps5
   try simp only [List.append]
   go_wp2_with (first
    | go_skip
    | (with_reducible refine qdz rfl 25 _ rfl G rfl ?_; intro B W1 hN1 hB hk)
    | (with_reducible refine qdz rfl 43 _ rfl C1 rfl ?_; intro Bo W2 hN2 hBo hb8; replace hB := hB.next hb8; replace hk := btz hk hb8; clear hb8)
    | (with_reducible refine qez (by kernel_rfl) 25 _ rfl B rfl G hB _ underlying25 (by kernel_rfl) hzw ?_)
    | (with_reducible refine qez (by kernel_rfl) 43 _ rfl Bo rfl C1 hBo _ underlying43 (by kernel_rfl) (qfz hz1) ?_)
    | (with_reducible refine qbz (by kernel_rfl) _ _ rfl Bo 5 rfl _ _ hBo _ c5 isAgg28 ?_)
    | (go_at_call 6; (with_reducible refine ((few0 _ hk).yes hfw).mono ?_); rintro e w3 ⟨rfl, hb8⟩; replace hB := hB.next hb8; replace hBo := hBo.next hb8; replace hk := btz hk hb8; clear hb8)
    | (go_at_call 7; (with_reducible refine (rf0 _ hk).mono ?_); rintro e w5 ⟨rfl, hb8⟩; replace hB := hB.next hb8; replace hBo := hBo.next hb8; replace hk := btz hk hb8; clear hb8)
    | (go_at_call 9; (with_reducible refine (wnz _).mono ?_); rintro e w4 ⟨rfl, hb8⟩; replace hk := btz hk hb8))
   all_goals go_ret
   all_goals exact ⟨rfl, hk⟩
  | true =>
   simp only [hbF] at rf0
   have hT := tre_of hbF
   have hL := xTz hT
   have hbH : Hid (fitD t0 ke0 ro0 X0 = true) := hbF
   have hl2 : X0.length < 1022 := by omega
   have hl4 : X0.length ≤ 4000 := by omega
   obtain ⟨G, hG⟩ : ∃ G : Array Value, G = #[.int .i64 t0, .int .u64 (ke0 : Int), .int .u64 ro0, .slice ao0 n0 cap0] := ⟨_, rfl⟩
   simp only [← hG] at few0 rf0
   rw [← hG] at hzw hX0
   rw [← hG]
   have hX := hX0
   clear hG hbF
   by_cases hso : q3z x1 = true
   ·by_cases hl : 0 < (n5 : Int)
    ·go_enter func5, ntmps5
     try simp only [List.append]
     go_wp2_with (first
      | go_skip
      | (with_reducible refine qdz rfl 25 _ rfl G rfl ?_; intro B W1 hN1 hB hk)
      | (with_reducible refine qdz rfl 43 _ rfl C1 rfl ?_; intro Bo W2 hN2 hBo hb8; replace hB := hB.next hb8; replace hk := btz hk hb8; clear hb8)
      | (with_reducible refine qez (by kernel_rfl) 25 _ rfl B rfl G hB _ underlying25 (by kernel_rfl) hzw ?_)
      | (with_reducible refine qez (by kernel_rfl) 43 _ rfl Bo rfl C1 hBo _ underlying43 (by kernel_rfl) (qfz hz1) ?_)
      | (with_reducible refine qbz (by kernel_rfl) _ _ rfl Bo 5 rfl _ _ hBo _ c5 isAgg28 ?_)
      | (go_at_call 6; (with_reducible refine ((few0 _ hk).yes hfw).mono ?_); rintro e w3 ⟨rfl, hb8⟩; replace hB := hB.next hb8; replace hBo := hBo.next hb8; replace hk := btz hk hb8; clear hb8)
      | (go_at_call 7; (with_reducible refine (rf0 _ hk).mono ?_); rintro e w5 ⟨rfl, hb8⟩; replace hB := hB.next hb8; replace hBo := hBo.next hb8; replace hk := btz hk hb8; clear hb8)
      | (go_at_call 8; (with_reducible refine ((snd0 _ hk).yes hso).mono ?_); rintro e w7 ⟨rfl, hb8⟩; replace hB := hB.next hb8; replace hBo := hBo.next hb8; replace hk := btz hk hb8; clear hb8)
      | (go_at_call 9; (with_reducible refine (wnz _).mono ?_); rintro e w4 ⟨rfl, hb8⟩; replace hk := btz hk hb8))
     all_goals go_ret
     all_goals exact ⟨rfl, hk⟩
    ·have hl0 : decide (0 < (n5 : Int)) = false := decide_eq_false hl
     have hln : x1.links = [] := List.eq_nil_of_length_eq_zero (by rw [hn5.out]; omega)
     have hos := wTz hso
     have hol : x1.label.length < 1048576 := by
      have := (qxz.1 (qMz.1 (quz.1 hso).1).2.2.2.1).1
      omega
     go_enter func5, ntmps5
     try simp only [List.append]
     go_upto_if 50 with (first
      | go_skip
      | (with_reducible refine qdz rfl 25 _ rfl G rfl ?_; intro B W1 hN1 hB hk)
      | (with_reducible refine qdz rfl 43 _ rfl C1 rfl ?_; intro Bo W2 hN2 hBo hb8; replace hB := hB.next hb8; replace hk := btz hk hb8; clear hb8)
      | (with_reducible refine qez (by kernel_rfl) 25 _ rfl B rfl G hB _ underlying25 (by kernel_rfl) hzw ?_)
      | (with_reducible refine qez (by kernel_rfl) 43 _ rfl Bo rfl C1 hBo _ underlying43 (by kernel_rfl) (qfz hz1) ?_)
      | (with_reducible refine qbz (by kernel_rfl) _ _ rfl Bo 5 rfl _ _ hBo _ c5 isAgg28 ?_)
      | (go_at_call 6; (with_reducible refine ((few0 _ hk).yes hfw).mono ?_); rintro e w3 ⟨rfl, hb8⟩; replace hB := hB.next hb8; replace hBo := hBo.next hb8; replace hk := btz hk hb8; clear hb8)
      | (go_at_call 7; (with_reducible refine (rf0 _ hk).mono ?_); rintro e w5 ⟨rfl, hb8⟩; replace hB := hB.next hb8; replace hBo := hBo.next hb8; replace hk := btz hk hb8; clear hb8)
      | (go_at_call 8; (with_reducible refine ((snd0 _ hk).yes hso).mono ?_); rintro e w7 ⟨rfl, hb8⟩; replace hB := hB.next hb8; replace hBo := hBo.next hb8; replace hk := btz hk hb8; clear hb8)
      | (go_at_call 10; (with_reducible refine (attach_r (hX.next hk) hL hl2 (l1.next hk) hos hol (i := a2)).mono ?_); rintro e v1 ⟨V1, rfl, hV1, hb8⟩; replace hB := hB.next hb8; replace hBo := hBo.next hb8; replace hk := btz hk hb8; clear hb8; have hzV1 := hV1.size; have hoV1 := hV1.one; have hsV1 := hV1.old)
      | ((with_reducible refine qcz rfl 25 rfl zW qNz ?_); have hx := hV1; intro P1 A1 hA1 hP1 hkA1; have hle1 := hA1.out.1; clear hx)
      | ((with_reducible refine qaz rfl _ _ _ rfl P1 rfl V1 rfl zW hP1 hzV1 hsV1 hoV1 ?_); intro S1 hQ1 oS1; have kS1 := oS1.below _ _ (Nat.le_of_eq hle1) hkA1; replace hV1 := hV1.next kS1; clear hP1 hkA1 oS1 hA1; replace hB := hB.next kS1; replace hBo := hBo.next kS1; replace hk := btz hk kS1; clear kS1))
     go_cut [] (fun wc => Blk wc B G 25 ∧ Blk wc Bo C1 43 ∧ Below w.heap.size w wc)
     case first =>
      by_cases hE : attE X0 a2 x1 = 0
      ·have hE' : (attE X0 a2 x1 == 0) = true := by rw [hE]; rfl
       obtain ⟨hch, hhol⟩ := att_chd hT hso hln hE
       have hlY : (attX X0 a2 x1).length ≤ 4096 := by have := hch.len; omega
       have hho := fun {W : World} (hV : Wr W V1 t0 ke0 ro0 (attX X0 a2 x1)) => gcz hV hlY (i := x1.id)
       simp only [hhol, List.length_singleton] at hho
       clear hE
       go_wp2_with (first
        | go_skip
        | (with_reducible refine qez (by kernel_rfl) 25 _ rfl P1 rfl V1 hQ1 _ underlying25 (by kernel_rfl) hzV1 ?_)
        | (with_reducible refine qez (by kernel_rfl) 25 _ rfl B rfl G hB _ underlying25 (by kernel_rfl) hzw ?_)
        | (with_reducible refine qbz (by kernel_rfl) _ _ rfl Bo 0 rfl _ _ hBo _ hid1 isAgg22 ?_)
        | (with_reducible refine qbz (by kernel_rfl) _ _ rfl Bo 3 rfl _ _ hBo _ hqu1 isAgg3 ?_)
        | (go_at_call 21; (with_reducible refine (hho hV1).mono ?_); rintro e h1 ⟨ah, ch, rfl, hct, hb8⟩; replace hB := hB.next hb8; replace hBo := hBo.next hb8; replace hV1 := hV1.next hb8; replace hQ1 := hQ1.next hb8; replace hk := btz hk hb8; clear hb8; obtain ⟨bh, oh, rfl, hbl, hcc⟩ := hct.2.2.2 (by omega); have hc0 : h1.cell? ⟨bh, oh, none⟩ = some (.int .u64 a2) := hcc 0 (by omega); clear hct hcc)
        | (go_at_call 22; (with_reducible refine (kuz (hX.next hk) hV1 hL hl4 hch).mono ?_); rintro e c1 ⟨rfl, hb8⟩; replace hB := hB.next hb8; replace hBo := hBo.next hb8; replace hV1 := hV1.next hb8; replace hQ1 := hQ1.next hb8; replace hk := btz hk hb8; clear hb8))
       go_meet
       case rel => exact ⟨hB, hBo, hk⟩
      ·have hE' : (attE X0 a2 x1 == 0) = false := by simpa using hE
       clear hE
       go_wp2_with (first | go_skip)
       go_meet
       case rel => exact ⟨hB, hBo, hk⟩
     case rest =>
      obtain ⟨hB, hBo, hk⟩ := hcut
      go_upto_region 10 with (first
       | go_skip
       | (with_reducible refine qez (by kernel_rfl) 25 _ rfl B rfl G hB _ underlying25 (by kernel_rfl) hzw ?_)
       | (go_at_call 12; (with_reducible refine (link_r (hX.next hk) hL hl2 (i := a2) (j := a3)).mono ?_); rintro e v3 ⟨V3, rfl, hV3, hb8⟩; replace hB := hB.next hb8; replace hBo := hBo.next hb8; replace hQ2 := hQ2.next hb8; replace hk := btz hk hb8; clear hb8; have hzV3 := hV3.size; have hoV3 := hV3.one; have hsV3 := hV3.old)
       | ((with_reducible refine qcz rfl 25 rfl zW qNz ?_); have hx := hV3; intro P3 A3 hA3 hP3 hkA3; have hle3 := hA3.out.1; clear hx)
       | ((with_reducible refine qaz rfl _ _ _ rfl P3 rfl V3 rfl zW hP3 hzV3 hsV3 hoV3 ?_); intro S3 hQ3 oS3; have kS3 := oS3.below _ _ (Nat.le_of_eq hle3) hkA3; replace hV3 := hV3.next kS3; clear hP3 hkA3 oS3 hA3; replace hB := hB.next kS3; replace hBo := hBo.next kS3; replace hQ2 := hQ2.next kS3; replace hk := btz hk kS3; clear kS3)
       | (go_at_call 19; (with_reducible refine (uAz (hX.next hk) (i := a3)).mono ?_); rintro e v2 ⟨C2, rfl, hO2, hb8⟩; replace hB := hB.next hb8; replace hBo := hBo.next hb8; replace hk := btz hk hb8; clear hb8; have hz2 := hO2.size; have ho2 := hO2.one; have hqt2 := hO2.quota)
       | ((with_reducible refine qcz rfl 43 rfl zC qqz ?_); have hx := hO2; intro P2 A2 hA2 hP2 hkA2; have hle2 := hA2.out.1; clear hx)
       | ((with_reducible refine qaz rfl _ _ _ rfl P2 rfl C2 rfl zC hP2 (qfz hz2) (qmz.trans hz2.symm) ho2 ?_); intro S2 hQ2 oS2; have kS2 := oS2.below _ _ (Nat.le_of_eq hle2) hkA2; clear hP2 hkA2 oS2 hA2; replace hB := hB.next kS2; replace hBo := hBo.next kS2; replace hk := btz hk kS2; clear kS2))
      go_cut [97] (fun s wc => s = .bool false ∧ Blk wc B G 25 ∧ Blk wc P2 C2 43 ∧ Below w.heap.size w wc)
      case first =>
       by_cases hE : linE X0 a2 a3 = 0
       ·have hE' : (linE X0 a2 a3 == 0) = true := by rw [hE]; rfl
        have hch := lin_chd hT hE
        clear hE
        go_wp2_with (first
         | go_skip
         | (with_reducible refine qez (by kernel_rfl) 25 _ rfl P3 rfl V3 hQ3 _ underlying25 (by kernel_rfl) hzV3 ?_)
         | (with_reducible refine qez (by kernel_rfl) 25 _ rfl B rfl G hB _ underlying25 (by kernel_rfl) hzw ?_)
         | (with_reducible refine qbz (by kernel_rfl) _ _ rfl P2 3 rfl _ _ hQ2 _ hqt2 isAgg3 ?_)
         | (go_at_call 22; (with_reducible refine (kuz (hX.next hk) hV3 hL hl4 hch).mono ?_); rintro e c1 ⟨rfl, hb8⟩; replace hB := hB.next hb8; replace hBo := hBo.next hb8; replace hQ2 := hQ2.next hb8; replace hV3 := hV3.next hb8; replace hQ3 := hQ3.next hb8; replace hk := btz hk hb8; clear hb8))
        go_meet
        case rel => exact ⟨rfl, hB, hQ2, hk⟩
       ·have hE' : (linE X0 a2 a3 == 0) = false := by simpa using hE
        clear hE
        go_wp2_with (first | go_skip)
        go_meet
        case rel => exact ⟨rfl, hB, hQ2, hk⟩
      case rest =>
       obtain ⟨rfl, hB, hQ2, hk⟩ := hcut
       go_upto_region 14 with (first
        | go_skip
        | (with_reducible refine qez (by kernel_rfl) 25 _ rfl B rfl G hB _ underlying25 (by kernel_rfl) hzw ?_)
        | (go_at_call 19; (with_reducible refine (uAz hV4 (i := a3)).mono ?_); rintro e v5 ⟨C5, rfl, hO5, hb8⟩; replace hB := hB.next hb8; replace hQ2 := hQ2.next hb8; replace hV4 := hV4.next hb8; replace hQ4 := hQ4.next hb8; replace hk := btz hk hb8; clear hb8; have hz5 := hO5.size; have ho5 := hO5.one; have hqt5 := hO5.quota)
        | ((with_reducible refine qcz rfl 43 rfl zC qqz ?_); have hx := hO5; intro P5 A5 hA5 hP5 hkA5; have hle5 := hA5.out.1; clear hx)
        | ((with_reducible refine qaz rfl _ _ _ rfl P5 rfl C5 rfl zC hP5 (qfz hz5) (qmz.trans hz5.symm) ho5 ?_); intro S5 hQ5 oS5; have kS5 := oS5.below _ _ (Nat.le_of_eq hle5) hkA5; clear hP5 hkA5 oS5 hA5; replace hB := hB.next kS5; replace hQ2 := hQ2.next kS5; replace hV4 := hV4.next kS5; replace hQ4 := hQ4.next kS5; replace hk := btz hk kS5; clear kS5)
        | (go_at_call 16; (with_reducible refine (move_r (hX.next hk) hL hl2 (i := a2) (j := a3) (m := a4)).mono ?_); rintro e v4 ⟨V4, rfl, hV4, hb8⟩; replace hB := hB.next hb8; replace hQ2 := hQ2.next hb8; replace hk := btz hk hb8; clear hb8; have hzV4 := hV4.size; have hoV4 := hV4.one; have hsV4 := hV4.old)
        | ((with_reducible refine qcz rfl 25 rfl zW qNz ?_); have hx := hV4; intro P4 A4 hA4 hP4 hkA4; have hle4 := hA4.out.1; clear hx)
        | ((with_reducible refine qaz rfl _ _ _ rfl P4 rfl V4 rfl zW hP4 hzV4 hsV4 hoV4 ?_); intro S4 hQ4 oS4; have kS4 := oS4.below _ _ (Nat.le_of_eq hle4) hkA4; replace hV4 := hV4.next kS4; clear hP4 hkA4 oS4 hA4; replace hB := hB.next kS4; replace hQ2 := hQ2.next kS4; replace hk := btz hk kS4; clear kS4)
        | (with_reducible refine qez (by kernel_rfl) 25 _ rfl P4 rfl V4 hQ4 _ underlying25 (by kernel_rfl) hzV4 ?_))
       by_cases hE : movE X0 a2 a3 a4 = 0
       ·have hE2 : (movE X0 a2 a3 a4 != 0) = false := by rw [hE]; rfl
        obtain ⟨hch, hqq⟩ := mov_chd hbH.out hE
        have hwr : IntKind.i64.wrap ((fO X0 a3).quota + a4) = (fO (movX X0 a2 a3 a4) a3).quota := by
         rw [hqq, IntKind.wrap_i64]
         have h1 := (hL.at a3).2.1
         have h2 := mov_quo hE
         omega
        clear hE hqq
        obtain ⟨qy, hqy⟩ : ∃ qy, (fO (movX X0 a2 a3 a4) a3).quota = qy := ⟨_, rfl⟩
        rw [hqy] at hwr hqt5
        clear hqy
        go_wp2_with (first
         | go_skip
         | (with_reducible refine qez (by kernel_rfl) 25 _ rfl B rfl G hB _ underlying25 (by kernel_rfl) hzw ?_)
         | (with_reducible refine qez (by kernel_rfl) 25 _ rfl P4 rfl V4 hQ4 _ underlying25 (by kernel_rfl) hzV4 ?_)
         | (with_reducible refine qbz (by kernel_rfl) _ _ rfl P5 3 rfl _ _ hQ5 _ hqt5 isAgg3 ?_)
         | (with_reducible refine qbz (by kernel_rfl) _ _ rfl P2 3 rfl _ _ hQ2 _ hqt2 isAgg3 ?_)
         | (go_at_call 22; (with_reducible refine (kuz (hX.next hk) hV4 hL hl4 hch).mono ?_); rintro e c1 ⟨rfl, hb8⟩; replace hB := hB.next hb8; replace hQ2 := hQ2.next hb8; replace hV4 := hV4.next hb8; replace hQ4 := hQ4.next hb8; replace hQ5 := hQ5.next hb8; replace hk := btz hk hb8; clear hb8)
         | (go_at_call 9; (with_reducible refine (wnz _).mono ?_); rintro e w4 ⟨rfl, hb8⟩; replace hk := btz hk hb8))
        all_goals go_ret
        all_goals exact ⟨rfl, hk⟩
       ·have hE2 : (movE X0 a2 a3 a4 != 0) = true := by simpa using hE
        clear hE
        go_wp2_with (first
         | go_skip
         | (go_at_call 9; (with_reducible refine (wnz _).mono ?_); rintro e w4 ⟨rfl, hb8⟩; replace hk := btz hk hb8))
        all_goals go_ret
        all_goals exact ⟨rfl, hk⟩
   ·go_enter func5, ntmps5
    try simp only [List.append]
    go_wp2_with (first
     | go_skip
     | (with_reducible refine qdz rfl 25 _ rfl G rfl ?_; intro B W1 hN1 hB hk)
     | (with_reducible refine qdz rfl 43 _ rfl C1 rfl ?_; intro Bo W2 hN2 hBo hb8; replace hB := hB.next hb8; replace hk := btz hk hb8; clear hb8)
     | (with_reducible refine qez (by kernel_rfl) 25 _ rfl B rfl G hB _ underlying25 (by kernel_rfl) hzw ?_)
     | (with_reducible refine qez (by kernel_rfl) 43 _ rfl Bo rfl C1 hBo _ underlying43 (by kernel_rfl) (qfz hz1) ?_)
     | (with_reducible refine qbz (by kernel_rfl) _ _ rfl Bo 5 rfl _ _ hBo _ c5 isAgg28 ?_)
     | (go_at_call 6; (with_reducible refine ((few0 _ hk).yes hfw).mono ?_); rintro e w3 ⟨rfl, hb8⟩; replace hB := hB.next hb8; replace hBo := hBo.next hb8; replace hk := btz hk hb8; clear hb8)
     | (go_at_call 7; (with_reducible refine (rf0 _ hk).mono ?_); rintro e w5 ⟨rfl, hb8⟩; replace hB := hB.next hb8; replace hBo := hBo.next hb8; replace hk := btz hk hb8; clear hb8)
     | (go_at_call 8; (with_reducible refine ((snd0 _ hk).no hso).mono ?_); rintro e w7 ⟨rfl, hb8⟩; replace hB := hB.next hb8; replace hBo := hBo.next hb8; replace hk := btz hk hb8; clear hb8)
     | (go_at_call 9; (with_reducible refine (wnz _).mono ?_); rintro e w4 ⟨rfl, hb8⟩; replace hk := btz hk hb8))
    all_goals go_ret
    all_goals exact ⟨rfl, hk⟩
 ·obtain ⟨G, hG⟩ : ∃ G : Array Value, G = #[.int .i64 t0, .int .u64 (ke0 : Int), .int .u64 ro0, .slice ao0 n0 cap0] := ⟨_, rfl⟩
  simp only [← hG] at few0
  rw [← hG] at hzw
  rw [← hG]
  clear hG hX0
  go_enter func5, ntmps5
  try simp only [List.append]
  go_wp2_with (first
   | go_skip
   | (with_reducible refine qdz rfl 25 _ rfl G rfl ?_; intro B W1 hN1 hB hk)
   | (with_reducible refine qdz rfl 43 _ rfl C1 rfl ?_; intro Bo W2 hN2 hBo hb8; replace hB := hB.next hb8; replace hk := btz hk hb8; clear hb8)
   | (with_reducible refine qez (by kernel_rfl) 25 _ rfl B rfl G hB _ underlying25 (by kernel_rfl) hzw ?_)
   | (with_reducible refine qez (by kernel_rfl) 43 _ rfl Bo rfl C1 hBo _ underlying43 (by kernel_rfl) (qfz hz1) ?_)
   | (with_reducible refine qbz (by kernel_rfl) _ _ rfl Bo 5 rfl _ _ hBo _ c5 isAgg28 ?_)
   | (go_at_call 6; (with_reducible refine ((few0 _ hk).no hfw).mono ?_); rintro e w3 ⟨rfl, hb8⟩; replace hB := hB.next hb8; replace hBo := hBo.next hb8; replace hk := btz hk hb8; clear hb8)
   | (go_at_call 9; (with_reducible refine (wnz _).mono ?_); rintro e w4 ⟨rfl, hb8⟩; replace hk := btz hk hb8))
  all_goals go_ret
  all_goals exact ⟨rfl, hk⟩
theorem lifted (os : Os) (started : os.Started) (H : Type) (enc : TypeId × Value → H) :
  ReturnsInHanded {} Tryz.checked os 5 .any (Rows.treeHoldsSpec.pre6 enc prog Tryz.f5 Rows.treeHoldsRow.domain false) (Rows.treeHoldsSpec.post enc prog Tryz.f5 false true false false) := by
 refine returnsInHanded_of_change (C := Tryz.checked) own started (by kernel_rfl) func5
  (ChangeSpec.witness6 (enc := enc) (C := Tryz.checked) false ⟨#[], #[.agg #[.int .i64 0, .int .u64 0, .int .u64 0, .slice none 0 0], .agg zC, .int .u64 0, .int .u64 0, .int .i64 0], []⟩ 8 (by kernel_rfl) (by kernel_rfl) (by kernel_rfl) (by kernel_rfl)) ?_
 intro W base args ds gs before hval0 hW hcnd _
 have hval : ∀ (j : Nat) t v, Tryz.f5.params[j]? = some t → args[j]? = some v → Value.okWide prog W .any base t v := hval0
 have hW' := hW
 obtain ⟨p, q, hA0, hV, rfl, hfz, hnd⟩ := hW
 have hA : DataW.TrodAll enc prog W 0 (fun _ => true) true Tryz.f5.params.toList args.toList ds p := hA0
 rw [Tryz.params5] at hA hval
 obtain ⟨v0, vs0, d0, ds0, p0, q0, hargs, rfl, rfl, h0, r0⟩ := trodAll_cons hA
 obtain ⟨v1, vs1, d1, ds1, p1, q1, rfl, rfl, rfl, h1, r1⟩ := trodAll_cons r0
 obtain ⟨v2, vs2, d2, ds2, p2, q2, rfl, rfl, rfl, h2, r2⟩ := trodAll_cons r1
 obtain ⟨v3, vs3, d3, ds3, p3, q3, rfl, rfl, rfl, h3, r3⟩ := trodAll_cons r2
 obtain ⟨v4, vs4, d4, ds4, p4, q4, rfl, rfl, rfl, h4, r4⟩ := trodAll_cons r3
 obtain ⟨rfl, rfl, rfl⟩ := trodAll_nil r4
 obtain rfl : args = #[v0, v1, v2, v3, v4] := by cases args; simp_all
 obtain ⟨rfl, rfl⟩ := trodVars_none hV
 obtain ⟨t0, ke0, ro0, ao0, n0, cap0, X0, rfl, l0⟩ := kyz (hval 0 25 v0 rfl rfl) h0
 have k0 := h0
 have lt0 : ∀ x ∈ p0, x.block < W.heap.size := by obtain ⟨m, hm⟩ := k0; exact DataW.trod_lt m _ _ _ hm
 obtain ⟨C1, x1, rfl, l1⟩ := vAz (hval 1 43 v1 rfl rfl) h1
 have k1 := h1
 have lt1 : ∀ x ∈ p1, x.block < W.heap.size := by obtain ⟨m, hm⟩ := k1; exact DataW.trod_lt m _ _ _ hm
 obtain ⟨a2, rfl, rfl, rfl, w2⟩ := open_int underlying22 (hval 2 22 v2 rfl rfl) h2
 obtain ⟨a3, rfl, rfl, rfl, w3⟩ := open_int underlying22 (hval 3 22 v3 rfl rfl) h3
 obtain ⟨a4, rfl, rfl, rfl, w4⟩ := open_int underlying3 (hval 4 3 v4 rfl rfl) h4
 clear hA0 hval0
 refine (walk t0 ke0 ro0 ao0 n0 cap0 X0 C1 x1 a2 a3 a4 W l0 l1 w2 w3 w4).mono fun e W' ⟨he, bel⟩ => ?_
 subst he
 exact ⟨_, rfl, _, _, _, [], _, [], hW', trodAll_mk1 (shut_bool underlying4 _), (trodAll_cons_mk (Below.trod u4z (by kernel_rfl) (of_decide_eq_true (by kernel_rfl)) k0 bel lt0) (trodAll_cons_mk (Below.trod u4z (by kernel_rfl) (of_decide_eq_true (by kernel_rfl)) k1 bel lt1) (trodAll_cons_mk (shut_int underlying22 w2) (trodAll_cons_mk (shut_int underlying22 w3) (trodAll_cons_mk (shut_int underlying3 w4) trodAll_mk0))))), rfl, bel.frame _, fun h => by cases h⟩
theorem over : Rows.treeHoldsRow.holds Tryz.pinned (OpenSpec.ofChange Rows.treeHoldsSpec) :=
 OpenClaim.holds_of_wide 5 Tryz.f5 rfl rfl rfl rfl rfl rfl rfl ⟨rfl, rfl, rfl, rfl, rfl⟩ rfl rfl rfl rfl rfl (by kernel_rfl) func5 (by kernel_rfl)
  (of_decide_eq_true (by kernel_rfl)) (by unfold Func.isWrapper; first | (rw [if_pos (by decide +kernel)]; kernel_rfl) | (rw [if_neg (by decide +kernel)]; exact ⟨rfl, rfl⟩))
  (fun os started H enc _ => lifted os started H enc)
end treeHolds
theorem treeHolds_holds : Rows.TreeHoldsSaid :=
 treeHolds.over
#print axioms treeHolds_holds
end Go.Proofs.YtklnneiblmakmaaGreat
