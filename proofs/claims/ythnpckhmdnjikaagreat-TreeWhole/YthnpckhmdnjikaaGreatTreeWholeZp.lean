/-
 PROVED HERE: a whole world stays whole behind Attach of a sound object with numbers of its own, behind Link, Fix and Move; beside an error nothing is changed; a link more is told; what is moved can be moved back (TreeWhole), over the landed code. No condition.
-/
import Derived.Test.YthnpckhmdnjikaaGreatRows
import Derived.WalkKit
import Derived.ProofKit
import Derived.OpenShut
import Derived.Below
import Derived.ShutString
import Derived.Deep.QuietTactic
import Derived.Deep.DeepCutAuto
import Derived.Test.YthnpckhmdnjikaaGreatZ8
import Derived.Test.YthnpckhmdnjikaaGreatZ16
import Derived.Test.YthnpckhmdnjikaaGreatZ17
import Derived.Test.YthnpckhmdnjikaaGreatZ19
import Derived.Test.YthnpckhmdnjikaaGreatZ20
set_option maxRecDepth 100000
set_option maxHeartbeats 8000000
set_option linter.unusedVariables false
open Go.Proofs.Tryz
namespace Go.Proofs.YthnpckhmdnjikaaGreat
namespace treeWhole
open Go.ChangeShapes Go.WideShapes Go.ChangeAt Go.RowKit
open Go.ChangeMaps (open_string shut_string)
theorem own : ownKnob prog.godebug = none := by kernel_rfl
theorem walk (t0 : Int) (ke0 : Nat) (ro0 : Int) (ao0 : Option Addr) (n0 cap0 : Nat) (X0 : List Ob) (C1 : Array Value) (x1 : Ob) (a2 : Int) (a3 : Int) (a4 : Int) (w : World) (l0 : Obs w ao0 n0 cap0 X0 ∧ ∀ x ∈ X0, WdO x) (l1 : ObD (LtN w) w C1 x1 ∧ WdO x1) (w2 : (Lit.int .u64 a2).wf = true) (w3 : (Lit.int .u64 a3).wf = true) (w4 : (Lit.int .i64 a4).wf = true) :
  Calls prog 3 #[.agg #[.int .i64 t0, .int .u64 (ke0 : Int), .int .u64 ro0, .slice ao0 n0 cap0], .agg C1, .int .u64 a2, .int .u64 a3, .int .i64 a4] w fun e w' => e = .returned (.bool true) ∧ Below w.heap.size w w' := by
 have hmx : prog.follows .mixedOrders = true := by kernel_rfl
 obtain ⟨l0, hw0⟩ := l0
 obtain ⟨l1, hw1⟩ := l1
 have hn : Hid (X0.length = n0) := l0.1
 have hz1 := l1.size
 have hid1 := l1.id
 obtain ⟨a5, n5, k5, c5, l5⟩ := l1.links
 have hn5 : Hid (x1.links.length = n5) := l5.1
 have hzw : (prog.info? 25).map (·.size) = some (#[.int .i64 t0, .int .u64 (ke0 : Int), .int .u64 ro0, .slice ao0 n0 cap0] : Array Value).size := by kernel_rfl
 have hX0 : Wr w #[.int .i64 t0, .int .u64 (ke0 : Int), .int .u64 ro0, .slice ao0 n0 cap0] t0 (ke0 : Int) ro0 X0 := ⟨_, _, _, rfl, l0⟩
 have few0 := fun (W : World) (hk : Below w.heap.size w W) => bpz (t := t0) (ke := (ke0 : Int)) (ro := ro0) (qvz l0 hk)
 have snd0 := fun (W : World) (hk : Below w.heap.size w W) => k4z (l1.next hk)
 by_cases hfw : bqz X0
 ·have hsm : fitW ⟨t0, ke0, ro0, X0⟩ = true → wez X0 := fun q => uFz hfw q
  have hn16 : X0.length ≤ 16 := hfw.1
  have rf0 := fun (W : World) (hk : Below w.heap.size w W) => gkz (t := t0) (key := ke0) (ro := ro0) (qvz l0 hk) hsm hw0
  cases hbF : fitD t0 ke0 ro0 X0 with
  | false =>
   simp only [hbF] at rf0
   obtain ⟨G, hG⟩ : ∃ G : Array Value, G = #[.int .i64 t0, .int .u64 (ke0 : Int), .int .u64 ro0, .slice ao0 n0 cap0] := ⟨_, rfl⟩
   simp only [← hG] at few0 rf0
   rw [← hG] at hzw
   rw [← hG]
   clear hG hX0
   go_enter func3, ntmps3
   try simp only [List.append]
   go_wp2_with (first
    | go_skip
    | (with_reducible refine qcz rfl 25 _ rfl G rfl ?_; intro B W1 hN1 hB hk)
    | (with_reducible refine qcz rfl 43 _ rfl C1 rfl ?_; intro Bo W2 hN2 hBo hb8; replace hB := hB.next hb8; replace hk := btz hk hb8; clear hb8)
    | (with_reducible refine qdz (by with_unfolding_all rfl) 25 _ rfl B rfl G hB _ underlying25 (by kernel_rfl) hzw ?_)
    | (with_reducible refine qdz (by with_unfolding_all rfl) 43 _ rfl Bo rfl C1 hBo _ underlying43 (by kernel_rfl) (qfz hz1) ?_)
    | (with_reducible refine qaz (by with_unfolding_all rfl) _ _ rfl Bo 5 rfl _ _ hBo _ c5 isAgg28 ?_)
    | (go_at_call 4; (with_reducible refine ((few0 _ hk).yes hfw).mono ?_); rintro e w3 ⟨rfl, hb8⟩; replace hB := hB.next hb8; replace hBo := hBo.next hb8; replace hk := btz hk hb8; clear hb8)
    | (go_at_call 5; (with_reducible refine (rf0 _ hk).mono ?_); rintro e w5 ⟨rfl, hb8⟩; replace hB := hB.next hb8; replace hBo := hBo.next hb8; replace hk := btz hk hb8; clear hb8)
    | (go_at_call 7; (with_reducible refine (wxz _).mono ?_); rintro e w4 ⟨rfl, hb8⟩; replace hk := btz hk hb8))
   all_goals go_ret
   all_goals exact ⟨rfl, hk⟩
  | true =>
   simp only [hbF] at rf0
   have hT := wNz hbF
   have hL := xDz hT
   have hbH : Hid (fitD t0 ke0 ro0 X0 = true) := hbF
   have hl2 : X0.length < 1022 := by omega
   by_cases hso : qKz x1 = true
   ·by_cases hl : 0 < (n5 : Int)
    ·obtain ⟨G, hG⟩ : ∃ G : Array Value, G = #[.int .i64 t0, .int .u64 (ke0 : Int), .int .u64 ro0, .slice ao0 n0 cap0] := ⟨_, rfl⟩
     simp only [← hG] at few0 rf0
     rw [← hG] at hzw
     rw [← hG]
     clear hG hX0
     go_enter func3, ntmps3
     try simp only [List.append]
     go_wp2_with (first
      | go_skip
      | (with_reducible refine qcz rfl 25 _ rfl G rfl ?_; intro B W1 hN1 hB hk)
      | (with_reducible refine qcz rfl 43 _ rfl C1 rfl ?_; intro Bo W2 hN2 hBo hb8; replace hB := hB.next hb8; replace hk := btz hk hb8; clear hb8)
      | (with_reducible refine qdz (by with_unfolding_all rfl) 25 _ rfl B rfl G hB _ underlying25 (by kernel_rfl) hzw ?_)
      | (with_reducible refine qdz (by with_unfolding_all rfl) 43 _ rfl Bo rfl C1 hBo _ underlying43 (by kernel_rfl) (qfz hz1) ?_)
      | (with_reducible refine qaz (by with_unfolding_all rfl) _ _ rfl Bo 5 rfl _ _ hBo _ c5 isAgg28 ?_)
      | (go_at_call 4; (with_reducible refine ((few0 _ hk).yes hfw).mono ?_); rintro e w3 ⟨rfl, hb8⟩; replace hB := hB.next hb8; replace hBo := hBo.next hb8; replace hk := btz hk hb8; clear hb8)
      | (go_at_call 5; (with_reducible refine (rf0 _ hk).mono ?_); rintro e w5 ⟨rfl, hb8⟩; replace hB := hB.next hb8; replace hBo := hBo.next hb8; replace hk := btz hk hb8; clear hb8)
      | (go_at_call 6; (with_reducible refine ((snd0 _ hk).yes hso).mono ?_); rintro e w7 ⟨rfl, hb8⟩; replace hB := hB.next hb8; replace hBo := hBo.next hb8; replace hk := btz hk hb8; clear hb8)
      | (go_at_call 7; (with_reducible refine (wxz _).mono ?_); rintro e w4 ⟨rfl, hb8⟩; replace hk := btz hk hb8))
     all_goals go_ret
     all_goals exact ⟨rfl, hk⟩
    ·have hl0 : decide (0 < (n5 : Int)) = false := decide_eq_false hl
     have hln : x1.links = [] := List.eq_nil_of_length_eq_zero (by rw [hn5.out]; omega)
     have hos := wJz hso
     have hol : x1.label.length < 1048576 := (vbz hso).2
     obtain ⟨G, hG⟩ : ∃ G : Array Value, G = #[.int .i64 t0, .int .u64 (ke0 : Int), .int .u64 ro0, .slice ao0 n0 cap0] := ⟨_, rfl⟩
     simp only [← hG] at few0 rf0
     rw [← hG] at hzw hX0
     rw [← hG]
     clear hG
     have hX := hX0
     clear hX0 hbF
     go_enter func3, ntmps3
     try simp only [List.append]
     go_upto_region 5 with (first
      | go_skip
      | (with_reducible refine qcz rfl 25 _ rfl G rfl ?_; intro B W1 hN1 hB hk)
      | (with_reducible refine qcz rfl 43 _ rfl C1 rfl ?_; intro Bo W2 hN2 hBo hb8; replace hB := hB.next hb8; replace hk := btz hk hb8; clear hb8)
      | (with_reducible refine qdz (by with_unfolding_all rfl) 25 _ rfl B rfl G hB _ underlying25 (by kernel_rfl) hzw ?_)
      | (with_reducible refine qdz (by with_unfolding_all rfl) 43 _ rfl Bo rfl C1 hBo _ underlying43 (by kernel_rfl) (qfz hz1) ?_)
      | (with_reducible refine qaz (by with_unfolding_all rfl) _ _ rfl Bo 5 rfl _ _ hBo _ c5 isAgg28 ?_)
      | (with_reducible refine qaz (by with_unfolding_all rfl) _ _ rfl Bo 0 rfl _ _ hBo _ hid1 isAgg22 ?_)
      | (go_at_call 4; (with_reducible refine ((few0 _ hk).yes hfw).mono ?_); rintro e w3 ⟨rfl, hb8⟩; replace hB := hB.next hb8; replace hBo := hBo.next hb8; replace hk := btz hk hb8; clear hb8)
      | (go_at_call 5; (with_reducible refine (rf0 _ hk).mono ?_); rintro e w5 ⟨rfl, hb8⟩; replace hB := hB.next hb8; replace hBo := hBo.next hb8; replace hk := btz hk hb8; clear hb8)
      | (go_at_call 6; (with_reducible refine ((snd0 _ hk).yes hso).mono ?_); rintro e w7 ⟨rfl, hb8⟩; replace hB := hB.next hb8; replace hBo := hBo.next hb8; replace hk := btz hk hb8; clear hb8)
      | (go_at_call 8; (with_reducible refine (attach_r (hX.next hk) hL hl2 (l1.next hk) hos hol (i := a2)).mono ?_); rintro e v1 ⟨V1, rfl, hV1, hb8⟩; replace hB := hB.next hb8; replace hBo := hBo.next hb8; replace hk := btz hk hb8; clear hb8; have hzV1 := hV1.size; have hoV1 := hV1.one; have hsV1 := hV1.old)
      | ((with_reducible refine qgz rfl 25 rfl zW wlz ?_); have hx := hV1; intro P1 A1 hA1 hP1 hkA1; have hle1 := hA1.out.1; clear hx)
      | ((with_reducible refine qbz rfl _ _ _ rfl P1 rfl V1 rfl zW hP1 hzV1 hsV1 hoV1 ?_); intro S1 hQ1 oS1; have kS1 := oS1.below _ _ (Nat.le_of_eq hle1) hkA1; replace hV1 := hV1.next kS1; clear hP1 hkA1 oS1 hA1; replace hB := hB.next kS1; replace hBo := hBo.next kS1; replace hk := btz hk kS1; clear kS1)
      | (go_at_call 9; (with_reducible refine (rfind_r (hX.next hk) (i := x1.id)).mono ?_); rintro e v2 ⟨C2, rfl, hO2, hb8⟩; replace hB := hB.next hb8; replace hBo := hBo.next hb8; replace hV1 := hV1.next hb8; replace hQ1 := hQ1.next hb8; replace hk := btz hk hb8; clear hb8; have hz2 := hO2.size; have ho2 := hO2.one)
      | ((with_reducible refine qgz rfl 43 rfl zC qwz ?_); have hx := hO2; intro P2 A2 hA2 hP2 hkA2; have hle2 := hA2.out.1; clear hx)
      | ((with_reducible refine qbz rfl _ _ _ rfl P2 rfl C2 rfl zC hP2 (qfz hz2) (qrz.trans hz2.symm) ho2 ?_); intro S2 hQ2 oS2; have kS2 := oS2.below _ _ (Nat.le_of_eq hle2) hkA2; clear hP2 hkA2 oS2 hA2; replace hB := hB.next kS2; replace hBo := hBo.next kS2; replace hV1 := hV1.next kS2; replace hQ1 := hQ1.next kS2; replace hk := btz hk kS2; clear kS2))
     obtain ⟨bf, hbf⟩ : ∃ bf, (fnd X0 x1.id).isSome = bf := ⟨_, rfl⟩
     simp only [hbf]
     go_cut [81] (fun s wc => s = .bool false ∧ Blk wc B G 25 ∧ Below w.heap.size w wc)
     case first =>
      by_cases hE : attE X0 a2 x1 = 0
      ·have hE1 : (attE X0 a2 x1 == 0) = true := by rw [hE]; rfl
       have hE2 : (attE X0 a2 x1 != 0) = false := by rw [hE]; rfl
       have hf : bf = false := by rw [← hbf, (jXz hE).2.2.1]; rfl
       subst hf
       cases hoD : ownD ke0 X0 x1 with
       | true =>
        have hfd := att_fit hbH.out (by omega) hso hln hoD hE
        have hwd := wd_att (i := a2) hw0 hw1
        clear hE
        go_wp2_with (first
         | go_skip
         | (with_reducible refine qdz (by with_unfolding_all rfl) 25 _ rfl P1 rfl V1 hQ1 _ underlying25 (by kernel_rfl) hzV1 ?_)
         | (with_reducible refine qdz (by with_unfolding_all rfl) 25 _ rfl B rfl G hB _ underlying25 (by kernel_rfl) hzw ?_)
         | (with_reducible refine qdz (by with_unfolding_all rfl) 43 _ rfl Bo rfl C1 hBo _ underlying43 (by kernel_rfl) (qfz hz1) ?_)
         | (go_at_call 10; (with_reducible refine (rown_r (hX.next hk) hw0 (l1.next hk) hw1).mono ?_); rintro e o3 ⟨rfl, hb8⟩; try rw [hoD]; replace hB := hB.next hb8; replace hBo := hBo.next hb8; replace hV1 := hV1.next hb8; replace hQ1 := hQ1.next hb8; replace hk := btz hk hb8; clear hb8)
         | (go_at_call 5; (with_reducible refine (yBz hV1 hfd hwd).mono ?_); rintro e f1 ⟨rfl, hb8⟩; replace hB := hB.next hb8; replace hBo := hBo.next hb8; replace hV1 := hV1.next hb8; replace hQ1 := hQ1.next hb8; replace hk := btz hk hb8; clear hb8))
        go_meet
        case rel => exact ⟨rfl, hB, hk⟩
       | false =>
        clear hE
        go_wp2_with (first
         | go_skip
         | (with_reducible refine qdz (by with_unfolding_all rfl) 25 _ rfl P1 rfl V1 hQ1 _ underlying25 (by kernel_rfl) hzV1 ?_)
         | (with_reducible refine qdz (by with_unfolding_all rfl) 25 _ rfl B rfl G hB _ underlying25 (by kernel_rfl) hzw ?_)
         | (with_reducible refine qdz (by with_unfolding_all rfl) 43 _ rfl Bo rfl C1 hBo _ underlying43 (by kernel_rfl) (qfz hz1) ?_)
         | (go_at_call 10; (with_reducible refine (rown_r (hX.next hk) hw0 (l1.next hk) hw1).mono ?_); rintro e o3 ⟨rfl, hb8⟩; rw [hoD]; replace hB := hB.next hb8; replace hBo := hBo.next hb8; replace hV1 := hV1.next hb8; replace hQ1 := hQ1.next hb8; replace hk := btz hk hb8; clear hb8))
        go_meet
        case rel => exact ⟨rfl, hB, hk⟩
      ·have hE1 : (attE X0 a2 x1 == 0) = false := by simpa using hE
       have hE2 : (attE X0 a2 x1 != 0) = true := by simpa using hE
       have hxx := att_err hE
       clear hE
       go_wp2_with (first
        | go_skip
        | (with_reducible refine qdz (by with_unfolding_all rfl) 25 _ rfl P1 rfl V1 hQ1 _ underlying25 (by kernel_rfl) hzV1 ?_)
        | (with_reducible refine qdz (by with_unfolding_all rfl) 25 _ rfl B rfl G hB _ underlying25 (by kernel_rfl) hzw ?_)
        | (go_at_call 11; (with_reducible refine (kzz hV1 (hX.next hk) (hxx)).mono ?_); rintro e s1 ⟨rfl, hb8⟩; replace hB := hB.next hb8; replace hBo := hBo.next hb8; replace hV1 := hV1.next hb8; replace hQ1 := hQ1.next hb8; replace hk := btz hk hb8; clear hb8))
       go_meet
       case rel => exact ⟨rfl, hB, hk⟩
     case rest =>
      obtain ⟨rfl, hB, hk⟩ := hcut
      go_upto_region 10 with (first
       | go_skip
       | (with_reducible refine qdz (by with_unfolding_all rfl) 25 _ rfl B rfl G hB _ underlying25 (by kernel_rfl) hzw ?_)
       | (go_at_call 12; (with_reducible refine (link_r (hX.next hk) hL hl2 (i := a2) (j := a3)).mono ?_); rintro e v3 ⟨V3, rfl, hV3, hb8⟩; replace hB := hB.next hb8; replace hk := btz hk hb8; clear hb8; have hzV3 := hV3.size; have hoV3 := hV3.one; have hsV3 := hV3.old; have tk3 : True := trivial)
       | ((with_reducible refine qgz rfl 25 rfl zW wlz ?_); have hx := tk3; intro P3 A3 hA3 hP3 hkA3; have hle3 := hA3.out.1; clear hx tk3)
       | ((with_reducible refine qbz rfl _ _ _ rfl P3 rfl V3 rfl zW hP3 hzV3 hsV3 hoV3 ?_); intro S3 hQ3 oS3; have kS3 := oS3.below _ _ (Nat.le_of_eq hle3) hkA3; replace hV3 := hV3.next kS3; clear hP3 hkA3 oS3 hA3; replace hB := hB.next kS3; replace hk := btz hk kS3; clear kS3)
       | (go_at_call 13; (with_reducible refine (fix_r (hX.next hk) hL hl2 (i := a3)).mono ?_); rintro e v4 ⟨V4, rfl, hV4, hb8⟩; replace hB := hB.next hb8; replace hV3 := hV3.next hb8; replace hQ3 := hQ3.next hb8; replace hk := btz hk hb8; clear hb8; have hzV4 := hV4.size; have hoV4 := hV4.one; have hsV4 := hV4.old; have tk4 : True := trivial)
       | ((with_reducible refine qgz rfl 25 rfl zW wlz ?_); have hx := tk4; intro P4 A4 hA4 hP4 hkA4; have hle4 := hA4.out.1; clear hx tk4)
       | ((with_reducible refine qbz rfl _ _ _ rfl P4 rfl V4 rfl zW hP4 hzV4 hsV4 hoV4 ?_); intro S4 hQ4 oS4; have kS4 := oS4.below _ _ (Nat.le_of_eq hle4) hkA4; replace hV4 := hV4.next kS4; clear hP4 hkA4 oS4 hA4; replace hB := hB.next kS4; replace hV3 := hV3.next kS4; replace hQ3 := hQ3.next kS4; replace hk := btz hk kS4; clear kS4)
       | (go_at_call 14; (with_reducible refine (gOz (hX.next hk) hL hl2 (i := a2) (j := a3) (m := a4)).mono ?_); rintro e v5 ⟨V5, rfl, hV5, hb8⟩; replace hB := hB.next hb8; replace hV3 := hV3.next hb8; replace hQ3 := hQ3.next hb8; replace hV4 := hV4.next hb8; replace hQ4 := hQ4.next hb8; replace hk := btz hk hb8; clear hb8; have hzV5 := hV5.size; have hoV5 := hV5.one; have hsV5 := hV5.old; have tk5 : True := trivial)
       | ((with_reducible refine qgz rfl 25 rfl zW wlz ?_); have hx := tk5; intro P5 A5 hA5 hP5 hkA5; have hle5 := hA5.out.1; clear hx tk5)
       | ((with_reducible refine qbz rfl _ _ _ rfl P5 rfl V5 rfl zW hP5 hzV5 hsV5 hoV5 ?_); intro S5 hQ5 oS5; have kS5 := oS5.below _ _ (Nat.le_of_eq hle5) hkA5; replace hV5 := hV5.next kS5; clear hP5 hkA5 oS5 hA5; replace hB := hB.next kS5; replace hV3 := hV3.next kS5; replace hQ3 := hQ3.next kS5; replace hV4 := hV4.next kS5; replace hQ4 := hQ4.next kS5; replace hk := btz hk kS5; clear kS5))
      go_cut [130] (fun s wc => s = .bool false ∧ Blk wc B G 25 ∧ Wr wc V3 t0 (ke0 : Int) ro0 (linX X0 a2 a3) ∧ Blk wc P3 V3 25 ∧ Wr wc V4 t0 (ke0 : Int) ro0 (fixX X0 a3) ∧ Blk wc P4 V4 25 ∧ Wr wc V5 t0 (ke0 : Int) ro0 (movX X0 a2 a3 a4) ∧ Blk wc P5 V5 25 ∧ Below w.heap.size w wc)
      case first =>
       cases hb2 : (linE X0 a2 a3 != 0) <;> cases hb3 : (fixE X0 a3 != 0) <;> cases hb4 : (movE X0 a2 a3 a4 != 0)
       all_goals
        go_wp2_with (first
         | go_skip
         | (with_reducible refine qdz (by with_unfolding_all rfl) 25 _ rfl P3 rfl V3 hQ3 _ underlying25 (by kernel_rfl) hzV3 ?_)
         | (with_reducible refine qdz (by with_unfolding_all rfl) 25 _ rfl P4 rfl V4 hQ4 _ underlying25 (by kernel_rfl) hzV4 ?_)
         | (with_reducible refine qdz (by with_unfolding_all rfl) 25 _ rfl P5 rfl V5 hQ5 _ underlying25 (by kernel_rfl) hzV5 ?_)
         | (with_reducible refine qdz (by with_unfolding_all rfl) 25 _ rfl B rfl G hB _ underlying25 (by kernel_rfl) hzw ?_)
         | (go_at_call 11; (with_reducible refine (kzz hV3 (hX.next hk) (lin_err (bne_iff_ne.1 hb2))).mono ?_); rintro e s3 ⟨rfl, hb8⟩; replace hB := hB.next hb8; replace hV3 := hV3.next hb8; replace hQ3 := hQ3.next hb8; replace hV4 := hV4.next hb8; replace hQ4 := hQ4.next hb8; replace hV5 := hV5.next hb8; replace hQ5 := hQ5.next hb8; replace hk := btz hk hb8; clear hb8)
         | (go_at_call 11; (with_reducible refine (kzz hV4 (hX.next hk) (fix_err (bne_iff_ne.1 hb3))).mono ?_); rintro e s4 ⟨rfl, hb8⟩; replace hB := hB.next hb8; replace hV3 := hV3.next hb8; replace hQ3 := hQ3.next hb8; replace hV4 := hV4.next hb8; replace hQ4 := hQ4.next hb8; replace hV5 := hV5.next hb8; replace hQ5 := hQ5.next hb8; replace hk := btz hk hb8; clear hb8)
         | (go_at_call 11; (with_reducible refine (kzz hV5 (hX.next hk) (mov_err (bne_iff_ne.1 hb4))).mono ?_); rintro e s5 ⟨rfl, hb8⟩; replace hB := hB.next hb8; replace hV3 := hV3.next hb8; replace hQ3 := hQ3.next hb8; replace hV4 := hV4.next hb8; replace hQ4 := hQ4.next hb8; replace hV5 := hV5.next hb8; replace hQ5 := hQ5.next hb8; replace hk := btz hk hb8; clear hb8))
        go_meet
        case rel => exact ⟨rfl, hB, hV3, hQ3, hV4, hQ4, hV5, hQ5, hk⟩
      case rest =>
       obtain ⟨rfl, hB, hV3, hQ3, hV4, hQ4, hV5, hQ5, hk⟩ := hcut
       go_upto_region 14 with (first
        | go_skip
        | (with_reducible refine qdz (by with_unfolding_all rfl) 25 _ rfl P3 rfl V3 hQ3 _ underlying25 (by kernel_rfl) hzV3 ?_)
        | (with_reducible refine qdz (by with_unfolding_all rfl) 25 _ rfl P4 rfl V4 hQ4 _ underlying25 (by kernel_rfl) hzV4 ?_)
        | (with_reducible refine qdz (by with_unfolding_all rfl) 25 _ rfl P5 rfl V5 hQ5 _ underlying25 (by kernel_rfl) hzV5 ?_)
        | (go_at_call 5; (with_reducible refine (yBz hV3 (lin_fit hbH.out) (wd_lin hw0)).mono ?_); rintro e f3 ⟨rfl, hb8⟩; replace hB := hB.next hb8; replace hV3 := hV3.next hb8; replace hQ3 := hQ3.next hb8; replace hV4 := hV4.next hb8; replace hQ4 := hQ4.next hb8; replace hV5 := hV5.next hb8; replace hQ5 := hQ5.next hb8; replace hk := btz hk hb8; clear hb8)
        | (go_at_call 5; (with_reducible refine (yBz hV4 (fix_fit hbH.out) (wd_fix hw0)).mono ?_); rintro e f4 ⟨rfl, hb8⟩; replace hB := hB.next hb8; replace hV3 := hV3.next hb8; replace hQ3 := hQ3.next hb8; replace hV4 := hV4.next hb8; replace hQ4 := hQ4.next hb8; replace hV5 := hV5.next hb8; replace hQ5 := hQ5.next hb8; replace hk := btz hk hb8; clear hb8)
        | (go_at_call 5; (with_reducible refine (yBz hV5 (v9z hbH.out) (wd_mov hw0)).mono ?_); rintro e f5 ⟨rfl, hb8⟩; replace hB := hB.next hb8; replace hV3 := hV3.next hb8; replace hQ3 := hQ3.next hb8; replace hV4 := hV4.next hb8; replace hQ4 := hQ4.next hb8; replace hV5 := hV5.next hb8; replace hQ5 := hQ5.next hb8; replace hk := btz hk hb8; clear hb8))
       go_cut [157] (fun s wc => s = .bool false ∧ Blk wc B G 25 ∧ Wr wc V5 t0 (ke0 : Int) ro0 (movX X0 a2 a3 a4) ∧ Blk wc P5 V5 25 ∧ Below w.heap.size w wc)
       case first =>
        by_cases hE : linE X0 a2 a3 = 0
        ·have hll := gWz hbH.out hE
         have hl3 : (linX X0 a2 a3).length ≤ 4096 := by have := (gXz hT hE).len; omega
         have hh3 := fun {W : World} (h : Wr W V3 t0 (ke0 : Int) ro0 (linX X0 a2 a3)) => vAz h hl3 (i := a3)
         have hh0 := fun {W : World} (h : Wr W G t0 (ke0 : Int) ro0 X0) => vAz h (show X0.length ≤ 4096 by omega) (i := a3)
         rw [hll] at hh3
         have hmb : (holL X0 a3).length ≤ X0.length := by unfold holL; rw [List.length_map]; exact List.length_filter_le ..
         obtain ⟨m0, hm0⟩ : ∃ m0, (holL X0 a3).length = m0 := ⟨_, rfl⟩
         rw [hm0] at hh3 hmb
         rw [hm0] at hh0
         have hmw : IntKind.i64.wrap ((m0 : Int) + 1) = ((m0 + 1 : Nat) : Int) := by rw [IntKind.wrap_i64]; omega
         have hmq : Hid (¬ ¬ ((m0 + 1 : Nat) : Int) = ((m0 + 1 : Nat) : Int)) := fun q => q rfl
         clear hll
         refine PgM.region_out (S := fun W => Below f5.heap.size f5 W) hmx ((brz _ _).drew) (fun hS => ?_)
         generalize f5.drew = yw0 at hS ⊢
         refine quz (by kernel_rfl) (fun _ _ _ _ _ h => h) hS [(0, none), (1, some (.bool true)), (2, none), (3, some (.agg V3)), (4, none), (7, some (.agg G)), (8, none)] (obs := [.test .eql 47 (.tmp 144) (.const (.int .i64 0)) (.int .i64 (linE X0 a2 a3)) (.int .i64 0) (.bool true), .load 25 P3 0 (.agg V3), .load 25 B 0 (.agg G)]) (n := 7) (by kernel_rfl) (by kernel_rfl) ⟨qFz (fun _ => qsz _ _ _ _ _ _) hE, qHz (fun _ h => hQ3.next h) underlying25 (by kernel_rfl) hzV3, qHz (fun _ h => hB.next h) underlying25 (by kernel_rfl) hzw, trivial⟩ ?_
         refine qoz (i := 5) (fuel := 6) (f := 15) (vs := [.agg V3, .int .u64 a3]) (d := some 149) (by kernel_rfl) (by kernel_rfl) (by kernel_rfl) call15 (hh3 (hV3.next hS)) ?_
         rintro e yw1 ⟨ah, ch, rfl, hc1, hbx1⟩
         have hSx1 : Below f5.heap.size f5 yw1 := btz hS hbx1
         refine ⟨_, rfl, hSx1, ?_⟩
         refine quz (by kernel_rfl) (fun _ _ _ _ _ h => h) hSx1 [(6, some (.int .i64 ((m0 + 1 : Nat) : Int)))] (obs := [.ln 28 3 (.slice ah (m0 + 1) ch) (.int .i64 ((m0 + 1 : Nat) : Int))]) (n := 5) (by kernel_rfl) (by kernel_rfl) ⟨wAz, trivial⟩ ?_
         refine qoz (i := 9) (fuel := 4) (f := 15) (vs := [.agg G, .int .u64 a3]) (d := some 153) (by kernel_rfl) (by kernel_rfl) (by kernel_rfl) call15 (hh0 (hX.next (btz hk hSx1))) ?_
         rintro e yw2 ⟨ai, ci, rfl, hc2, hbx2⟩
         have hSx2 : Below f5.heap.size f5 yw2 := btz hSx1 hbx2
         refine ⟨_, rfl, hSx2, ?_⟩
         refine qlz (by kernel_rfl) (fun _ _ _ _ _ h => h) hSx2 [(10, some (.int .i64 (m0 : Int))), (11, some (.int .i64 ((m0 + 1 : Nat) : Int))), (12, some (.bool false)), (13, none)] (l' := #[tt, tt, tt, tt, tt, tt, tt, tt, tt, tt, tt, tt, tt, tt]) (a' := { tmps := #[.agg G, .agg C1, .int .u64 a2, .int .u64 a3, .int .i64 a4, .pointer (some ⟨B, 0, none⟩), .pointer (some ⟨Bo, 0, none⟩), ud, ud, undef, .bool false, .pointer (some ⟨P1, 0, none⟩), .int .i64 (attE X0 a2 x1), u13, .bool bf, .pointer (some ⟨P3, 0, none⟩), .int .i64 (linE X0 a2 a3), .pointer (some ⟨P4, 0, none⟩), .int .i64 (fixE X0 a3), .pointer (some ⟨P5, 0, none⟩), .int .i64 (movE X0 a2 a3 a4), ud, undef, u23, u24, u25, u26, u27, u28, u29, u30, u31, u32, u33, u34, u35, u36, u37, u38, u39, u40, u41, u42, u43, u44, u45, u46, u47, u48, u49, u50, u51, u52, u53, u54, u55, u56, u57, u58, u59, u60, u61, u62, u63, u64, u65, u66, u67, u68, u69, u70, u71, u72, u73, u74, u75, u76, u77, u78, u79, u80, u81, u82, u83, u84, u85, u86, u87, u88, u89, u90, u91, u92, u93, u94, u95, u96, u97, u98, u99, u100, u101, u102, u103, u104, u105, u106, u107, u108, u109, u110, u111, u112, u113, u114, u115, u116, u117, u118, u119, u120, u121, u122, u123, u124, u125, u126, u127, u128, u129, .bool false, .agg V3, .bool true, .bool false, .bool false, .agg V4, .bool true, .bool false, .bool false, .bool false, .agg V5, .bool true, .bool false, .bool false, .int .i64 (linE X0 a2 a3), .bool true, .bool true, .agg V3, .int .u64 a3, .slice ah (m0 + 1) ch, .int .i64 ((m0 + 1 : Nat) : Int), .agg G, .int .u64 a3, .slice ai m0 ci, .int .i64 (m0 : Int), .int .i64 ((m0 + 1 : Nat) : Int), .bool false, .bool false, u158, u159, u160, u161, u162, u163, u164, u165, u166, u167, u168, u169, u170, u171, u172, u173, u174, u175, u176, u177, u178, u179, u180], defers := [] }) (obs := [.ln 28 3 (.slice ai m0 ci) (.int .i64 (m0 : Int)), .test .add 3 (.tmp 154) (.const (.int .i64 1)) (.int .i64 (m0 : Int)) (.int .i64 1) (.int .i64 ((m0 + 1 : Nat) : Int)), .test .neq 3 (.tmp 150) (.tmp 155) (.int .i64 ((m0 + 1 : Nat) : Int)) (.int .i64 ((m0 + 1 : Nat) : Int)) (.bool false)]) (n := 0) (by kernel_rfl) (by kernel_rfl) ⟨wAz, add_any hmw, qWz (fun _ => wjz _ _ _ _ _ _) hmq, trivial⟩ ?_
         refine wpAnyH_done (by kernel_rfl) ?_ _
         replace hB := hB.next hSx2
         replace hV3 := hV3.next hSx2
         replace hQ3 := hQ3.next hSx2
         replace hV4 := hV4.next hSx2
         replace hQ4 := hQ4.next hSx2
         replace hV5 := hV5.next hSx2
         replace hQ5 := hQ5.next hSx2
         replace hk := btz hk hSx2
         clear hE
         go_wp2_with (first | go_skip)
         go_meet
         case rel => exact ⟨rfl, hB, hV5, hQ5, hk⟩
        ·refine PgM.region_out (S := fun W => Below f5.heap.size f5 W) hmx ((brz _ _).drew) (fun hS => ?_)
         generalize f5.drew = yw0 at hS ⊢
         refine qlz (by kernel_rfl) (fun _ _ _ _ _ h => h) hS [(0, none), (1, some (.bool false)), (2, none), (3, none), (4, none), (5, none), (6, none), (7, none), (8, none), (9, none), (10, none), (11, none), (12, none), (13, none)] (l' := #[tt, tt, tt, tt, tt, tt, tt, tt, tt, tt, tt, tt, tt, tt]) (a' := { tmps := #[.agg G, .agg C1, .int .u64 a2, .int .u64 a3, .int .i64 a4, .pointer (some ⟨B, 0, none⟩), .pointer (some ⟨Bo, 0, none⟩), ud, ud, undef, .bool false, .pointer (some ⟨P1, 0, none⟩), .int .i64 (attE X0 a2 x1), u13, .bool bf, .pointer (some ⟨P3, 0, none⟩), .int .i64 (linE X0 a2 a3), .pointer (some ⟨P4, 0, none⟩), .int .i64 (fixE X0 a3), .pointer (some ⟨P5, 0, none⟩), .int .i64 (movE X0 a2 a3 a4), ud, undef, u23, u24, u25, u26, u27, u28, u29, u30, u31, u32, u33, u34, u35, u36, u37, u38, u39, u40, u41, u42, u43, u44, u45, u46, u47, u48, u49, u50, u51, u52, u53, u54, u55, u56, u57, u58, u59, u60, u61, u62, u63, u64, u65, u66, u67, u68, u69, u70, u71, u72, u73, u74, u75, u76, u77, u78, u79, u80, u81, u82, u83, u84, u85, u86, u87, u88, u89, u90, u91, u92, u93, u94, u95, u96, u97, u98, u99, u100, u101, u102, u103, u104, u105, u106, u107, u108, u109, u110, u111, u112, u113, u114, u115, u116, u117, u118, u119, u120, u121, u122, u123, u124, u125, u126, u127, u128, u129, .bool false, .agg V3, .bool true, .bool false, .bool false, .agg V4, .bool true, .bool false, .bool false, .bool false, .agg V5, .bool true, .bool false, .bool false, .int .i64 (linE X0 a2 a3), .bool false, .bool false, ud, ud, ud, ud, ud, ud, ud, ud, ud, undef, .bool false, u158, u159, u160, u161, u162, u163, u164, u165, u166, u167, u168, u169, u170, u171, u172, u173, u174, u175, u176, u177, u178, u179, u180], defers := [] }) (obs := [.test .eql 47 (.tmp 144) (.const (.int .i64 0)) (.int .i64 (linE X0 a2 a3)) (.int .i64 0) (.bool false)]) (n := 0) (by kernel_rfl) (by kernel_rfl) ⟨qWz (fun _ => qsz _ _ _ _ _ _) hE, trivial⟩ ?_
         refine wpAnyH_done (by kernel_rfl) ?_ _
         replace hB := hB.next hS
         replace hV3 := hV3.next hS
         replace hQ3 := hQ3.next hS
         replace hV4 := hV4.next hS
         replace hQ4 := hQ4.next hS
         replace hV5 := hV5.next hS
         replace hQ5 := hQ5.next hS
         replace hk := btz hk hS
         clear hE
         go_wp2_with (first | go_skip)
         go_meet
         case rel => exact ⟨rfl, hB, hV5, hQ5, hk⟩
       case rest =>
        obtain ⟨rfl, hB, hV5, hQ5, hk⟩ := hcut
        have hLm := xDz (wNz (v9z (i := a2) (j := a3) (m := a4) hbH.out))
        have hlm2 : (movX X0 a2 a3 a4).length < 1022 := by rw [mov_len hT.srt]; exact hl2
        by_cases hE : movE X0 a2 a3 a4 = 0
        ·have hE1 : (movE X0 a2 a3 a4 == 0) = true := by rw [hE]; rfl
         have hE2 : (movE X0 a2 a3 a4 != 0) = false := by rw [hE]; rfl
         have hzr := xIz hE
         have hwr : IntKind.i64.wrap (-a4) = -a4 := by rw [IntKind.wrap_i64]; omega
         have hbk := mov_back hbH.out hE
         have hmv := fun {W : World} (h : Wr W V5 t0 (ke0 : Int) ro0 (movX X0 a2 a3 a4)) => gOz h hLm hlm2 (i := a2) (j := a3) (m := -a4)
         rw [hbk.1, hbk.2] at hmv
         clear hE hzr hbk
         go_wp2_with (first
          | go_skip
          | (with_reducible refine qdz (by with_unfolding_all rfl) 25 _ rfl P5 rfl V5 hQ5 _ underlying25 (by kernel_rfl) hzV5 ?_)
          | (go_at_call 14; (with_reducible refine (hmv hV5).mono ?_); rintro e v6 ⟨V6, rfl, hV6, hb8⟩; replace hB := hB.next hb8; replace hV5 := hV5.next hb8; replace hQ5 := hQ5.next hb8; replace hk := btz hk hb8; clear hb8; have hzV6 := hV6.size; have hoV6 := hV6.one; have hsV6 := hV6.old)
          | ((with_reducible refine qgz rfl 25 rfl zW wlz ?_); have hx := hV6; intro P6 A6 hA6 hP6 hkA6; have hle6 := hA6.out.1; clear hx)
          | ((with_reducible refine qbz rfl _ _ _ rfl P6 rfl V6 rfl zW hP6 hzV6 hsV6 hoV6 ?_); intro S6 hQ6 oS6; have kS6 := oS6.below _ _ (Nat.le_of_eq hle6) hkA6; replace hV6 := hV6.next kS6; clear hP6 hkA6 oS6 hA6; replace hB := hB.next kS6; replace hV5 := hV5.next kS6; replace hQ5 := hQ5.next kS6; replace hk := btz hk kS6; clear kS6)
          | (with_reducible refine qdz (by with_unfolding_all rfl) 25 _ rfl P6 rfl V6 hQ6 _ underlying25 (by kernel_rfl) hzV6 ?_)
          | (with_reducible refine qdz (by with_unfolding_all rfl) 25 _ rfl B rfl G hB _ underlying25 (by kernel_rfl) hzw ?_)
          | (go_at_call 11; (with_reducible refine (kzz hV6 (hX.next hk) rfl).mono ?_); rintro e s6 ⟨rfl, hb8⟩; replace hB := hB.next hb8; replace hk := btz hk hb8; clear hb8)
          | (go_at_call 7; (with_reducible refine (wxz _).mono ?_); rintro e w4 ⟨rfl, hb8⟩; replace hk := btz hk hb8))
         all_goals go_ret
         all_goals exact ⟨rfl, hk⟩
        ·have hE1 : (movE X0 a2 a3 a4 == 0) = false := by simpa using hE
         have hE2 : (movE X0 a2 a3 a4 != 0) = true := by simpa using hE
         have hmv := fun {W : World} {m : Int} (h : Wr W V5 t0 (ke0 : Int) ro0 (movX X0 a2 a3 a4)) => gOz h hLm hlm2 (i := a2) (j := a3) (m := m)
         clear hE
         go_wp2_with (first
          | go_skip
          | (with_reducible refine qdz (by with_unfolding_all rfl) 25 _ rfl P5 rfl V5 hQ5 _ underlying25 (by kernel_rfl) hzV5 ?_)
          | (go_at_call 14; (with_reducible refine (hmv hV5).mono ?_); rintro e v6 ⟨V6, rfl, hV6, hb8⟩; replace hB := hB.next hb8; replace hV5 := hV5.next hb8; replace hQ5 := hQ5.next hb8; replace hk := btz hk hb8; clear hb8; have hzV6 := hV6.size; have hoV6 := hV6.one; have hsV6 := hV6.old)
          | ((with_reducible refine qgz rfl 25 rfl zW wlz ?_); have hx := hV6; intro P6 A6 hA6 hP6 hkA6; have hle6 := hA6.out.1; clear hx)
          | ((with_reducible refine qbz rfl _ _ _ rfl P6 rfl V6 rfl zW hP6 hzV6 hsV6 hoV6 ?_); intro S6 hQ6 oS6; have kS6 := oS6.below _ _ (Nat.le_of_eq hle6) hkA6; replace hV6 := hV6.next kS6; clear hP6 hkA6 oS6 hA6; replace hB := hB.next kS6; replace hV5 := hV5.next kS6; replace hQ5 := hQ5.next kS6; replace hk := btz hk kS6; clear kS6)
          | (go_at_call 7; (with_reducible refine (wxz _).mono ?_); rintro e w4 ⟨rfl, hb8⟩; replace hk := btz hk hb8))
         all_goals go_ret
         all_goals exact ⟨rfl, hk⟩
   ·obtain ⟨G, hG⟩ : ∃ G : Array Value, G = #[.int .i64 t0, .int .u64 (ke0 : Int), .int .u64 ro0, .slice ao0 n0 cap0] := ⟨_, rfl⟩
    simp only [← hG] at few0 rf0
    rw [← hG] at hzw
    rw [← hG]
    clear hG hX0
    go_enter func3, ntmps3
    try simp only [List.append]
    go_wp2_with (first
     | go_skip
     | (with_reducible refine qcz rfl 25 _ rfl G rfl ?_; intro B W1 hN1 hB hk)
     | (with_reducible refine qcz rfl 43 _ rfl C1 rfl ?_; intro Bo W2 hN2 hBo hb8; replace hB := hB.next hb8; replace hk := btz hk hb8; clear hb8)
     | (with_reducible refine qdz (by with_unfolding_all rfl) 25 _ rfl B rfl G hB _ underlying25 (by kernel_rfl) hzw ?_)
     | (with_reducible refine qdz (by with_unfolding_all rfl) 43 _ rfl Bo rfl C1 hBo _ underlying43 (by kernel_rfl) (qfz hz1) ?_)
     | (with_reducible refine qaz (by with_unfolding_all rfl) _ _ rfl Bo 5 rfl _ _ hBo _ c5 isAgg28 ?_)
     | (go_at_call 4; (with_reducible refine ((few0 _ hk).yes hfw).mono ?_); rintro e w3 ⟨rfl, hb8⟩; replace hB := hB.next hb8; replace hBo := hBo.next hb8; replace hk := btz hk hb8; clear hb8)
     | (go_at_call 5; (with_reducible refine (rf0 _ hk).mono ?_); rintro e w5 ⟨rfl, hb8⟩; replace hB := hB.next hb8; replace hBo := hBo.next hb8; replace hk := btz hk hb8; clear hb8)
     | (go_at_call 6; (with_reducible refine ((snd0 _ hk).no hso).mono ?_); rintro e w7 ⟨rfl, hb8⟩; replace hB := hB.next hb8; replace hBo := hBo.next hb8; replace hk := btz hk hb8; clear hb8)
     | (go_at_call 7; (with_reducible refine (wxz _).mono ?_); rintro e w4 ⟨rfl, hb8⟩; replace hk := btz hk hb8))
    all_goals go_ret
    all_goals exact ⟨rfl, hk⟩
 ·obtain ⟨G, hG⟩ : ∃ G : Array Value, G = #[.int .i64 t0, .int .u64 (ke0 : Int), .int .u64 ro0, .slice ao0 n0 cap0] := ⟨_, rfl⟩
  simp only [← hG] at few0
  rw [← hG] at hzw
  rw [← hG]
  clear hG hX0
  go_enter func3, ntmps3
  try simp only [List.append]
  go_wp2_with (first
   | go_skip
   | (with_reducible refine qcz rfl 25 _ rfl G rfl ?_; intro B W1 hN1 hB hk)
   | (with_reducible refine qcz rfl 43 _ rfl C1 rfl ?_; intro Bo W2 hN2 hBo hb8; replace hB := hB.next hb8; replace hk := btz hk hb8; clear hb8)
   | (with_reducible refine qdz (by with_unfolding_all rfl) 25 _ rfl B rfl G hB _ underlying25 (by kernel_rfl) hzw ?_)
   | (with_reducible refine qdz (by with_unfolding_all rfl) 43 _ rfl Bo rfl C1 hBo _ underlying43 (by kernel_rfl) (qfz hz1) ?_)
   | (with_reducible refine qaz (by with_unfolding_all rfl) _ _ rfl Bo 5 rfl _ _ hBo _ c5 isAgg28 ?_)
   | (go_at_call 4; (with_reducible refine ((few0 _ hk).no hfw).mono ?_); rintro e w3 ⟨rfl, hb8⟩; replace hB := hB.next hb8; replace hBo := hBo.next hb8; replace hk := btz hk hb8; clear hb8)
   | (go_at_call 7; (with_reducible refine (wxz _).mono ?_); rintro e w4 ⟨rfl, hb8⟩; replace hk := btz hk hb8))
  all_goals go_ret
  all_goals exact ⟨rfl, hk⟩
theorem lifted (os : Os) (started : os.Started) (H : Type) (enc : TypeId × Value → H) :
  ReturnsInHanded {} Tryz.checked os 3 .any (Rows.treeWholeSpec.pre6 enc prog Tryz.f3 Rows.treeWholeRow.domain false) (Rows.treeWholeSpec.post enc prog Tryz.f3 false true false false) := by
 refine returnsInHanded_of_change (C := Tryz.checked) own started (by kernel_rfl) func3
  (ChangeSpec.witness6 (enc := enc) (C := Tryz.checked) false ⟨#[], #[.agg #[.int .i64 0, .int .u64 0, .int .u64 0, .slice none 0 0], .agg zC, .int .u64 0, .int .u64 0, .int .i64 0], []⟩ 8 (by kernel_rfl) (by kernel_rfl) (by kernel_rfl) (by kernel_rfl)) ?_
 intro W base args ds gs before hval0 hW hcnd _
 have hval : ∀ (j : Nat) t v, Tryz.f3.params[j]? = some t → args[j]? = some v → Value.okWide prog W .any base t v := hval0
 have hW' := hW
 obtain ⟨p, q, hA0, hV, rfl, hfz, hnd⟩ := hW
 have hA : DataW.TrodAll enc prog W 0 (fun _ => true) true Tryz.f3.params.toList args.toList ds p := hA0
 rw [Tryz.params3] at hA hval
 obtain ⟨v0, vs0, d0, ds0, p0, q0, hargs, rfl, rfl, h0, r0⟩ := trodAll_cons hA
 obtain ⟨v1, vs1, d1, ds1, p1, q1, rfl, rfl, rfl, h1, r1⟩ := trodAll_cons r0
 obtain ⟨v2, vs2, d2, ds2, p2, q2, rfl, rfl, rfl, h2, r2⟩ := trodAll_cons r1
 obtain ⟨v3, vs3, d3, ds3, p3, q3, rfl, rfl, rfl, h3, r3⟩ := trodAll_cons r2
 obtain ⟨v4, vs4, d4, ds4, p4, q4, rfl, rfl, rfl, h4, r4⟩ := trodAll_cons r3
 obtain ⟨rfl, rfl, rfl⟩ := trodAll_nil r4
 obtain rfl : args = #[v0, v1, v2, v3, v4] := by cases args; simp_all
 obtain ⟨rfl, rfl⟩ := trodVars_none hV
 obtain ⟨t0, ke0, ro0, ao0, n0, cap0, X0, rfl, l0⟩ := kTz (hval 0 25 v0 rfl rfl) h0
 have k0 := h0
 have lt0 : ∀ x ∈ p0, x.block < W.heap.size := by obtain ⟨m, hm⟩ := k0; exact DataW.trod_lt m _ _ _ hm
 obtain ⟨C1, x1, rfl, l1⟩ := vuz (hval 1 43 v1 rfl rfl) h1
 have k1 := h1
 have lt1 : ∀ x ∈ p1, x.block < W.heap.size := by obtain ⟨m, hm⟩ := k1; exact DataW.trod_lt m _ _ _ hm
 obtain ⟨a2, rfl, rfl, rfl, w2⟩ := open_int underlying22 (hval 2 22 v2 rfl rfl) h2
 obtain ⟨a3, rfl, rfl, rfl, w3⟩ := open_int underlying22 (hval 3 22 v3 rfl rfl) h3
 obtain ⟨a4, rfl, rfl, rfl, w4⟩ := open_int underlying3 (hval 4 3 v4 rfl rfl) h4
 clear hA0 hval0
 refine (walk t0 ke0 ro0 ao0 n0 cap0 X0 C1 x1 a2 a3 a4 W l0 l1 w2 w3 w4).mono fun e W' ⟨he, bel⟩ => ?_
 subst he
 exact ⟨_, rfl, _, _, _, [], _, [], hW', trodAll_mk1 (shut_bool underlying4 _), (trodAll_cons_mk (Below.trod g5z (by kernel_rfl) (of_decide_eq_true (by kernel_rfl)) k0 bel lt0) (trodAll_cons_mk (Below.trod g5z (by kernel_rfl) (of_decide_eq_true (by kernel_rfl)) k1 bel lt1) (trodAll_cons_mk (shut_int underlying22 w2) (trodAll_cons_mk (shut_int underlying22 w3) (trodAll_cons_mk (shut_int underlying3 w4) trodAll_mk0))))), rfl, bel.frame _, fun h => by cases h⟩
theorem over : Rows.treeWholeRow.holds Tryz.pinned (OpenSpec.ofChange Rows.treeWholeSpec) :=
 OpenClaim.holds_of_wide 3 Tryz.f3 rfl rfl rfl rfl rfl rfl rfl ⟨rfl, rfl, rfl, rfl, rfl⟩ rfl rfl rfl rfl rfl (by kernel_rfl) func3 (by kernel_rfl)
  (of_decide_eq_true (by kernel_rfl)) (by unfold Func.isWrapper; first | (rw [if_pos (by decide +kernel)]; kernel_rfl) | (rw [if_neg (by decide +kernel)]; exact ⟨rfl, rfl⟩))
  (fun os started H enc _ => lifted os started H enc)
end treeWhole
theorem treeWhole_holds : Rows.TreeWholeSaid :=
 treeWhole.over
#print axioms treeWhole_holds
end Go.Proofs.YthnpckhmdnjikaaGreat
