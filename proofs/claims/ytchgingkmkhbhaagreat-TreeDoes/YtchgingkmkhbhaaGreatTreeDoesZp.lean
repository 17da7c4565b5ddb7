/-
 PROVED HERE: worlds with a new object, with one in one more container, with a fixed one, and with a quota that moves, are the document's (TreeDoes), over the landed code. No condition.
-/
import Derived.Test.YtchgingkmkhbhaaGreatRows
import Derived.WalkKit
import Derived.ProofKit
import Derived.OpenShut
import Derived.Below
import Derived.ShutString
import Derived.Deep.QuietTactic
import Derived.Test.YtchgingkmkhbhaaGreatZ6
import Derived.Test.YtchgingkmkhbhaaGreatZ13
import Derived.Test.YtchgingkmkhbhaaGreatZ15
set_option maxRecDepth 100000
set_option maxHeartbeats 8000000
set_option linter.unusedVariables false
open Go.Proofs.Tryz
namespace Go.Proofs.YtchgingkmkhbhaaGreat
namespace treeDoes
open Go.ChangeShapes Go.WideShapes Go.ChangeAt Go.RowKit
open Go.ChangeMaps (open_string shut_string)
theorem own : ownKnob prog.godebug = none := by kernel_rfl
theorem jkz {W : World} {V V' : Array Value} {t ke ro : Int} {X : List Ob} (h : Wr W V t ke ro X) (h' : Wr W V' t ke ro X) : Calls prog 16 #[.agg V, .agg V'] W fun e w' => e = .returned (.bool true) ∧ Below W.heap.size W w' := by
 obtain ⟨a, n, c, rfl, o⟩ := h
 obtain ⟨a', n', c', rfl, o'⟩ := h'
 exact (rsame_w o o').yes rfl
theorem walk (t0 : Int) (ke0 : Nat) (ro0 : Int) (ao0 : Option Addr) (n0 cap0 : Nat) (X0 : List Ob) (C1 : Array Value) (x1 : Ob) (a2 : Int) (a3 : Int) (a4 : Int) (w : World) (l0 : Obs w ao0 n0 cap0 X0 ∧ ∀ x ∈ X0, WdO x) (l1 : ObD (LtN w) w C1 x1) (w2 : (Lit.int .u64 a2).wf = true) (w3 : (Lit.int .u64 a3).wf = true) (w4 : (Lit.int .i64 a4).wf = true) :
  Calls prog 3 #[.agg #[.int .i64 t0, .int .u64 (ke0 : Int), .int .u64 ro0, .slice ao0 n0 cap0], .agg C1, .int .u64 a2, .int .u64 a3, .int .i64 a4] w fun e w' => e = .returned (.bool true) ∧ Below w.heap.size w w' := by
 obtain ⟨l0, hw0⟩ := l0
 have hn : Hid (X0.length = n0) := l0.1
 have hz1 := l1.size
 obtain ⟨a5, n5, k5, c5, l5⟩ := l1.links
 have hn5 : Hid (x1.links.length = n5) := l5.1
 have hzw : (prog.info? 25).map (·.size) = some (#[.int .i64 t0, .int .u64 (ke0 : Int), .int .u64 ro0, .slice ao0 n0 cap0] : Array Value).size := by kernel_rfl
 have hX0 : Wr w #[.int .i64 t0, .int .u64 (ke0 : Int), .int .u64 ro0, .slice ao0 n0 cap0] t0 ke0 ro0 X0 := ⟨_, _, _, rfl, l0⟩
 have few0 := fun (W : World) (hk : Below w.heap.size w W) => gHz (t := t0) (ke := (ke0 : Int)) (ro := ro0) (qqz l0 hk)
 have snd0 := fun (W : World) (hk : Below w.heap.size w W) => k2z (l1.next hk)
 by_cases hfw : gIz X0
 ·have hsm : fitW ⟨t0, ke0, ro0, X0⟩ = true → wtz X0 := fun q => ugz hfw q
  have hn16 : X0.length ≤ 16 := hfw.1
  have rf0 := fun (W : World) (hk : Below w.heap.size w W) => rtfit_w (t := t0) (key := ke0) (ro := ro0) (qqz l0 hk) hsm hw0
  cases hbF : fitD t0 ke0 ro0 X0 with
  | false =>
   simp only [hbF] at rf0
   obtain ⟨G, hG⟩ : ∃ G : Array Value, G = #[.int .i64 t0, .int .u64 (ke0 : Int), .int .u64 ro0, .slice ao0 n0 cap0] := ⟨_, rfl⟩
   simp only [← hG] at few0 rf0
   rw [← hG] at hzw
   rw [← hG]
   clear hG hX0
   go_enter func3, ntmps3
   try simp only [List.append]
   go_wp2_with (first
    | go_skip
    | (with_reducible refine qcz rfl 25 _ rfl G rfl ?_; intro B W1 hN1 hB hk)
    | (with_reducible refine qcz rfl 43 _ rfl C1 rfl ?_; intro Bo W2 hN2 hBo hb8; replace hB := hB.next hb8; replace hk := btz hk hb8; clear hb8)
    | (with_reducible refine qdz (by with_unfolding_all rfl) 25 _ rfl B rfl G hB _ underlying25 (by kernel_rfl) hzw ?_)
    | (with_reducible refine qdz (by with_unfolding_all rfl) 43 _ rfl Bo rfl C1 hBo _ underlying43 (by kernel_rfl) (qez hz1) ?_)
    | (with_reducible refine qaz (by with_unfolding_all rfl) _ _ rfl Bo 5 rfl _ _ hBo _ c5 isAgg28 ?_)
    | (go_at_call 4; (with_reducible refine ((few0 _ hk).yes hfw).mono ?_); rintro e w3 ⟨rfl, hb8⟩; replace hB := hB.next hb8; replace hBo := hBo.next hb8; replace hk := btz hk hb8; clear hb8)
    | (go_at_call 5; (with_reducible refine (rf0 _ hk).mono ?_); rintro e w5 ⟨rfl, hb8⟩; replace hB := hB.next hb8; replace hBo := hBo.next hb8; replace hk := btz hk hb8; clear hb8)
    | (go_at_call 7; (with_reducible refine (wOz _).mono ?_); rintro e w4 ⟨rfl, hb8⟩; replace hk := btz hk hb8))
   all_goals go_ret
   all_goals exact ⟨rfl, hk⟩
  | true =>
   simp only [hbF] at rf0
   have hT := tre_of hbF
   have hL := tre_lays hT
   have hl2 : X0.length < 1022 := by omega
   by_cases hso : qUz x1 = true
   ·by_cases hl : (70 : Int) < (n5 : Int)
    ·have hl0 : decide ((70 : Int) < (n5 : Int)) = true := decide_eq_true hl
     clear hl
     obtain ⟨G, hG⟩ : ∃ G : Array Value, G = #[.int .i64 t0, .int .u64 (ke0 : Int), .int .u64 ro0, .slice ao0 n0 cap0] := ⟨_, rfl⟩
     simp only [← hG] at few0 rf0
     rw [← hG] at hzw
     rw [← hG]
     clear hG hX0
     go_enter func3, ntmps3
     try simp only [List.append]
     go_wp2_with (first
      | go_skip
      | (with_reducible refine qcz rfl 25 _ rfl G rfl ?_; intro B W1 hN1 hB hk)
      | (with_reducible refine qcz rfl 43 _ rfl C1 rfl ?_; intro Bo W2 hN2 hBo hb8; replace hB := hB.next hb8; replace hk := btz hk hb8; clear hb8)
      | (with_reducible refine qdz (by with_unfolding_all rfl) 25 _ rfl B rfl G hB _ underlying25 (by kernel_rfl) hzw ?_)
      | (with_reducible refine qdz (by with_unfolding_all rfl) 43 _ rfl Bo rfl C1 hBo _ underlying43 (by kernel_rfl) (qez hz1) ?_)
      | (with_reducible refine qaz (by with_unfolding_all rfl) _ _ rfl Bo 5 rfl _ _ hBo _ c5 isAgg28 ?_)
      | (go_at_call 4; (with_reducible refine ((few0 _ hk).yes hfw).mono ?_); rintro e w3 ⟨rfl, hb8⟩; replace hB := hB.next hb8; replace hBo := hBo.next hb8; replace hk := btz hk hb8; clear hb8)
      | (go_at_call 5; (with_reducible refine (rf0 _ hk).mono ?_); rintro e w5 ⟨rfl, hb8⟩; replace hB := hB.next hb8; replace hBo := hBo.next hb8; replace hk := btz hk hb8; clear hb8)
      | (go_at_call 6; (with_reducible refine ((snd0 _ hk).yes hso).mono ?_); rintro e w7 ⟨rfl, hb8⟩; replace hB := hB.next hb8; replace hBo := hBo.next hb8; replace hk := btz hk hb8; clear hb8)
      | (go_at_call 7; (with_reducible refine (wOz _).mono ?_); rintro e w4 ⟨rfl, hb8⟩; replace hk := btz hk hb8))
     all_goals go_ret
     all_goals exact ⟨rfl, hk⟩
    ·have hl0 : decide ((70 : Int) < (n5 : Int)) = false := decide_eq_false hl
     clear hl
     have hos := w9z hso
     have hol : x1.label.length < 1048576 := (xEz hso).2
     have hRy : Rys X0 := ⟨hT.srt, fun x hx => w9z (hT.snd x hx), hL.quo, fun x hx => xEz (hT.snd x hx), fun x hx => ⟨(hL.ris x hx).1, Nat.le_trans (hL.ris x hx).2 (by decide)⟩⟩
     have hn22 : n0 < 1022 := by rw [← hn.out]; exact hl2
     have hlk : a3 ∈ (fO X0 a2).links → (fnd X0 a3).isSome = true := fun q => by
      cases hf : (fnd X0 a2).isSome with
      | true => exact (hT.lnk _ (wiz hf).1 a3 q).1
      | false =>
       have e0 : fnd X0 a2 = none := by
        cases z : fnd X0 a2 with
        | none => rfl
        | some y => rw [z] at hf; cases hf
       have e : fO X0 a2 = zOb := by unfold fO; rw [e0]; rfl
       rw [e] at q
       cases q
     have d2 := fun (W : World) (hk : Below w.heap.size w W) => (u0z (t := t0) (ke := (ke0 : Int)) (ro := ro0) (i := a2) (qqz l0 hk) hRy hn22 (l1.next hk) (xEz hso)).mono (fun _ _ ⟨a, m, c, e, o, k⟩ => (⟨_, e, ⟨a, m, c, rfl, o⟩, k⟩ : ∃ V', _ = Ending.returned (.tuple #[.agg V', _]) ∧ Wr _ V' t0 ke0 ro0 _ ∧ _))
     have d4 := fun (W : World) (hk : Below w.heap.size w W) => (rlink_v (t := t0) (ke := (ke0 : Int)) (ro := ro0) (i := a2) (j := a3) (qqz l0 hk) hRy hn22).mono (fun _ _ ⟨a, m, c, e, o, k⟩ => (⟨_, e, ⟨a, m, c, rfl, o⟩, k⟩ : ∃ V', _ = Ending.returned (.tuple #[.agg V', _]) ∧ Wr _ V' t0 ke0 ro0 _ ∧ _))
     have d6 := fun (W : World) (hk : Below w.heap.size w W) => (rfix_v (t := t0) (ke := (ke0 : Int)) (ro := ro0) (i := a3) (qqz l0 hk) hRy hn22).mono (fun _ _ ⟨a, m, c, e, o, k⟩ => (⟨_, e, ⟨a, m, c, rfl, o⟩, k⟩ : ∃ V', _ = Ending.returned (.tuple #[.agg V', _]) ∧ Wr _ V' t0 ke0 ro0 _ ∧ _))
     have d8 := fun (W : World) (hk : Below w.heap.size w W) => (rmove_v (t := t0) (ke := (ke0 : Int)) (ro := ro0) (i := a2) (j := a3) (m := a4) (qqz l0 hk) hRy hn22 hlk).mono (fun _ _ ⟨a, m, c, e, o, k⟩ => (⟨_, e, ⟨a, m, c, rfl, o⟩, k⟩ : ∃ V', _ = Ending.returned (.tuple #[.agg V', _]) ∧ Wr _ V' t0 ke0 ro0 _ ∧ _))
     simp only [(att_eq hT.snd hso).1, (att_eq hT.snd hso).2] at d2
     simp only [(lin_eq hT.srt hT.snd).1, (lin_eq hT.srt hT.snd).2] at d4
     simp only [(fix_eq X0 a3).1, (fix_eq X0 a3).2] at d6
     simp only [(mov_eq hT.snd hlk).1, (mov_eq hT.snd hlk).2] at d8
     obtain ⟨G, hG⟩ : ∃ G : Array Value, G = #[.int .i64 t0, .int .u64 (ke0 : Int), .int .u64 ro0, .slice ao0 n0 cap0] := ⟨_, rfl⟩
     simp only [← hG] at few0 rf0 d2 d4 d6 d8
     rw [← hG] at hzw hX0
     rw [← hG]
     have hX := hX0
     have p1 := fun (W : World) (hk : Below w.heap.size w W) => attach_r (hX.next hk) hL hl2 (l1.next hk) hos hol (i := a2)
     have p3 := fun (W : World) (hk : Below w.heap.size w W) => link_r (hX.next hk) hL hl2 (i := a2) (j := a3)
     have p5 := fun (W : World) (hk : Below w.heap.size w W) => fix_r (hX.next hk) hL hl2 (i := a3)
     have p7 := fun (W : World) (hk : Below w.heap.size w W) => move_r (hX.next hk) hL hl2 (i := a2) (j := a3) (m := a4)
     generalize attE X0 a2 x1 = e1 at d2 p1
     generalize linE X0 a2 a3 = e2 at d4 p3
     generalize fixE X0 a3 = e3 at d6 p5
     generalize movE X0 a2 a3 a4 = e4 at d8 p7
     clear hG hbF hX0 hRy hlk
     go_enter func3, ntmps3
     try simp only [List.append]
     go_wp2_with (first
      | go_skip
      | (with_reducible refine qcz rfl 25 _ rfl G rfl ?_; intro B W1 hN1 hB hk)
      | (with_reducible refine qcz rfl 43 _ rfl C1 rfl ?_; intro Bo W2 hN2 hBo hb8; replace hB := hB.next hb8; replace hk := btz hk hb8; clear hb8)
      | (with_reducible refine qdz (by with_unfolding_all rfl) 25 _ rfl B rfl G hB _ underlying25 (by kernel_rfl) hzw ?_)
      | (with_reducible refine qdz (by with_unfolding_all rfl) 43 _ rfl Bo rfl C1 hBo _ underlying43 (by kernel_rfl) (qez hz1) ?_)
      | (with_reducible refine qaz (by with_unfolding_all rfl) _ _ rfl Bo 5 rfl _ _ hBo _ c5 isAgg28 ?_)
      | (go_at_call 4; (with_reducible refine ((few0 _ hk).yes hfw).mono ?_); rintro e w3 ⟨rfl, hb8⟩; replace hB := hB.next hb8; replace hBo := hBo.next hb8; replace hk := btz hk hb8; clear hb8)
      | (go_at_call 5; (with_reducible refine (rf0 _ hk).mono ?_); rintro e w5 ⟨rfl, hb8⟩; replace hB := hB.next hb8; replace hBo := hBo.next hb8; replace hk := btz hk hb8; clear hb8)
      | (go_at_call 6; (with_reducible refine ((snd0 _ hk).yes hso).mono ?_); rintro e w7 ⟨rfl, hb8⟩; replace hB := hB.next hb8; replace hBo := hBo.next hb8; replace hk := btz hk hb8; clear hb8)
      | (go_at_call 8; (with_reducible refine (p1 _ hk).mono ?_); rintro e v1 ⟨V1, rfl, hV1, hb8⟩; replace hB := hB.next hb8; replace hBo := hBo.next hb8; replace hk := btz hk hb8; clear hb8; have hzV1 := hV1.size; have hoV1 := hV1.one; have hsV1 := hV1.old; have tk1 : True := trivial)
      | ((with_reducible refine qfz rfl 25 rfl zW q0z ?_); have hx := tk1; intro P1 A1 hA1 hP1 hkA1; have hle1 := hA1.out.1; clear hx tk1)
      | ((with_reducible refine qbz rfl _ _ _ rfl P1 rfl V1 rfl zW hP1 hzV1 hsV1 hoV1 ?_); intro S1 hQ1 oS1; have kS1 := oS1.below _ _ (Nat.le_of_eq hle1) hkA1; replace hV1 := hV1.next kS1; clear hP1 hkA1 oS1 hA1; replace hB := hB.next kS1; replace hBo := hBo.next kS1; replace hk := btz hk kS1; clear kS1)
      | (go_at_call 9; (with_reducible refine (d2 _ hk).mono ?_); rintro e v2 ⟨V2, rfl, hV2, hb8⟩; replace hB := hB.next hb8; replace hBo := hBo.next hb8; replace hV1 := hV1.next hb8; replace hQ1 := hQ1.next hb8; replace hk := btz hk hb8; clear hb8; have hzV2 := hV2.size; have hoV2 := hV2.one; have hsV2 := hV2.old; have tk2 : True := trivial)
      | ((with_reducible refine qfz rfl 25 rfl zW q0z ?_); have hx := tk2; intro P2 A2 hA2 hP2 hkA2; have hle2 := hA2.out.1; clear hx tk2)
      | ((with_reducible refine qbz rfl _ _ _ rfl P2 rfl V2 rfl zW hP2 hzV2 hsV2 hoV2 ?_); intro S2 hQ2 oS2; have kS2 := oS2.below _ _ (Nat.le_of_eq hle2) hkA2; replace hV2 := hV2.next kS2; clear hP2 hkA2 oS2 hA2; replace hB := hB.next kS2; replace hBo := hBo.next kS2; replace hV1 := hV1.next kS2; replace hQ1 := hQ1.next kS2; replace hk := btz hk kS2; clear kS2)
      | (go_at_call 10; (with_reducible refine (p3 _ hk).mono ?_); rintro e v3 ⟨V3, rfl, hV3, hb8⟩; replace hB := hB.next hb8; replace hBo := hBo.next hb8; replace hV1 := hV1.next hb8; replace hQ1 := hQ1.next hb8; replace hV2 := hV2.next hb8; replace hQ2 := hQ2.next hb8; replace hk := btz hk hb8; clear hb8; have hzV3 := hV3.size; have hoV3 := hV3.one; have hsV3 := hV3.old; have tk3 : True := trivial)
      | ((with_reducible refine qfz rfl 25 rfl zW q0z ?_); have hx := tk3; intro P3 A3 hA3 hP3 hkA3; have hle3 := hA3.out.1; clear hx tk3)
      | ((with_reducible refine qbz rfl _ _ _ rfl P3 rfl V3 rfl zW hP3 hzV3 hsV3 hoV3 ?_); intro S3 hQ3 oS3; have kS3 := oS3.below _ _ (Nat.le_of_eq hle3) hkA3; replace hV3 := hV3.next kS3; clear hP3 hkA3 oS3 hA3; replace hB := hB.next kS3; replace hBo := hBo.next kS3; replace hV1 := hV1.next kS3; replace hQ1 := hQ1.next kS3; replace hV2 := hV2.next kS3; replace hQ2 := hQ2.next kS3; replace hk := btz hk kS3; clear kS3)
      | (go_at_call 11; (with_reducible refine (d4 _ hk).mono ?_); rintro e v4 ⟨V4, rfl, hV4, hb8⟩; replace hB := hB.next hb8; replace hBo := hBo.next hb8; replace hV1 := hV1.next hb8; replace hQ1 := hQ1.next hb8; replace hV2 := hV2.next hb8; replace hQ2 := hQ2.next hb8; replace hV3 := hV3.next hb8; replace hQ3 := hQ3.next hb8; replace hk := btz hk hb8; clear hb8; have hzV4 := hV4.size; have hoV4 := hV4.one; have hsV4 := hV4.old; have tk4 : True := trivial)
      | ((with_reducible refine qfz rfl 25 rfl zW q0z ?_); have hx := tk4; intro P4 A4 hA4 hP4 hkA4; have hle4 := hA4.out.1; clear hx tk4)
      | ((with_reducible refine qbz rfl _ _ _ rfl P4 rfl V4 rfl zW hP4 hzV4 hsV4 hoV4 ?_); intro S4 hQ4 oS4; have kS4 := oS4.below _ _ (Nat.le_of_eq hle4) hkA4; replace hV4 := hV4.next kS4; clear hP4 hkA4 oS4 hA4; replace hB := hB.next kS4; replace hBo := hBo.next kS4; replace hV1 := hV1.next kS4; replace hQ1 := hQ1.next kS4; replace hV2 := hV2.next kS4; replace hQ2 := hQ2.next kS4; replace hV3 := hV3.next kS4; replace hQ3 := hQ3.next kS4; replace hk := btz hk kS4; clear kS4)
      | (go_at_call 12; (with_reducible refine (p5 _ hk).mono ?_); rintro e v5 ⟨V5, rfl, hV5, hb8⟩; replace hB := hB.next hb8; replace hBo := hBo.next hb8; replace hV1 := hV1.next hb8; replace hQ1 := hQ1.next hb8; replace hV2 := hV2.next hb8; replace hQ2 := hQ2.next hb8; replace hV3 := hV3.next hb8; replace hQ3 := hQ3.next hb8; replace hV4 := hV4.next hb8; replace hQ4 := hQ4.next hb8; replace hk := btz hk hb8; clear hb8; have hzV5 := hV5.size; have hoV5 := hV5.one; have hsV5 := hV5.old; have tk5 : True := trivial)
      | ((with_reducible refine qfz rfl 25 rfl zW q0z ?_); have hx := tk5; intro P5 A5 hA5 hP5 hkA5; have hle5 := hA5.out.1; clear hx tk5)
      | ((with_reducible refine qbz rfl _ _ _ rfl P5 rfl V5 rfl zW hP5 hzV5 hsV5 hoV5 ?_); intro S5 hQ5 oS5; have kS5 := oS5.below _ _ (Nat.le_of_eq hle5) hkA5; replace hV5 := hV5.next kS5; clear hP5 hkA5 oS5 hA5; replace hB := hB.next kS5; replace hBo := hBo.next kS5; replace hV1 := hV1.next kS5; replace hQ1 := hQ1.next kS5; replace hV2 := hV2.next kS5; replace hQ2 := hQ2.next kS5; replace hV3 := hV3.next kS5; replace hQ3 := hQ3.next kS5; replace hV4 := hV4.next kS5; replace hQ4 := hQ4.next kS5; replace hk := btz hk kS5; clear kS5)
      | (go_at_call 13; (with_reducible refine (d6 _ hk).mono ?_); rintro e v6 ⟨V6, rfl, hV6, hb8⟩; replace hB := hB.next hb8; replace hBo := hBo.next hb8; replace hV1 := hV1.next hb8; replace hQ1 := hQ1.next hb8; replace hV2 := hV2.next hb8; replace hQ2 := hQ2.next hb8; replace hV3 := hV3.next hb8; replace hQ3 := hQ3.next hb8; replace hV4 := hV4.next hb8; replace hQ4 := hQ4.next hb8; replace hV5 := hV5.next hb8; replace hQ5 := hQ5.next hb8; replace hk := btz hk hb8; clear hb8; have hzV6 := hV6.size; have hoV6 := hV6.one; have hsV6 := hV6.old; have tk6 : True := trivial)
      | ((with_reducible refine qfz rfl 25 rfl zW q0z ?_); have hx := tk6; intro P6 A6 hA6 hP6 hkA6; have hle6 := hA6.out.1; clear hx tk6)
      | ((with_reducible refine qbz rfl _ _ _ rfl P6 rfl V6 rfl zW hP6 hzV6 hsV6 hoV6 ?_); intro S6 hQ6 oS6; have kS6 := oS6.below _ _ (Nat.le_of_eq hle6) hkA6; replace hV6 := hV6.next kS6; clear hP6 hkA6 oS6 hA6; replace hB := hB.next kS6; replace hBo := hBo.next kS6; replace hV1 := hV1.next kS6; replace hQ1 := hQ1.next kS6; replace hV2 := hV2.next kS6; replace hQ2 := hQ2.next kS6; replace hV3 := hV3.next kS6; replace hQ3 := hQ3.next kS6; replace hV4 := hV4.next kS6; replace hQ4 := hQ4.next kS6; replace hV5 := hV5.next kS6; replace hQ5 := hQ5.next kS6; replace hk := btz hk kS6; clear kS6)
      | (go_at_call 14; (with_reducible refine (p7 _ hk).mono ?_); rintro e v7 ⟨V7, rfl, hV7, hb8⟩; replace hB := hB.next hb8; replace hBo := hBo.next hb8; replace hV1 := hV1.next hb8; replace hQ1 := hQ1.next hb8; replace hV2 := hV2.next hb8; replace hQ2 := hQ2.next hb8; replace hV3 := hV3.next hb8; replace hQ3 := hQ3.next hb8; replace hV4 := hV4.next hb8; replace hQ4 := hQ4.next hb8; replace hV5 := hV5.next hb8; replace hQ5 := hQ5.next hb8; replace hV6 := hV6.next hb8; replace hQ6 := hQ6.next hb8; replace hk := btz hk hb8; clear hb8; have hzV7 := hV7.size; have hoV7 := hV7.one; have hsV7 := hV7.old; have tk7 : True := trivial)
      | ((with_reducible refine qfz rfl 25 rfl zW q0z ?_); have hx := tk7; intro P7 A7 hA7 hP7 hkA7; have hle7 := hA7.out.1; clear hx tk7)
      | ((with_reducible refine qbz rfl _ _ _ rfl P7 rfl V7 rfl zW hP7 hzV7 hsV7 hoV7 ?_); intro S7 hQ7 oS7; have kS7 := oS7.below _ _ (Nat.le_of_eq hle7) hkA7; replace hV7 := hV7.next kS7; clear hP7 hkA7 oS7 hA7; replace hB := hB.next kS7; replace hBo := hBo.next kS7; replace hV1 := hV1.next kS7; replace hQ1 := hQ1.next kS7; replace hV2 := hV2.next kS7; replace hQ2 := hQ2.next kS7; replace hV3 := hV3.next kS7; replace hQ3 := hQ3.next kS7; replace hV4 := hV4.next kS7; replace hQ4 := hQ4.next kS7; replace hV5 := hV5.next kS7; replace hQ5 := hQ5.next kS7; replace hV6 := hV6.next kS7; replace hQ6 := hQ6.next kS7; replace hk := btz hk kS7; clear kS7)
      | (go_at_call 15; (with_reducible refine (d8 _ hk).mono ?_); rintro e v8 ⟨V8, rfl, hV8, hb8⟩; replace hB := hB.next hb8; replace hBo := hBo.next hb8; replace hV1 := hV1.next hb8; replace hQ1 := hQ1.next hb8; replace hV2 := hV2.next hb8; replace hQ2 := hQ2.next hb8; replace hV3 := hV3.next hb8; replace hQ3 := hQ3.next hb8; replace hV4 := hV4.next hb8; replace hQ4 := hQ4.next hb8; replace hV5 := hV5.next hb8; replace hQ5 := hQ5.next hb8; replace hV6 := hV6.next hb8; replace hQ6 := hQ6.next hb8; replace hV7 := hV7.next hb8; replace hQ7 := hQ7.next hb8; replace hk := btz hk hb8; clear hb8; have hzV8 := hV8.size; have hoV8 := hV8.one; have hsV8 := hV8.old; have tk8 : True := trivial)
      | ((with_reducible refine qfz rfl 25 rfl zW q0z ?_); have hx := tk8; intro P8 A8 hA8 hP8 hkA8; have hle8 := hA8.out.1; clear hx tk8)
      | ((with_reducible refine qbz rfl _ _ _ rfl P8 rfl V8 rfl zW hP8 hzV8 hsV8 hoV8 ?_); intro S8 hQ8 oS8; have kS8 := oS8.below _ _ (Nat.le_of_eq hle8) hkA8; replace hV8 := hV8.next kS8; clear hP8 hkA8 oS8 hA8; replace hB := hB.next kS8; replace hBo := hBo.next kS8; replace hV1 := hV1.next kS8; replace hQ1 := hQ1.next kS8; replace hV2 := hV2.next kS8; replace hQ2 := hQ2.next kS8; replace hV3 := hV3.next kS8; replace hQ3 := hQ3.next kS8; replace hV4 := hV4.next kS8; replace hQ4 := hQ4.next kS8; replace hV5 := hV5.next kS8; replace hQ5 := hQ5.next kS8; replace hV6 := hV6.next kS8; replace hQ6 := hQ6.next kS8; replace hV7 := hV7.next kS8; replace hQ7 := hQ7.next kS8; replace hk := btz hk kS8; clear kS8)
      | (with_reducible refine qdz (by kernel_rfl) 25 _ rfl P1 rfl V1 hQ1 _ underlying25 (by kernel_rfl) hzV1 ?_)
      | (with_reducible refine qdz (by kernel_rfl) 25 _ rfl P2 rfl V2 hQ2 _ underlying25 (by kernel_rfl) hzV2 ?_)
      | (with_reducible refine qdz (by kernel_rfl) 25 _ rfl P3 rfl V3 hQ3 _ underlying25 (by kernel_rfl) hzV3 ?_)
      | (with_reducible refine qdz (by kernel_rfl) 25 _ rfl P4 rfl V4 hQ4 _ underlying25 (by kernel_rfl) hzV4 ?_)
      | (with_reducible refine qdz (by kernel_rfl) 25 _ rfl P5 rfl V5 hQ5 _ underlying25 (by kernel_rfl) hzV5 ?_)
      | (with_reducible refine qdz (by kernel_rfl) 25 _ rfl P6 rfl V6 hQ6 _ underlying25 (by kernel_rfl) hzV6 ?_)
      | (with_reducible refine qdz (by kernel_rfl) 25 _ rfl P7 rfl V7 hQ7 _ underlying25 (by kernel_rfl) hzV7 ?_)
      | (with_reducible refine qdz (by kernel_rfl) 25 _ rfl P8 rfl V8 hQ8 _ underlying25 (by kernel_rfl) hzV8 ?_)
      | (go_at_call 16; (with_reducible refine (jkz hV1 hV2).mono ?_); rintro e s1 ⟨rfl, hb8⟩; replace hB := hB.next hb8; replace hBo := hBo.next hb8; replace hV1 := hV1.next hb8; replace hQ1 := hQ1.next hb8; replace hV2 := hV2.next hb8; replace hQ2 := hQ2.next hb8; replace hV3 := hV3.next hb8; replace hQ3 := hQ3.next hb8; replace hV4 := hV4.next hb8; replace hQ4 := hQ4.next hb8; replace hV5 := hV5.next hb8; replace hQ5 := hQ5.next hb8; replace hV6 := hV6.next hb8; replace hQ6 := hQ6.next hb8; replace hV7 := hV7.next hb8; replace hQ7 := hQ7.next hb8; replace hV8 := hV8.next hb8; replace hQ8 := hQ8.next hb8; replace hk := btz hk hb8; clear hb8)
      | (go_at_call 16; (with_reducible refine (jkz hV3 hV4).mono ?_); rintro e s3 ⟨rfl, hb8⟩; replace hB := hB.next hb8; replace hBo := hBo.next hb8; replace hV1 := hV1.next hb8; replace hQ1 := hQ1.next hb8; replace hV2 := hV2.next hb8; replace hQ2 := hQ2.next hb8; replace hV3 := hV3.next hb8; replace hQ3 := hQ3.next hb8; replace hV4 := hV4.next hb8; replace hQ4 := hQ4.next hb8; replace hV5 := hV5.next hb8; replace hQ5 := hQ5.next hb8; replace hV6 := hV6.next hb8; replace hQ6 := hQ6.next hb8; replace hV7 := hV7.next hb8; replace hQ7 := hQ7.next hb8; replace hV8 := hV8.next hb8; replace hQ8 := hQ8.next hb8; replace hk := btz hk hb8; clear hb8)
      | (go_at_call 16; (with_reducible refine (jkz hV5 hV6).mono ?_); rintro e s5 ⟨rfl, hb8⟩; replace hB := hB.next hb8; replace hBo := hBo.next hb8; replace hV1 := hV1.next hb8; replace hQ1 := hQ1.next hb8; replace hV2 := hV2.next hb8; replace hQ2 := hQ2.next hb8; replace hV3 := hV3.next hb8; replace hQ3 := hQ3.next hb8; replace hV4 := hV4.next hb8; replace hQ4 := hQ4.next hb8; replace hV5 := hV5.next hb8; replace hQ5 := hQ5.next hb8; replace hV6 := hV6.next hb8; replace hQ6 := hQ6.next hb8; replace hV7 := hV7.next hb8; replace hQ7 := hQ7.next hb8; replace hV8 := hV8.next hb8; replace hQ8 := hQ8.next hb8; replace hk := btz hk hb8; clear hb8)
      | (go_at_call 16; (with_reducible refine (jkz hV7 hV8).mono ?_); rintro e s7 ⟨rfl, hb8⟩; replace hB := hB.next hb8; replace hBo := hBo.next hb8; replace hV1 := hV1.next hb8; replace hQ1 := hQ1.next hb8; replace hV2 := hV2.next hb8; replace hQ2 := hQ2.next hb8; replace hV3 := hV3.next hb8; replace hQ3 := hQ3.next hb8; replace hV4 := hV4.next hb8; replace hQ4 := hQ4.next hb8; replace hV5 := hV5.next hb8; replace hQ5 := hQ5.next hb8; replace hV6 := hV6.next hb8; replace hQ6 := hQ6.next hb8; replace hV7 := hV7.next hb8; replace hQ7 := hQ7.next hb8; replace hV8 := hV8.next hb8; replace hQ8 := hQ8.next hb8; replace hk := btz hk hb8; clear hb8)
      | (go_at_call 7; (with_reducible refine (wOz _).mono ?_); rintro e w4 ⟨rfl, hb8⟩; replace hk := btz hk hb8))
     all_goals go_ret
     all_goals exact ⟨rfl, hk⟩
   ·obtain ⟨G, hG⟩ : ∃ G : Array Value, G = #[.int .i64 t0, .int .u64 (ke0 : Int), .int .u64 ro0, .slice ao0 n0 cap0] := ⟨_, rfl⟩
    simp only [← hG] at few0 rf0
    rw [← hG] at hzw
    rw [← hG]
    clear hG hX0
    go_enter func3, ntmps3
    try simp only [List.append]
    go_wp2_with (first
     | go_skip
     | (with_reducible refine qcz rfl 25 _ rfl G rfl ?_; intro B W1 hN1 hB hk)
     | (with_reducible refine qcz rfl 43 _ rfl C1 rfl ?_; intro Bo W2 hN2 hBo hb8; replace hB := hB.next hb8; replace hk := btz hk hb8; clear hb8)
     | (with_reducible refine qdz (by with_unfolding_all rfl) 25 _ rfl B rfl G hB _ underlying25 (by kernel_rfl) hzw ?_)
     | (with_reducible refine qdz (by with_unfolding_all rfl) 43 _ rfl Bo rfl C1 hBo _ underlying43 (by kernel_rfl) (qez hz1) ?_)
     | (with_reducible refine qaz (by with_unfolding_all rfl) _ _ rfl Bo 5 rfl _ _ hBo _ c5 isAgg28 ?_)
     | (go_at_call 4; (with_reducible refine ((few0 _ hk).yes hfw).mono ?_); rintro e w3 ⟨rfl, hb8⟩; replace hB := hB.next hb8; replace hBo := hBo.next hb8; replace hk := btz hk hb8; clear hb8)
     | (go_at_call 5; (with_reducible refine (rf0 _ hk).mono ?_); rintro e w5 ⟨rfl, hb8⟩; replace hB := hB.next hb8; replace hBo := hBo.next hb8; replace hk := btz hk hb8; clear hb8)
     | (go_at_call 6; (with_reducible refine ((snd0 _ hk).no hso).mono ?_); rintro e w7 ⟨rfl, hb8⟩; replace hB := hB.next hb8; replace hBo := hBo.next hb8; replace hk := btz hk hb8; clear hb8)
     | (go_at_call 7; (with_reducible refine (wOz _).mono ?_); rintro e w4 ⟨rfl, hb8⟩; replace hk := btz hk hb8))
    all_goals go_ret
    all_goals exact ⟨rfl, hk⟩
 ·obtain ⟨G, hG⟩ : ∃ G : Array Value, G = #[.int .i64 t0, .int .u64 (ke0 : Int), .int .u64 ro0, .slice ao0 n0 cap0] := ⟨_, rfl⟩
  simp only [← hG] at few0
  rw [← hG] at hzw
  rw [← hG]
  clear hG hX0
  go_enter func3, ntmps3
  try simp only [List.append]
  go_wp2_with (first
   | go_skip
   | (with_reducible refine qcz rfl 25 _ rfl G rfl ?_; intro B W1 hN1 hB hk)
   | (with_reducible refine qcz rfl 43 _ rfl C1 rfl ?_; intro Bo W2 hN2 hBo hb8; replace hB := hB.next hb8; replace hk := btz hk hb8; clear hb8)
   | (with_reducible refine qdz (by with_unfolding_all rfl) 25 _ rfl B rfl G hB _ underlying25 (by kernel_rfl) hzw ?_)
   | (with_reducible refine qdz (by with_unfolding_all rfl) 43 _ rfl Bo rfl C1 hBo _ underlying43 (by kernel_rfl) (qez hz1) ?_)
   | (with_reducible refine qaz (by with_unfolding_all rfl) _ _ rfl Bo 5 rfl _ _ hBo _ c5 isAgg28 ?_)
   | (go_at_call 4; (with_reducible refine ((few0 _ hk).no hfw).mono ?_); rintro e w3 ⟨rfl, hb8⟩; replace hB := hB.next hb8; replace hBo := hBo.next hb8; replace hk := btz hk hb8; clear hb8)
   | (go_at_call 7; (with_reducible refine (wOz _).mono ?_); rintro e w4 ⟨rfl, hb8⟩; replace hk := btz hk hb8))
  all_goals go_ret
  all_goals exact ⟨rfl, hk⟩
theorem lifted (os : Os) (started : os.Started) (H : Type) (enc : TypeId × Value → H) :
  ReturnsInHanded {} Tryz.checked os 3 .any (Rows.treeDoesSpec.pre6 enc prog Tryz.f3 Rows.treeDoesRow.domain false) (Rows.treeDoesSpec.post enc prog Tryz.f3 false true false false) := by
 refine returnsInHanded_of_change (C := Tryz.checked) own started (by kernel_rfl) func3
  (ChangeSpec.witness6 (enc := enc) (C := Tryz.checked) false ⟨#[], #[.agg #[.int .i64 0, .int .u64 0, .int .u64 0, .slice none 0 0], .agg zC, .int .u64 0, .int .u64 0, .int .i64 0], []⟩ 8 (by kernel_rfl) (by kernel_rfl) (by kernel_rfl) (by kernel_rfl)) ?_
 intro W base args ds gs before hval0 hW hcnd _
 have hval : ∀ (j : Nat) t v, Tryz.f3.params[j]? = some t → args[j]? = some v → Value.okWide prog W .any base t v := hval0
 have hW' := hW
 obtain ⟨p, q, hA0, hV, rfl, hfz, hnd⟩ := hW
 have hA : DataW.TrodAll enc prog W 0 (fun _ => true) true Tryz.f3.params.toList args.toList ds p := hA0
 rw [Tryz.params3] at hA hval
 obtain ⟨v0, vs0, d0, ds0, p0, q0, hargs, rfl, rfl, h0, r0⟩ := trodAll_cons hA
 obtain ⟨v1, vs1, d1, ds1, p1, q1, rfl, rfl, rfl, h1, r1⟩ := trodAll_cons r0
 obtain ⟨v2, vs2, d2, ds2, p2, q2, rfl, rfl, rfl, h2, r2⟩ := trodAll_cons r1
 obtain ⟨v3, vs3, d3, ds3, p3, q3, rfl, rfl, rfl, h3, r3⟩ := trodAll_cons r2
 obtain ⟨v4, vs4, d4, ds4, p4, q4, rfl, rfl, rfl, h4, r4⟩ := trodAll_cons r3
 obtain ⟨rfl, rfl, rfl⟩ := trodAll_nil r4
 obtain rfl : args = #[v0, v1, v2, v3, v4] := by cases args; simp_all
 obtain ⟨rfl, rfl⟩ := trodVars_none hV
 obtain ⟨t0, ke0, ro0, ao0, n0, cap0, X0, rfl, l0⟩ := kQz (hval 0 25 v0 rfl rfl) h0
 have k0 := h0
 have lt0 : ∀ x ∈ p0, x.block < W.heap.size := by obtain ⟨m, hm⟩ := k0; exact DataW.trod_lt m _ _ _ hm
 obtain ⟨C1, x1, rfl, l1⟩ := vUz (hval 1 43 v1 rfl rfl) h1
 have k1 := h1
 have lt1 : ∀ x ∈ p1, x.block < W.heap.size := by obtain ⟨m, hm⟩ := k1; exact DataW.trod_lt m _ _ _ hm
 obtain ⟨a2, rfl, rfl, rfl, w2⟩ := open_int underlying22 (hval 2 22 v2 rfl rfl) h2
 obtain ⟨a3, rfl, rfl, rfl, w3⟩ := open_int underlying22 (hval 3 22 v3 rfl rfl) h3
 obtain ⟨a4, rfl, rfl, rfl, w4⟩ := open_int underlying3 (hval 4 3 v4 rfl rfl) h4
 clear hA0 hval0
 refine (walk t0 ke0 ro0 ao0 n0 cap0 X0 C1 x1 a2 a3 a4 W l0 l1 w2 w3 w4).mono fun e W' ⟨he, bel⟩ => ?_
 subst he
 exact ⟨_, rfl, _, _, _, [], _, [], hW', trodAll_mk1 (shut_bool underlying4 _), (trodAll_cons_mk (Below.trod grz (by kernel_rfl) (of_decide_eq_true (by kernel_rfl)) k0 bel lt0) (trodAll_cons_mk (Below.trod grz (by kernel_rfl) (of_decide_eq_true (by kernel_rfl)) k1 bel lt1) (trodAll_cons_mk (shut_int underlying22 w2) (trodAll_cons_mk (shut_int underlying22 w3) (trodAll_cons_mk (shut_int underlying3 w4) trodAll_mk0))))), rfl, bel.frame _, fun h => by cases h⟩
theorem over : Rows.treeDoesRow.holds Tryz.pinned (OpenSpec.ofChange Rows.treeDoesSpec) :=
 OpenClaim.holds_of_wide 3 Tryz.f3 rfl rfl rfl rfl rfl rfl rfl ⟨rfl, rfl, rfl, rfl, rfl⟩ rfl rfl rfl rfl rfl (by kernel_rfl) func3 (by kernel_rfl)
  (of_decide_eq_true (by kernel_rfl)) (by unfold Func.isWrapper; first | (rw [if_pos (by decide +kernel)]; kernel_rfl) | (rw [if_neg (by decide +kernel)]; exact ⟨rfl, rfl⟩))
  (fun os started H enc _ => lifted os started H enc)
end treeDoes
theorem treeDoes_holds : Rows.TreeDoesSaid :=
 treeDoes.over
#print axioms treeDoes_holds
end Go.Proofs.YtchgingkmkhbhaaGreat
