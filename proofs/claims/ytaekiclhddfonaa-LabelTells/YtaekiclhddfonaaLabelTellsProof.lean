/-
  PROVED HERE: for every two labels, every category and every level the law LabelTells returns true (P2.1 to P2.3: what label tells is what the document tells, and fit). No condition.
-/
import Derived.Test.YtaekiclhddfonaaRows
import Derived.Test.YtaekiclhddfonaaLabMath3
import Derived.WalkKit
import Derived.ProofKit
import Derived.OpenShut
import Derived.Below
import Derived.ShutString
import Derived.Deep.QuietTactic
namespace Go.Proofs.Ytaekiclhddfonaa
namespace labelTells
open Go.ChangeShapes Go.WideShapes Go.ChangeAt Go.RowKit
open Go.ChangeMaps (open_string shut_string)
set_option linter.unusedVariables false

theorem own : ownKnob Try.prog.godebug = none := by kernel_rfl

set_option maxRecDepth 100000 in
set_option maxHeartbeats 8000000 in
theorem walk (ao0 : Option Addr) (n0 cap0 : Nat) (L0 : List (Int × Int)) (ao1 : Option Addr) (n1 cap1 : Nat) (L1 : List (Int × Int)) (a2 : Int) (a3 : Int) (w : World) (l0 : Lab w.heap.size w ao0 n0 cap0 L0) (l1 : Lab w.heap.size w ao1 n1 cap1 L1) (w2 : (Lit.int .u64 a2).wf = true) (w3 : (Lit.int .i64 a3).wf = true) :
    Calls Try.prog 3 #[.slice ao0 n0 cap0, .slice ao1 n1 cap1, .int .u64 a2, .int .i64 a3] w fun e w' => e = .returned (.bool true) ∧ Below w.heap.size w w' := by
  have hB := Below.refl w.heap.size w
  have H := (((Labs.nil w).push l1).push l0)
  clear l0 l1
  have s1 := sameB_refl L0
  cases hfw : fewB [n0, n1] with
  | false =>
    go_enter Try.func3, Try.ntmps3
    go_wp2_with (first | (go_at_call 9; refine (few2_any _ _ _ _ _ _ _).mono ?_; rintro e w1 ⟨rfl, hb⟩; replace H := H.next hb; replace hB := next hB hb; clear hb) | (go_at_call 14; refine (awake_any _).mono ?_; rintro e w1 ⟨rfl, hb⟩; replace H := H.next hb; replace hB := next hB hb; clear hb))
    go_ret
    exact ⟨rfl, hB⟩
  | true =>
    obtain ⟨hn0, hn1⟩ := few_le2 hfw
    cases hf0 : fitB L0 with
    | false =>
      go_enter Try.func3, Try.ntmps3
      go_wp2_with (first | (go_at_call 9; refine (few2_any _ _ _ _ _ _ _).mono ?_; rintro e w1 ⟨rfl, hb⟩; replace H := H.next hb; replace hB := next hB hb; clear hb) | (go_at_call 14; refine (awake_any _).mono ?_; rintro e w1 ⟨rfl, hb⟩; replace H := H.next hb; replace hB := next hB hb; clear hb) | (go_at_call 10; refine (lfit_any (H.get (by repeat (first | exact List.Mem.head _ | apply List.Mem.tail))) (Nat.le_refl _)).mono ?_; rintro e w1 ⟨rfl, hb⟩; replace H := H.next hb; replace hB := next hB hb; clear hb) | (go_at_call 11; refine (rlfit_any (H.get (by repeat (first | exact List.Mem.head _ | apply List.Mem.tail))) (Nat.le_refl _)).mono ?_; rintro e w1 ⟨rfl, hb⟩; replace H := H.next hb; replace hB := next hB hb; clear hb) | (go_at_call 12; refine (same_any (H.get (by repeat (first | exact List.Mem.head _ | apply List.Mem.tail))) (Nat.le_refl _) (H.get (by repeat (first | exact List.Mem.head _ | apply List.Mem.tail))) (Nat.le_refl _)).mono ?_; rintro e w1 ⟨rfl, hb⟩; replace H := H.next hb; replace hB := next hB hb; clear hb) | (go_at_call 13; refine (rsame_any (H.get (by repeat (first | exact List.Mem.head _ | apply List.Mem.tail))) (Nat.le_refl _) (H.get (by repeat (first | exact List.Mem.head _ | apply List.Mem.tail))) (Nat.le_refl _)).mono ?_; rintro e w1 ⟨rfl, hb⟩; replace H := H.next hb; replace hB := next hB hb; clear hb))
      go_ret
      exact ⟨rfl, hB⟩
    | true =>
      cases hf1 : fitB L1 with
      | false =>
        go_enter Try.func3, Try.ntmps3
        go_wp2_with (first | (go_at_call 9; refine (few2_any _ _ _ _ _ _ _).mono ?_; rintro e w1 ⟨rfl, hb⟩; replace H := H.next hb; replace hB := next hB hb; clear hb) | (go_at_call 14; refine (awake_any _).mono ?_; rintro e w1 ⟨rfl, hb⟩; replace H := H.next hb; replace hB := next hB hb; clear hb) | (go_at_call 10; refine (lfit_any (H.get (by repeat (first | exact List.Mem.head _ | apply List.Mem.tail))) (Nat.le_refl _)).mono ?_; rintro e w1 ⟨rfl, hb⟩; replace H := H.next hb; replace hB := next hB hb; clear hb) | (go_at_call 11; refine (rlfit_any (H.get (by repeat (first | exact List.Mem.head _ | apply List.Mem.tail))) (Nat.le_refl _)).mono ?_; rintro e w1 ⟨rfl, hb⟩; replace H := H.next hb; replace hB := next hB hb; clear hb) | (go_at_call 12; refine (same_any (H.get (by repeat (first | exact List.Mem.head _ | apply List.Mem.tail))) (Nat.le_refl _) (H.get (by repeat (first | exact List.Mem.head _ | apply List.Mem.tail))) (Nat.le_refl _)).mono ?_; rintro e w1 ⟨rfl, hb⟩; replace H := H.next hb; replace hB := next hB hb; clear hb) | (go_at_call 13; refine (rsame_any (H.get (by repeat (first | exact List.Mem.head _ | apply List.Mem.tail))) (Nat.le_refl _) (H.get (by repeat (first | exact List.Mem.head _ | apply List.Mem.tail))) (Nat.le_refl _)).mono ?_; rintro e w1 ⟨rfl, hb⟩; replace H := H.next hb; replace hB := next hB hb; clear hb))
        go_ret
        exact ⟨rfl, hB⟩
      | true =>
        have F0 := fit_iff hf0
        have F1 := fit_iff hf1
        have q1 := (rset_eq F0 a2 a3).2
        have q2 : sameB (setL L0 a2 a3) (rsetL L0 a2 a3) = true := by rw [(rset_eq F0 a2 a3).1]; exact sameB_refl _
        have q3 := rleq_eq F0 F1
        have q4 : sameB (joinL L0 L1) (rfoldL Lv.join L0 L1) = true := by rw [rjoin_eq F0 F1]; exact sameB_refl _
        have q5 : sameB (meetL L0 L1) (rfoldL Lv.meet L0 L1) = true := by rw [rmeet_eq F0 F1]; exact sameB_refl _
        have q6 : sameB (raiseL L0) (rmapL Lv.raise L0) = true := by rw [rraise_eq F0]; exact sameB_refl _
        have q7 : sameB (lowerL L0) (rmapL Lv.lower L0) = true := by rw [rlower_eq F0]; exact sameB_refl _
        have t1 : fitB (setL L0 a2 a3) = true := fitB_fit (set_fit F0)
        have t2 := fitB_fit (joinL_fit F0 F1)
        have t3 := fitB_fit (meetL_fit F0 F1)
        have t4 := fitB_fit (raiseL_fit F0)
        have t5 := fitB_fit (lowerL_fit F0)
        clear F0 F1
        go_enter Try.func3, Try.ntmps3
        go_wp2_with (first | (go_at_call 9; refine (few2_any _ _ _ _ _ _ _).mono ?_; rintro e w1 ⟨rfl, hb⟩; replace H := H.next hb; replace hB := next hB hb; clear hb) | (go_at_call 14; refine (awake_any _).mono ?_; rintro e w1 ⟨rfl, hb⟩; replace H := H.next hb; replace hB := next hB hb; clear hb) | (go_at_call 10; refine (lfit_any (H.get (by repeat (first | exact List.Mem.head _ | apply List.Mem.tail))) (Nat.le_refl _)).mono ?_; rintro e w1 ⟨rfl, hb⟩; replace H := H.next hb; replace hB := next hB hb; clear hb) | (go_at_call 11; refine (rlfit_any (H.get (by repeat (first | exact List.Mem.head _ | apply List.Mem.tail))) (Nat.le_refl _)).mono ?_; rintro e w1 ⟨rfl, hb⟩; replace H := H.next hb; replace hB := next hB hb; clear hb) | (go_at_call 12; refine (same_any (H.get (by repeat (first | exact List.Mem.head _ | apply List.Mem.tail))) (Nat.le_refl _) (H.get (by repeat (first | exact List.Mem.head _ | apply List.Mem.tail))) (Nat.le_refl _)).mono ?_; rintro e w1 ⟨rfl, hb⟩; replace H := H.next hb; replace hB := next hB hb; clear hb) | (go_at_call 13; refine (rsame_any (H.get (by repeat (first | exact List.Mem.head _ | apply List.Mem.tail))) (Nat.le_refl _) (H.get (by repeat (first | exact List.Mem.head _ | apply List.Mem.tail))) (Nat.le_refl _)).mono ?_; rintro e w1 ⟨rfl, hb⟩; replace H := H.next hb; replace hB := next hB hb; clear hb) | (go_at_call 15; refine (lset_b _ _ (H.get (by repeat (first | exact List.Mem.head _ | apply List.Mem.tail))) (by omega)).mono ?_; rintro e w1 ⟨ao1, n1, cap1, rfl, hl, hn, hb⟩; replace H := (H.next hb).push hl; replace hB := next hB hb; clear hb hl) | (go_at_call 16; refine (rset_any _ _ (H.get (by repeat (first | exact List.Mem.head _ | apply List.Mem.tail))) (by omega)).mono ?_; rintro e w1 ⟨ao1, n1, cap1, rfl, hl, hb⟩; replace H := (H.next hb).push hl; replace hB := next hB hb; clear hb hl) | (go_at_call 17; refine (get_any _ (H.get (by repeat (first | exact List.Mem.head _ | apply List.Mem.tail))) (Nat.le_refl _)).mono ?_; rintro e w1 ⟨rfl, hb⟩; replace H := H.next hb; replace hB := next hB hb; clear hb) | (go_at_call 18; refine (rget_any _ (H.get (by repeat (first | exact List.Mem.head _ | apply List.Mem.tail)))).mono ?_; rintro e w1 ⟨rfl, rfl⟩) | (go_at_call 19; refine (lleq_any (B := 0) (H.get (by repeat (first | exact List.Mem.head _ | apply List.Mem.tail))) (H.get (by repeat (first | exact List.Mem.head _ | apply List.Mem.tail)))).mono ?_; rintro e w1 ⟨rfl, hb⟩; replace H := H.next hb; replace hB := next hB hb; clear hb) | (go_at_call 20; refine (rlleq_any (H.get (by repeat (first | exact List.Mem.head _ | apply List.Mem.tail))) (H.get (by repeat (first | exact List.Mem.head _ | apply List.Mem.tail)))).mono ?_; rintro e w1 ⟨rfl, hb⟩; replace H := H.next hb; replace hB := next hB hb; clear hb) | (go_at_call 22; refine (owned_any (H.get (by repeat (first | exact List.Mem.head _ | apply List.Mem.tail))) (by omega)).mono ?_; rintro e w1 ⟨aoW, nW, capW, rfl, hC, hb⟩; replace H := H.next hb; replace hB := next hB hb; clear hb) | (go_at_call 23; refine (rowned_any (H.get (by repeat (first | exact List.Mem.head _ | apply List.Mem.tail))) (by omega)).mono ?_; rintro e w1 ⟨aoV, nV, capV, rfl, hD, hb⟩; replace hC := hC.next hb; replace H := H.next hb; replace hB := next hB hb; clear hb) | (go_at_call 21; refine (cats_any hC hD).mono ?_; rintro e w1 ⟨rfl, hb⟩; replace H := H.next hb; replace hB := next hB hb; clear hb) | (go_at_call 24; refine (ljoin_b (H.get (by repeat (first | exact List.Mem.head _ | apply List.Mem.tail))) (H.get (by repeat (first | exact List.Mem.head _ | apply List.Mem.tail))) (by omega) (by omega)).mono ?_; rintro e w1 ⟨ao1, n1, cap1, rfl, hl, hn, hb⟩; replace H := (H.next hb).push hl; replace hB := next hB hb; clear hb hl) | (go_at_call 28; refine (rljoin_any (H.get (by repeat (first | exact List.Mem.head _ | apply List.Mem.tail))) (H.get (by repeat (first | exact List.Mem.head _ | apply List.Mem.tail))) (by omega) (by omega)).mono ?_; rintro e w1 ⟨ao1, n1, cap1, rfl, hl, hn, hb⟩; replace H := (H.next hb).push hl; replace hB := next hB hb; clear hb hl) | (go_at_call 25; refine (lmeet_b (H.get (by repeat (first | exact List.Mem.head _ | apply List.Mem.tail))) (H.get (by repeat (first | exact List.Mem.head _ | apply List.Mem.tail))) (by omega) (by omega)).mono ?_; rintro e w1 ⟨ao1, n1, cap1, rfl, hl, hn, hb⟩; replace H := (H.next hb).push hl; replace hB := next hB hb; clear hb hl) | (go_at_call 29; refine (rlmeet_any (H.get (by repeat (first | exact List.Mem.head _ | apply List.Mem.tail))) (H.get (by repeat (first | exact List.Mem.head _ | apply List.Mem.tail))) (by omega) (by omega)).mono ?_; rintro e w1 ⟨ao1, n1, cap1, rfl, hl, hn, hb⟩; replace H := (H.next hb).push hl; replace hB := next hB hb; clear hb hl) | (go_at_call 26; refine (lraise_b (H.get (by repeat (first | exact List.Mem.head _ | apply List.Mem.tail))) (by omega)).mono ?_; rintro e w1 ⟨ao1, n1, cap1, rfl, hl, hn, hb⟩; replace H := (H.next hb).push hl; replace hB := next hB hb; clear hb hl) | (go_at_call 30; refine (rlraise_any (H.get (by repeat (first | exact List.Mem.head _ | apply List.Mem.tail))) (by omega)).mono ?_; rintro e w1 ⟨ao1, n1, cap1, rfl, hl, hn, hb⟩; replace H := (H.next hb).push hl; replace hB := next hB hb; clear hb hl) | (go_at_call 27; refine (llower_b (H.get (by repeat (first | exact List.Mem.head _ | apply List.Mem.tail))) (by omega)).mono ?_; rintro e w1 ⟨ao1, n1, cap1, rfl, hl, hn, hb⟩; replace H := (H.next hb).push hl; replace hB := next hB hb; clear hb hl) | (go_at_call 31; refine (rllower_any (H.get (by repeat (first | exact List.Mem.head _ | apply List.Mem.tail))) (by omega)).mono ?_; rintro e w1 ⟨ao1, n1, cap1, rfl, hl, hn, hb⟩; replace H := (H.next hb).push hl; replace hB := next hB hb; clear hb hl))
        go_ret
        exact ⟨rfl, hB⟩

set_option maxRecDepth 100000 in
theorem lifted (os : Os) (started : os.Started) (H : Type) (enc : TypeId × Value → H) :
    ReturnsInHanded {} Try.checked os 3 .any (Rows.labelTellsSpec.pre6 enc Try.prog Try.f3 Rows.labelTellsRow.domain false) (Rows.labelTellsSpec.post enc Try.prog Try.f3 false true false false) := by
  refine returnsInHanded_of_change (C := Try.checked) own started (by kernel_rfl) Try.func3
    (ChangeSpec.witness6 (enc := enc) (C := Try.checked) false ⟨#[], #[.slice none 0 0, .slice none 0 0, .int .u64 0, .int .i64 0], []⟩ 8 (by kernel_rfl) (by kernel_rfl) (by kernel_rfl) (by kernel_rfl)) ?_
  intro W base args ds gs before hval0 hW hcnd _
  have hval : ∀ (j : Nat) t v, Try.f3.params[j]? = some t → args[j]? = some v → Value.okWide Try.prog W .any base t v := hval0
  have hW' := hW
  obtain ⟨p, q, hA0, hV, rfl, hfz, hnd⟩ := hW
  have hA : DataW.TrodAll enc Try.prog W 0 (fun _ => true) true Try.f3.params.toList args.toList ds p := hA0
  rw [Try.params3] at hA hval
  obtain ⟨v0, vs0, d0, ds0, p0, q0, hargs, rfl, rfl, h0, r0⟩ := trodAll_cons hA
  obtain ⟨v1, vs1, d1, ds1, p1, q1, rfl, rfl, rfl, h1, r1⟩ := trodAll_cons r0
  obtain ⟨v2, vs2, d2, ds2, p2, q2, rfl, rfl, rfl, h2, r2⟩ := trodAll_cons r1
  obtain ⟨v3, vs3, d3, ds3, p3, q3, rfl, rfl, rfl, h3, r3⟩ := trodAll_cons r2
  obtain ⟨rfl, rfl, rfl⟩ := trodAll_nil r3
  obtain rfl : args = #[v0, v1, v2, v3] := by cases args; simp_all
  obtain ⟨rfl, rfl⟩ := trodVars_none hV
  obtain ⟨ao0, n0, cap0, rfl⟩ := okWide_slice Try.underlying23 (hval 0 23 v0 rfl rfl)
  have k0 := h0
  have lt0 : ∀ x ∈ p0, x.block < W.heap.size := by obtain ⟨m, hm⟩ := k0; exact DataW.trod_lt m _ _ _ hm
  obtain ⟨L0, l0⟩ := lab_of_trod h0
  obtain ⟨ao1, n1, cap1, rfl⟩ := okWide_slice Try.underlying23 (hval 1 23 v1 rfl rfl)
  have k1 := h1
  have lt1 : ∀ x ∈ p1, x.block < W.heap.size := by obtain ⟨m, hm⟩ := k1; exact DataW.trod_lt m _ _ _ hm
  obtain ⟨L1, l1⟩ := lab_of_trod h1
  obtain ⟨a2, rfl, rfl, rfl, w2⟩ := open_int Try.underlying24 (hval 2 24 v2 rfl rfl) h2
  obtain ⟨a3, rfl, rfl, rfl, w3⟩ := open_int Try.underlying3 (hval 3 3 v3 rfl rfl) h3
  clear hA0 hval0
  refine (walk ao0 n0 cap0 L0 ao1 n1 cap1 L1 a2 a3 W l0 l1 w2 w3).mono fun e W' ⟨he, bel⟩ => ?_
  subst he
  exact ⟨_, rfl, _, _, _, [], _, [], hW', trodAll_mk1 (shut_bool Try.underlying4 _), (trodAll_cons_mk (Below.trod laidOut (by kernel_rfl) (of_decide_eq_true (by kernel_rfl)) k0 bel lt0) (trodAll_cons_mk (Below.trod laidOut (by kernel_rfl) (of_decide_eq_true (by kernel_rfl)) k1 bel lt1) (trodAll_cons_mk (shut_int Try.underlying24 w2) (trodAll_cons_mk (shut_int Try.underlying3 w3) trodAll_mk0)))), rfl, bel.frame _, fun h => by cases h⟩

theorem over : Rows.labelTellsRow.holds Try.pinned (OpenSpec.ofChange Rows.labelTellsSpec) :=
  OpenClaim.holds_of_wide 3 Try.f3 rfl rfl rfl rfl rfl rfl rfl ⟨rfl, rfl, rfl, rfl, rfl⟩ rfl rfl rfl rfl rfl (by kernel_rfl) Try.func3 (by kernel_rfl)
    (of_decide_eq_true (by kernel_rfl)) (by unfold Func.isWrapper; first | (rw [if_pos (by decide +kernel)]; kernel_rfl) | (rw [if_neg (by decide +kernel)]; exact ⟨rfl, rfl⟩))
    (fun os started H enc _ => lifted os started H enc)

end labelTells
/-- The statement. -/
theorem labelTells_holds : Rows.LabelTellsSaid :=
  labelTells.over
#print axioms labelTells_holds
end Go.Proofs.Ytaekiclhddfonaa
