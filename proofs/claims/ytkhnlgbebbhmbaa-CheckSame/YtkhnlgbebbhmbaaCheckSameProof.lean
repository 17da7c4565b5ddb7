/-
  PROVED HERE: for every two labels the law CheckSame returns true (P3.1: who owns nothing). No condition.
-/
import Derived.Test.YtkhnlgbebbhmbaaRows
import Derived.Test.YtkhnlgbebbhmbaaChk13
import Derived.WalkKit
import Derived.ProofKit
import Derived.OpenShut
import Derived.Below
import Derived.ShutString
import Derived.Deep.QuietTactic
namespace Go.Proofs.Ytkhnlgbebbhmbaa
namespace checkSame
open Go.ChangeShapes Go.WideShapes Go.ChangeAt Go.RowKit
open Go.ChangeMaps (open_string shut_string)
set_option linter.unusedVariables false

theorem own : ownKnob Try.prog.godebug = none := by kernel_rfl

set_option maxRecDepth 100000 in
set_option maxHeartbeats 8000000 in
theorem walk (ao0 : Option Addr) (n0 cap0 : Nat) (L0 : List (Int × Int)) (ao1 : Option Addr) (n1 cap1 : Nat) (L1 : List (Int × Int)) (w : World) (l0 : Lab w.heap.size w ao0 n0 cap0 L0) (l1 : Lab w.heap.size w ao1 n1 cap1 L1) :
    Calls Try.prog 7 #[.slice ao0 n0 cap0, .slice ao1 n1 cap1] w fun e w' => e = .returned (.bool true) ∧ Below w.heap.size w w' := by
  have hB := Below.refl w.heap.size w
  have H := ((((Labs.nil w).push l1).push l0).push (Lab.nil _ _))
  clear l0 l1
  have fnil := Fit.nil
  cases hok : okB [(ao0, n0, cap0, L0), (ao1, n1, cap1, L1)] with
  | false =>
    go_enter Try.func7, Try.ntmps7
    go_wp2_with (first | (go_at_call 9; refine (fit2_any _ _ _ _ _ _ _ L0 L1 (H.sub (fun x hx => List.mem_cons_of_mem _ hx))).mono ?_; rintro e w1 ⟨rfl, hb⟩; replace H := H.next hb; replace hB := next3 hB hb; clear hb) | (go_at_call 10; refine (awake3_any _).mono ?_; rintro e w1 ⟨rfl, hb⟩; replace H := H.next hb; replace hB := next3 hB hb; clear hb))
    go_ret
    exact ⟨rfl, hB⟩
  | true =>
    obtain ⟨hn0, F0⟩ := okB_get hok (ao := ao0) (n := n0) (cap := cap0) (L := L0) (by repeat (first | exact List.Mem.head _ | apply List.Mem.tail))
    obtain ⟨hn1, F1⟩ := okB_get hok (ao := ao1) (n := n1) (cap := cap1) (L := L1) (by repeat (first | exact List.Mem.head _ | apply List.Mem.tail))
    cases hz : ownsNo L0 with
    | false =>
      go_enter Try.func7, Try.ntmps7
      go_wp2_with (first | (go_at_call 9; refine (fit2_any _ _ _ _ _ _ _ L0 L1 (H.sub (fun x hx => List.mem_cons_of_mem _ hx))).mono ?_; rintro e w1 ⟨rfl, hb⟩; replace H := H.next hb; replace hB := next3 hB hb; clear hb) | (go_at_call 10; refine (awake3_any _).mono ?_; rintro e w1 ⟨rfl, hb⟩; replace H := H.next hb; replace hB := next3 hB hb; clear hb) | (go_at_call 34; refine (rowned_any (H.get (by repeat (first | exact List.Mem.head _ | apply List.Mem.tail))) (by omega)).mono ?_; rintro e w1 ⟨aoW, nW, capW, rfl, hC, hb⟩; have hpW := own_pos hC.1 hz; replace H := H.next hb; replace hB := next3 hB hb; clear hb))
      go_ret
      exact ⟨rfl, hB⟩
    | true =>
      have eR := own_none F0 (own_nil hz)
      have e1 : (leqB L1 (raiseL L0) && leqB L0 L1) = sameB L0 L1 := by rw [eR]; exact same_leq F0 F1
      have e2 : leqB L1 (raiseL L0) = leqB L1 L0 := by rw [eR]
      have G1 := raiseL_fit F1
      have J1 := joinL_fit G1 fnil
      go_enter Try.func7, Try.ntmps7
      go_wp2_with (first | (go_at_call 9; refine (fit2_any _ _ _ _ _ _ _ L0 L1 (H.sub (fun x hx => List.mem_cons_of_mem _ hx))).mono ?_; rintro e w1 ⟨rfl, hb⟩; replace H := H.next hb; replace hB := next3 hB hb; clear hb) | (go_at_call 10; refine (awake3_any _).mono ?_; rintro e w1 ⟨rfl, hb⟩; replace H := H.next hb; replace hB := next3 hB hb; clear hb) | (go_at_call 34; refine (rowned_any (H.get (by repeat (first | exact List.Mem.head _ | apply List.Mem.tail))) (by omega)).mono ?_; rintro e w1 ⟨aoW, nW, capW, rfl, hC, hb⟩; obtain rfl := own_zero hC.1 hz; replace H := H.next hb; replace hB := next3 hB hb; clear hb) | (go_at_call 13; refine (modify_any (H.get (by repeat (first | exact List.Mem.head _ | apply List.Mem.tail))) (H.get (by repeat (first | exact List.Mem.head _ | apply List.Mem.tail))) (by omega) (by omega)).mono ?_; rintro e w1 ⟨rfl, hb⟩; rw [e1]; replace H := H.next hb; replace hB := next3 hB hb; clear hb) | (go_at_call 36; refine (rsame_any (H.get (by repeat (first | exact List.Mem.head _ | apply List.Mem.tail))) (Nat.le_refl _) (H.get (by repeat (first | exact List.Mem.head _ | apply List.Mem.tail))) (Nat.le_refl _)).mono ?_; rintro e w1 ⟨rfl, hb⟩; replace H := H.next hb; replace hB := next3 hB hb; clear hb) | (go_at_call 11; refine (observe_any (H.get (by repeat (first | exact List.Mem.head _ | apply List.Mem.tail))) (H.get (by repeat (first | exact List.Mem.head _ | apply List.Mem.tail))) (by omega) (by omega)).mono ?_; rintro e w1 ⟨rfl, hb⟩; rw [e2]; replace H := H.next hb; replace hB := next3 hB hb; clear hb) | (go_at_call 30; refine (rleq_f (H.get (by repeat (first | exact List.Mem.head _ | apply List.Mem.tail))) (H.get (by repeat (first | exact List.Mem.head _ | apply List.Mem.tail))) (by assumption) (by assumption)).mono ?_; rintro e w1 ⟨rfl, hb⟩; replace H := H.next hb; replace hB := next3 hB hb; clear hb) | (go_at_call 15; refine (place_any (H.get (by repeat (first | exact List.Mem.head _ | apply List.Mem.tail))) (H.get (by repeat (first | exact List.Mem.head _ | apply List.Mem.tail))) (by omega) (by omega)).mono ?_; rintro e w1 ⟨rfl, hb⟩; replace H := H.next hb; replace hB := next3 hB hb; clear hb) | (go_at_call 31; refine (rraise_f (H.get (by repeat (first | exact List.Mem.head _ | apply List.Mem.tail))) (by omega) (by assumption)).mono ?_; rintro e w1 ⟨ao1, m1, cap1, rfl, hl, kn, hb⟩; replace H := (H.next hb).push hl; replace hB := next3 hB hb; clear hb hl) | (go_at_call 37; refine (rjoin_f (H.get (by repeat (first | exact List.Mem.head _ | apply List.Mem.tail))) (H.get (by repeat (first | exact List.Mem.head _ | apply List.Mem.tail))) (by omega) (by omega) (by assumption) (by assumption)).mono ?_; rintro e w1 ⟨ao1, m1, cap1, rfl, hl, kn, hb⟩; replace H := (H.next hb).push hl; replace hB := next3 hB hb; clear hb hl))
      go_ret
      exact ⟨rfl, hB⟩

set_option maxRecDepth 100000 in
theorem lifted (os : Os) (started : os.Started) (H : Type) (enc : TypeId × Value → H) :
    ReturnsInHanded {} Try.checked os 7 .any (Rows.checkSameSpec.pre6 enc Try.prog Try.f7 Rows.checkSameRow.domain false) (Rows.checkSameSpec.post enc Try.prog Try.f7 false true false false) := by
  refine returnsInHanded_of_change (C := Try.checked) own started (by kernel_rfl) Try.func7
    (ChangeSpec.witness6 (enc := enc) (C := Try.checked) false ⟨#[], #[.slice none 0 0, .slice none 0 0], []⟩ 8 (by kernel_rfl) (by kernel_rfl) (by kernel_rfl) (by kernel_rfl)) ?_
  intro W base args ds gs before hval0 hW hcnd _
  have hval : ∀ (j : Nat) t v, Try.f7.params[j]? = some t → args[j]? = some v → Value.okWide Try.prog W .any base t v := hval0
  have hW' := hW
  obtain ⟨p, q, hA0, hV, rfl, hfz, hnd⟩ := hW
  have hA : DataW.TrodAll enc Try.prog W 0 (fun _ => true) true Try.f7.params.toList args.toList ds p := hA0
  rw [Try.params7] at hA hval
  obtain ⟨v0, vs0, d0, ds0, p0, q0, hargs, rfl, rfl, h0, r0⟩ := trodAll_cons hA
  obtain ⟨v1, vs1, d1, ds1, p1, q1, rfl, rfl, rfl, h1, r1⟩ := trodAll_cons r0
  obtain ⟨rfl, rfl, rfl⟩ := trodAll_nil r1
  obtain rfl : args = #[v0, v1] := by cases args; simp_all
  obtain ⟨rfl, rfl⟩ := trodVars_none hV
  obtain ⟨ao0, n0, cap0, rfl⟩ := okWide_slice Try.underlying23 (hval 0 23 v0 rfl rfl)
  have k0 := h0
  have lt0 : ∀ x ∈ p0, x.block < W.heap.size := by obtain ⟨m, hm⟩ := k0; exact DataW.trod_lt m _ _ _ hm
  obtain ⟨L0, l0⟩ := lab_of_trod h0
  obtain ⟨ao1, n1, cap1, rfl⟩ := okWide_slice Try.underlying23 (hval 1 23 v1 rfl rfl)
  have k1 := h1
  have lt1 : ∀ x ∈ p1, x.block < W.heap.size := by obtain ⟨m, hm⟩ := k1; exact DataW.trod_lt m _ _ _ hm
  obtain ⟨L1, l1⟩ := lab_of_trod h1
  clear hA0 hval0
  refine (walk ao0 n0 cap0 L0 ao1 n1 cap1 L1 W l0 l1).mono fun e W' ⟨he, bel⟩ => ?_
  subst he
  exact ⟨_, rfl, _, _, _, [], _, [], hW', trodAll_mk1 (shut_bool Try.underlying4 _), (trodAll_cons_mk (Below.trod laidOut (by kernel_rfl) (of_decide_eq_true (by kernel_rfl)) k0 bel lt0) (trodAll_cons_mk (Below.trod laidOut (by kernel_rfl) (of_decide_eq_true (by kernel_rfl)) k1 bel lt1) trodAll_mk0)), rfl, bel.frame _, fun h => by cases h⟩

theorem over : Rows.checkSameRow.holds Try.pinned (OpenSpec.ofChange Rows.checkSameSpec) :=
  OpenClaim.holds_of_wide 7 Try.f7 rfl rfl rfl rfl rfl rfl rfl ⟨rfl, rfl, rfl, rfl, rfl⟩ rfl rfl rfl rfl rfl (by kernel_rfl) Try.func7 (by kernel_rfl)
    (of_decide_eq_true (by kernel_rfl)) (by unfold Func.isWrapper; first | (rw [if_pos (by decide +kernel)]; kernel_rfl) | (rw [if_neg (by decide +kernel)]; exact ⟨rfl, rfl⟩))
    (fun os started H enc _ => lifted os started H enc)

end checkSame
/-- The statement. -/
theorem checkSame_holds : Rows.CheckSameSaid :=
  checkSame.over
#print axioms checkSame_holds
end Go.Proofs.Ytkhnlgbebbhmbaa
