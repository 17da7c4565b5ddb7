/-
  PROVED HERE: for every three labels the law LabelOrder returns true (P2.4: Leq is an order; Join is the least label that is not less than both, Meet the greatest that is not more). No condition.
-/
import Derived.Test.YtaekiclhddfonaaRows
import Derived.Test.YtaekiclhddfonaaLabArms
import Derived.WalkKit
import Derived.ProofKit
import Derived.OpenShut
import Derived.Below
import Derived.ShutString
import Derived.Deep.QuietTactic
namespace Go.Proofs.Ytaekiclhddfonaa
namespace labelOrder
open Go.ChangeShapes Go.WideShapes Go.ChangeAt Go.RowKit
open Go.ChangeMaps (open_string shut_string)
set_option linter.unusedVariables false

theorem own : ownKnob Try.prog.godebug = none := by kernel_rfl

set_option maxHeartbeats 8000000 in
theorem walk (ao0 : Option Addr) (n0 cap0 : Nat) (L0 : List (Int × Int)) (ao1 : Option Addr) (n1 cap1 : Nat) (L1 : List (Int × Int)) (ao2 : Option Addr) (n2 cap2 : Nat) (L2 : List (Int × Int)) (w : World) (l0 : Lab w.heap.size w ao0 n0 cap0 L0) (l1 : Lab w.heap.size w ao1 n1 cap1 L1) (l2 : Lab w.heap.size w ao2 n2 cap2 L2) :
    Calls Try.prog 4 #[.slice ao0 n0 cap0, .slice ao1 n1 cap1, .slice ao2 n2 cap2] w fun e w' => e = .returned (.bool true) ∧ Below w.heap.size w w' := by
  have hB := Below.refl w.heap.size w
  have H := (((Labs.nil w).push l2).push l1).push l0
  clear l0 l1 l2
  cases hfw : fewB [n0, n1, n2] with
  | false =>
    go_enter Try.func4, Try.ntmps4
    go_wp2_with (first | (go_at_call 9; refine (few3_any _ _ _ _ _ _ _ _ _ _).mono ?_; rintro e w1 ⟨rfl, hb⟩; replace H := H.next hb; replace hB := next hB hb; clear hb) | (go_at_call 14; refine (awake_any _).mono ?_; rintro e w1 ⟨rfl, hb⟩; replace H := H.next hb; replace hB := next hB hb; clear hb))
    go_ret
    exact ⟨rfl, hB⟩
  | true =>
    obtain ⟨hn0, hn1, hn2⟩ := few_le3 hfw
    cases hfa : fitB L0 with
    | false =>
      go_enter Try.func4, Try.ntmps4
      go_wp2_with (first | (go_at_call 9; refine (few3_any _ _ _ _ _ _ _ _ _ _).mono ?_; rintro e w1 ⟨rfl, hb⟩; replace H := H.next hb; replace hB := next hB hb; clear hb) | (go_at_call 14; refine (awake_any _).mono ?_; rintro e w1 ⟨rfl, hb⟩; replace H := H.next hb; replace hB := next hB hb; clear hb) | (go_at_call 11; refine (rlfit_any (H.get (by repeat (first | exact List.Mem.head _ | apply List.Mem.tail))) (Nat.le_refl _)).mono ?_; rintro e w1 ⟨rfl, hb⟩; replace H := H.next hb; replace hB := next hB hb; clear hb))
      go_ret
      exact ⟨rfl, hB⟩
    | true =>
      cases hfb : fitB L1 with
      | false =>
        go_enter Try.func4, Try.ntmps4
        go_wp2_with (first | (go_at_call 9; refine (few3_any _ _ _ _ _ _ _ _ _ _).mono ?_; rintro e w1 ⟨rfl, hb⟩; replace H := H.next hb; replace hB := next hB hb; clear hb) | (go_at_call 14; refine (awake_any _).mono ?_; rintro e w1 ⟨rfl, hb⟩; replace H := H.next hb; replace hB := next hB hb; clear hb) | (go_at_call 11; refine (rlfit_any (H.get (by repeat (first | exact List.Mem.head _ | apply List.Mem.tail))) (Nat.le_refl _)).mono ?_; rintro e w1 ⟨rfl, hb⟩; replace H := H.next hb; replace hB := next hB hb; clear hb))
        go_ret
        exact ⟨rfl, hB⟩
      | true =>
        cases hfc : fitB L2 with
        | false =>
          go_enter Try.func4, Try.ntmps4
          go_wp2_with (first | (go_at_call 9; refine (few3_any _ _ _ _ _ _ _ _ _ _).mono ?_; rintro e w1 ⟨rfl, hb⟩; replace H := H.next hb; replace hB := next hB hb; clear hb) | (go_at_call 14; refine (awake_any _).mono ?_; rintro e w1 ⟨rfl, hb⟩; replace H := H.next hb; replace hB := next hB hb; clear hb) | (go_at_call 11; refine (rlfit_any (H.get (by repeat (first | exact List.Mem.head _ | apply List.Mem.tail))) (Nat.le_refl _)).mono ?_; rintro e w1 ⟨rfl, hb⟩; replace H := H.next hb; replace hB := next hB hb; clear hb))
          go_ret
          exact ⟨rfl, hB⟩
        | true =>
          have HA := fit_iff hfa
          have HB := fit_iff hfb
          have HC := fit_iff hfc
          have f1 := leqB_refl HA
          have f2 := leq_j1 HA HB
          have f3 := leq_j2 HA HB
          have f4 := m1_leq HA HB
          have f5 := m2_leq HA HB
          cases hx : leqB L0 L1 <;> cases hy : leqB L1 L0 <;> cases hz : leqB L1 L2 <;> cases hu : leqB L0 L2 <;> cases hv : leqB L2 L0 <;> cases hs : leqB L2 L1
          all_goals try (exfalso; have q := leqB_trans HA HB HC hx hz; rw [hu] at q; exact absurd q Bool.false_ne_true)
          all_goals try (exfalso; have q := leqB_trans HA HC HB hu hs; rw [hx] at q; exact absurd q Bool.false_ne_true)
          all_goals try (exfalso; have q := leqB_trans HB HA HC hy hu; rw [hz] at q; exact absurd q Bool.false_ne_true)
          all_goals try (exfalso; have q := leqB_trans HB HC HA hz hv; rw [hy] at q; exact absurd q Bool.false_ne_true)
          all_goals try (exfalso; have q := leqB_trans HC HA HB hv hx; rw [hs] at q; exact absurd q Bool.false_ne_true)
          all_goals try (exfalso; have q := leqB_trans HC HB HA hs hy; rw [hv] at q; exact absurd q Bool.false_ne_true)
          all_goals
            try (have f6 : sameB L0 L1 = true := sameB_eq.2 (leqB_same HA HB hx hy))
            try (have f6 : sameB L0 L1 = false := by (cases hq : sameB L0 L1; rfl; exfalso; rw [sameB_eq] at hq; subst hq; simp [hx] at hy))
            try (have f7 := j_leq HA HB HC hu hz)
            try (have f8 := leq_m HA HB HC hv hs)
            clear HA HB HC
            go_enter Try.func4, Try.ntmps4
            go_wp2_with (first | (go_at_call 9; refine (few3_any _ _ _ _ _ _ _ _ _ _).mono ?_; rintro e w1 ⟨rfl, hb⟩; replace H := H.next hb; replace hB := next hB hb; clear hb) | (go_at_call 14; refine (awake_any _).mono ?_; rintro e w1 ⟨rfl, hb⟩; replace H := H.next hb; replace hB := next hB hb; clear hb) | (go_at_call 11; refine (rlfit_any (H.get (by repeat (first | exact List.Mem.head _ | apply List.Mem.tail))) (Nat.le_refl _)).mono ?_; rintro e w1 ⟨rfl, hb⟩; replace H := H.next hb; replace hB := next hB hb; clear hb) | (go_at_call 19; refine (lleq_any (B := 0) (H.get (by repeat (first | exact List.Mem.head _ | apply List.Mem.tail))) (H.get (by repeat (first | exact List.Mem.head _ | apply List.Mem.tail)))).mono ?_; rintro e w1 ⟨rfl, hb⟩; replace H := H.next hb; replace hB := next hB hb; clear hb) | (go_at_call 13; refine (rsame_any (H.get (by repeat (first | exact List.Mem.head _ | apply List.Mem.tail))) (Nat.le_refl _) (H.get (by repeat (first | exact List.Mem.head _ | apply List.Mem.tail))) (Nat.le_refl _)).mono ?_; rintro e w1 ⟨rfl, hb⟩; replace H := H.next hb; replace hB := next hB hb; clear hb) | (go_at_call 24; refine (ljoin_b (H.get (by repeat (first | exact List.Mem.head _ | apply List.Mem.tail))) (H.get (by repeat (first | exact List.Mem.head _ | apply List.Mem.tail))) (by omega) (by omega)).mono ?_; rintro e w1 ⟨ao1, n1, cap1, rfl, hl, hn, hb⟩; replace H := (H.next hb).push hl; replace hB := next hB hb; clear hb hl) | (go_at_call 25; refine (lmeet_b (H.get (by repeat (first | exact List.Mem.head _ | apply List.Mem.tail))) (H.get (by repeat (first | exact List.Mem.head _ | apply List.Mem.tail))) (by omega) (by omega)).mono ?_; rintro e w1 ⟨ao1, n1, cap1, rfl, hl, hn, hb⟩; replace H := (H.next hb).push hl; replace hB := next hB hb; clear hb hl))
            go_ret
            exact ⟨rfl, hB⟩

set_option maxRecDepth 100000 in
theorem lifted (os : Os) (started : os.Started) (H : Type) (enc : TypeId × Value → H) :
    ReturnsInHanded {} Try.checked os 4 .any (Rows.labelOrderSpec.pre6 enc Try.prog Try.f4 Rows.labelOrderRow.domain false) (Rows.labelOrderSpec.post enc Try.prog Try.f4 false true false false) := by
  refine returnsInHanded_of_change (C := Try.checked) own started (by kernel_rfl) Try.func4
    (ChangeSpec.witness6 (enc := enc) (C := Try.checked) false ⟨#[], #[.slice none 0 0, .slice none 0 0, .slice none 0 0], []⟩ 8 (by kernel_rfl) (by kernel_rfl) (by kernel_rfl) (by kernel_rfl)) ?_
  intro W base args ds gs before hval0 hW hcnd _
  have hval : ∀ (j : Nat) t v, Try.f4.params[j]? = some t → args[j]? = some v → Value.okWide Try.prog W .any base t v := hval0
  have hW' := hW
  obtain ⟨p, q, hA0, hV, rfl, hfz, hnd⟩ := hW
  have hA : DataW.TrodAll enc Try.prog W 0 (fun _ => true) true Try.f4.params.toList args.toList ds p := hA0
  rw [Try.params4] at hA hval
  obtain ⟨v0, vs0, d0, ds0, p0, q0, hargs, rfl, rfl, h0, r0⟩ := trodAll_cons hA
  obtain ⟨v1, vs1, d1, ds1, p1, q1, rfl, rfl, rfl, h1, r1⟩ := trodAll_cons r0
  obtain ⟨v2, vs2, d2, ds2, p2, q2, rfl, rfl, rfl, h2, r2⟩ := trodAll_cons r1
  obtain ⟨rfl, rfl, rfl⟩ := trodAll_nil r2
  obtain rfl : args = #[v0, v1, v2] := by cases args; simp_all
  obtain ⟨rfl, rfl⟩ := trodVars_none hV
  obtain ⟨ao0, n0, cap0, rfl⟩ := okWide_slice Try.underlying23 (hval 0 23 v0 rfl rfl)
  have k0 := h0
  have lt0 : ∀ x ∈ p0, x.block < W.heap.size := by obtain ⟨m, hm⟩ := k0; exact DataW.trod_lt m _ _ _ hm
  obtain ⟨L0, l0⟩ := lab_of_trod h0
  obtain ⟨ao1, n1, cap1, rfl⟩ := okWide_slice Try.underlying23 (hval 1 23 v1 rfl rfl)
  have k1 := h1
  have lt1 : ∀ x ∈ p1, x.block < W.heap.size := by obtain ⟨m, hm⟩ := k1; exact DataW.trod_lt m _ _ _ hm
  obtain ⟨L1, l1⟩ := lab_of_trod h1
  obtain ⟨ao2, n2, cap2, rfl⟩ := okWide_slice Try.underlying23 (hval 2 23 v2 rfl rfl)
  have k2 := h2
  have lt2 : ∀ x ∈ p2, x.block < W.heap.size := by obtain ⟨m, hm⟩ := k2; exact DataW.trod_lt m _ _ _ hm
  obtain ⟨L2, l2⟩ := lab_of_trod h2
  clear hA0 hval0
  refine (walk ao0 n0 cap0 L0 ao1 n1 cap1 L1 ao2 n2 cap2 L2 W l0 l1 l2).mono fun e W' ⟨he, bel⟩ => ?_
  subst he
  exact ⟨_, rfl, _, _, _, [], _, [], hW', trodAll_mk1 (shut_bool Try.underlying4 _), (trodAll_cons_mk (Below.trod laidOut (by kernel_rfl) (of_decide_eq_true (by kernel_rfl)) k0 bel lt0) (trodAll_cons_mk (Below.trod laidOut (by kernel_rfl) (of_decide_eq_true (by kernel_rfl)) k1 bel lt1) (trodAll_cons_mk (Below.trod laidOut (by kernel_rfl) (of_decide_eq_true (by kernel_rfl)) k2 bel lt2) trodAll_mk0))), rfl, bel.frame _, fun h => by cases h⟩

theorem over : Rows.labelOrderRow.holds Try.pinned (OpenSpec.ofChange Rows.labelOrderSpec) :=
  OpenClaim.holds_of_wide 4 Try.f4 rfl rfl rfl rfl rfl rfl rfl ⟨rfl, rfl, rfl, rfl, rfl⟩ rfl rfl rfl rfl rfl (by kernel_rfl) Try.func4 (by kernel_rfl)
    (of_decide_eq_true (by kernel_rfl)) (by unfold Func.isWrapper; first | (rw [if_pos (by decide +kernel)]; kernel_rfl) | (rw [if_neg (by decide +kernel)]; exact ⟨rfl, rfl⟩))
    (fun os started H enc _ => lifted os started H enc)

end labelOrder
/-- The statement. -/
theorem labelOrder_holds : Rows.LabelOrderSaid :=
  labelOrder.over
#print axioms labelOrder_holds
end Go.Proofs.Ytaekiclhddfonaa
