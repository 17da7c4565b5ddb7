/-
  PROVED HERE: for every two labels and every category the law LabelPoints returns true (P2.3: category by category). No condition.
-/
import Derived.Test.YtaekiclhddfonaaRows
import Derived.Test.YtaekiclhddfonaaLabArms
import Derived.WalkKit
import Derived.ProofKit
import Derived.OpenShut
import Derived.Below
import Derived.ShutString
import Derived.Deep.QuietTactic
namespace Go.Proofs.Ytaekiclhddfonaa
namespace labelPoints
open Go.ChangeShapes Go.WideShapes Go.ChangeAt Go.RowKit
open Go.ChangeMaps (open_string shut_string)
set_option linter.unusedVariables false

theorem own : ownKnob Try.prog.godebug = none := by kernel_rfl

theorem beqNo {x : Int} (h : 0 < x) : (x == 0) = false := by rw [beq_eq_false_iff_ne]; omega
theorem beqNo' {x : Int} (h : x < 5) : (x == 5) = false := by rw [beq_eq_false_iff_ne]; omega

set_option maxHeartbeats 8000000 in
theorem walk (ao0 : Option Addr) (n0 cap0 : Nat) (L0 : List (Int × Int)) (ao1 : Option Addr) (n1 cap1 : Nat) (L1 : List (Int × Int)) (a2 : Int) (w : World) (l0 : Lab w.heap.size w ao0 n0 cap0 L0) (l1 : Lab w.heap.size w ao1 n1 cap1 L1) (w2 : (Lit.int .u64 a2).wf = true) :
    Calls Try.prog 7 #[.slice ao0 n0 cap0, .slice ao1 n1 cap1, .int .u64 a2] w fun e w' => e = .returned (.bool true) ∧ Below w.heap.size w w' := by
  have hB := Below.refl w.heap.size w
  have H := (((Labs.nil w).push l1).push l0)
  clear l0 l1
  cases hfw : fewB [n0, n1] with
  | false =>
    go_enter Try.func7, Try.ntmps7
    go_wp2_with (first | (go_at_call 9; refine (few2_any _ _ _ _ _ _ _).mono ?_; rintro e w1 ⟨rfl, hb⟩; replace H := H.next hb; replace hB := next hB hb; clear hb) | (go_at_call 14; refine (awake_any _).mono ?_; rintro e w1 ⟨rfl, hb⟩; replace H := H.next hb; replace hB := next hB hb; clear hb))
    go_ret
    exact ⟨rfl, hB⟩
  | true =>
    obtain ⟨hn0, hn1⟩ := few_le2 hfw
    cases hf0 : fitB L0 with
    | false =>
      go_enter Try.func7, Try.ntmps7
      go_wp2_with (first | (go_at_call 9; refine (few2_any _ _ _ _ _ _ _).mono ?_; rintro e w1 ⟨rfl, hb⟩; replace H := H.next hb; replace hB := next hB hb; clear hb) | (go_at_call 14; refine (awake_any _).mono ?_; rintro e w1 ⟨rfl, hb⟩; replace H := H.next hb; replace hB := next hB hb; clear hb) | (go_at_call 11; refine (rlfit_any (H.get (by repeat (first | exact List.Mem.head _ | apply List.Mem.tail))) (Nat.le_refl _)).mono ?_; rintro e w1 ⟨rfl, hb⟩; replace H := H.next hb; replace hB := next hB hb; clear hb))
      go_ret
      exact ⟨rfl, hB⟩
    | true =>
      cases hf1 : fitB L1 with
      | false =>
        go_enter Try.func7, Try.ntmps7
        go_wp2_with (first | (go_at_call 9; refine (few2_any _ _ _ _ _ _ _).mono ?_; rintro e w1 ⟨rfl, hb⟩; replace H := H.next hb; replace hB := next hB hb; clear hb) | (go_at_call 14; refine (awake_any _).mono ?_; rintro e w1 ⟨rfl, hb⟩; replace H := H.next hb; replace hB := next hB hb; clear hb) | (go_at_call 11; refine (rlfit_any (H.get (by repeat (first | exact List.Mem.head _ | apply List.Mem.tail))) (Nat.le_refl _)).mono ?_; rintro e w1 ⟨rfl, hb⟩; replace H := H.next hb; replace hB := next hB hb; clear hb))
        go_ret
        exact ⟨rfl, hB⟩
      | true =>
        have F0 := fit_iff hf0
        have F1 := fit_iff hf1
        have r0 := F0.range a2
        have r1 := F1.range a2
        have g1 := joinL_get F0 F1 a2
        have g2 := meetL_get F0 F1 a2
        have g3 := raiseL_get F0 a2
        have g4 := lowerL_get F0 a2
        have g5 : leqB L0 L1 = true → get L0 a2 ≤ get L1 a2 := fun h => (leqB_iff F0 F1).1 h a2
        obtain ⟨x, hx⟩ : ∃ x, get L0 a2 = x := ⟨_, rfl⟩
        obtain ⟨y, hy⟩ : ∃ y, get L1 a2 = y := ⟨_, rfl⟩
        rw [hx, hy] at g1 g2 g5
        rw [hx] at g3 g4 r0
        rw [hy] at r1
        clear F0 F1
        have key : ∀ (j m u d : Int) (q : Bool), get (joinL L0 L1) a2 = j → get (meetL L0 L1) a2 = m → get (raiseL L0) a2 = u → get (lowerL L0) a2 = d → leqB L0 L1 = q → (x < y ∧ j = y ∧ m = x ∨ x = y ∧ j = x ∧ m = x ∨ y < x ∧ j = x ∧ m = y ∧ q = false) → (x = 0 ∧ u = 5 ∧ d = x ∨ x = 5 ∧ u = x ∧ d = 0 ∨ 0 < x ∧ x < 5 ∧ u = x ∧ d = x) →
            Calls Try.prog 7 #[.slice ao0 n0 cap0, .slice ao1 n1 cap1, .int .u64 a2] w fun e w' => e = .returned (.bool true) ∧ Below w.heap.size w w' := by
          intro j m u d q hj hm hu hd hq h1 h2
          clear g1 g2 g3 g4 g5
          rcases h1 with ⟨hxy, rfl, rfl⟩ | ⟨rfl, rfl, rfl⟩ | ⟨hxy, rfl, rfl, rfl⟩
          all_goals rcases h2 with ⟨rfl, rfl, rfl⟩ | ⟨rfl, rfl, rfl⟩ | ⟨h0, h5, rfl, rfl⟩
          all_goals try (exfalso; omega)
          all_goals try (have z0 := beqNo h0)
          all_goals try (have z5 := beqNo' h5)
          all_goals try cases q
          all_goals
            go_enter Try.func7, Try.ntmps7
            go_wp2_with (first | (go_at_call 9; refine (few2_any _ _ _ _ _ _ _).mono ?_; rintro e w1 ⟨rfl, hb⟩; replace H := H.next hb; replace hB := next hB hb; clear hb) | (go_at_call 14; refine (awake_any _).mono ?_; rintro e w1 ⟨rfl, hb⟩; replace H := H.next hb; replace hB := next hB hb; clear hb) | (go_at_call 11; refine (rlfit_any (H.get (by repeat (first | exact List.Mem.head _ | apply List.Mem.tail))) (Nat.le_refl _)).mono ?_; rintro e w1 ⟨rfl, hb⟩; replace H := H.next hb; replace hB := next hB hb; clear hb) | (go_at_call 13; refine (rsame_any (H.get (by repeat (first | exact List.Mem.head _ | apply List.Mem.tail))) (Nat.le_refl _) (H.get (by repeat (first | exact List.Mem.head _ | apply List.Mem.tail))) (Nat.le_refl _)).mono ?_; rintro e w1 ⟨rfl, hb⟩; replace H := H.next hb; replace hB := next hB hb; clear hb) | (go_at_call 24; refine (ljoin_b (H.get (by repeat (first | exact List.Mem.head _ | apply List.Mem.tail))) (H.get (by repeat (first | exact List.Mem.head _ | apply List.Mem.tail))) (by omega) (by omega)).mono ?_; rintro e w1 ⟨ao1, n1, cap1, rfl, hl, hn, hb⟩; replace H := (H.next hb).push hl; replace hB := next hB hb; clear hb hl) | (go_at_call 25; refine (lmeet_b (H.get (by repeat (first | exact List.Mem.head _ | apply List.Mem.tail))) (H.get (by repeat (first | exact List.Mem.head _ | apply List.Mem.tail))) (by omega) (by omega)).mono ?_; rintro e w1 ⟨ao1, n1, cap1, rfl, hl, hn, hb⟩; replace H := (H.next hb).push hl; replace hB := next hB hb; clear hb hl) | (go_at_call 17; refine (get_any _ (H.get (by repeat (first | exact List.Mem.head _ | apply List.Mem.tail))) (Nat.le_refl _)).mono ?_; rintro e w1 ⟨rfl, hb⟩; replace H := H.next hb; replace hB := next hB hb; clear hb) | (go_at_call 19; refine (lleq_any (B := 0) (H.get (by repeat (first | exact List.Mem.head _ | apply List.Mem.tail))) (H.get (by repeat (first | exact List.Mem.head _ | apply List.Mem.tail)))).mono ?_; rintro e w1 ⟨rfl, hb⟩; replace H := H.next hb; replace hB := next hB hb; clear hb) | (go_at_call 26; refine (lraise_b (H.get (by repeat (first | exact List.Mem.head _ | apply List.Mem.tail))) (by omega)).mono ?_; rintro e w1 ⟨ao1, n1, cap1, rfl, hl, hn, hb⟩; replace H := (H.next hb).push hl; replace hB := next hB hb; clear hb hl) | (go_at_call 27; refine (llower_b (H.get (by repeat (first | exact List.Mem.head _ | apply List.Mem.tail))) (by omega)).mono ?_; rintro e w1 ⟨ao1, n1, cap1, rfl, hl, hn, hb⟩; replace H := (H.next hb).push hl; replace hB := next hB hb; clear hb hl))
            go_ret
            exact ⟨rfl, hB⟩
        refine key _ _ _ _ _ g1 g2 g3 g4 rfl ?_ ?_
        · rcases Int.lt_trichotomy x y with h | h | h
          · exact .inl ⟨h, by omega, by omega⟩
          · exact .inr (.inl ⟨h, by omega, by omega⟩)
          · refine .inr (.inr ⟨h, by omega, by omega, ?_⟩)
            cases hq : leqB L0 L1 with
            | false => rfl
            | true => have := g5 hq; omega
        · by_cases h0 : x = 0
          · exact .inl ⟨h0, by rw [if_pos h0], by rw [if_neg (by omega)]⟩
          · by_cases h5 : x = 5
            · exact .inr (.inl ⟨h5, by rw [if_neg h0], by rw [if_pos h5]⟩)
            · exact .inr (.inr ⟨by omega, by omega, by rw [if_neg h0], by rw [if_neg h5]⟩)

set_option maxRecDepth 100000 in
theorem lifted (os : Os) (started : os.Started) (H : Type) (enc : TypeId × Value → H) :
    ReturnsInHanded {} Try.checked os 7 .any (Rows.labelPointsSpec.pre6 enc Try.prog Try.f7 Rows.labelPointsRow.domain false) (Rows.labelPointsSpec.post enc Try.prog Try.f7 false true false false) := by
  refine returnsInHanded_of_change (C := Try.checked) own started (by kernel_rfl) Try.func7
    (ChangeSpec.witness6 (enc := enc) (C := Try.checked) false ⟨#[], #[.slice none 0 0, .slice none 0 0, .int .u64 0], []⟩ 8 (by kernel_rfl) (by kernel_rfl) (by kernel_rfl) (by kernel_rfl)) ?_
  intro W base args ds gs before hval0 hW hcnd _
  have hval : ∀ (j : Nat) t v, Try.f7.params[j]? = some t → args[j]? = some v → Value.okWide Try.prog W .any base t v := hval0
  have hW' := hW
  obtain ⟨p, q, hA0, hV, rfl, hfz, hnd⟩ := hW
  have hA : DataW.TrodAll enc Try.prog W 0 (fun _ => true) true Try.f7.params.toList args.toList ds p := hA0
  rw [Try.params7] at hA hval
  obtain ⟨v0, vs0, d0, ds0, p0, q0, hargs, rfl, rfl, h0, r0⟩ := trodAll_cons hA
  obtain ⟨v1, vs1, d1, ds1, p1, q1, rfl, rfl, rfl, h1, r1⟩ := trodAll_cons r0
  obtain ⟨v2, vs2, d2, ds2, p2, q2, rfl, rfl, rfl, h2, r2⟩ := trodAll_cons r1
  obtain ⟨rfl, rfl, rfl⟩ := trodAll_nil r2
  obtain rfl : args = #[v0, v1, v2] := by cases args; simp_all
  obtain ⟨rfl, rfl⟩ := trodVars_none hV
  obtain ⟨ao0, n0, cap0, rfl⟩ := okWide_slice Try.underlying23 (hval 0 23 v0 rfl rfl)
  have k0 := h0
  have lt0 : ∀ x ∈ p0, x.block < W.heap.size := by obtain ⟨m, hm⟩ := k0; exact DataW.trod_lt m _ _ _ hm
  obtain ⟨L0, l0⟩ := lab_of_trod h0
  obtain ⟨ao1, n1, cap1, rfl⟩ := okWide_slice Try.underlying23 (hval 1 23 v1 rfl rfl)
  have k1 := h1
  have lt1 : ∀ x ∈ p1, x.block < W.heap.size := by obtain ⟨m, hm⟩ := k1; exact DataW.trod_lt m _ _ _ hm
  obtain ⟨L1, l1⟩ := lab_of_trod h1
  obtain ⟨a2, rfl, rfl, rfl, w2⟩ := open_int Try.underlying24 (hval 2 24 v2 rfl rfl) h2
  clear hA0 hval0
  refine (walk ao0 n0 cap0 L0 ao1 n1 cap1 L1 a2 W l0 l1 w2).mono fun e W' ⟨he, bel⟩ => ?_
  subst he
  exact ⟨_, rfl, _, _, _, [], _, [], hW', trodAll_mk1 (shut_bool Try.underlying4 _), (trodAll_cons_mk (Below.trod laidOut (by kernel_rfl) (of_decide_eq_true (by kernel_rfl)) k0 bel lt0) (trodAll_cons_mk (Below.trod laidOut (by kernel_rfl) (of_decide_eq_true (by kernel_rfl)) k1 bel lt1) (trodAll_cons_mk (shut_int Try.underlying24 w2) trodAll_mk0))), rfl, bel.frame _, fun h => by cases h⟩

theorem over : Rows.labelPointsRow.holds Try.pinned (OpenSpec.ofChange Rows.labelPointsSpec) :=
  OpenClaim.holds_of_wide 7 Try.f7 rfl rfl rfl rfl rfl rfl rfl ⟨rfl, rfl, rfl, rfl, rfl⟩ rfl rfl rfl rfl rfl (by kernel_rfl) Try.func7 (by kernel_rfl)
    (of_decide_eq_true (by kernel_rfl)) (by unfold Func.isWrapper; first | (rw [if_pos (by decide +kernel)]; kernel_rfl) | (rw [if_neg (by decide +kernel)]; exact ⟨rfl, rfl⟩))
    (fun os started H enc _ => lifted os started H enc)

end labelPoints
/-- The statement. -/
theorem labelPoints_holds : Rows.LabelPointsSaid :=
  labelPoints.over
#print axioms labelPoints_holds
end Go.Proofs.Ytaekiclhddfonaa
