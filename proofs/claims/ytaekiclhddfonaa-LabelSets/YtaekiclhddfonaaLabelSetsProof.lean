/-
  PROVED HERE: for every label, every two categories and every level the law LabelSets returns true (P2.5, P2.6: a level that was set is there; raised and lowered again a label is itself). No condition.
-/
import Derived.Test.YtaekiclhddfonaaRows
import Derived.Test.YtaekiclhddfonaaLabMath2
import Derived.WalkKit
import Derived.ProofKit
import Derived.OpenShut
import Derived.Below
import Derived.ShutString
import Derived.Deep.QuietTactic
import Derived.Deep.DeepCutAuto
namespace Go.Proofs.Ytaekiclhddfonaa
namespace labelSets
open Go.ChangeShapes Go.WideShapes Go.ChangeAt Go.RowKit
open Go.ChangeMaps (open_string shut_string)
set_option linter.unusedVariables false

theorem own : ownKnob Try.prog.godebug = none := by kernel_rfl

set_option maxRecDepth 100000 in
set_option maxHeartbeats 8000000 in
theorem walk (ao0 : Option Addr) (n0 cap0 : Nat) (L0 : List (Int × Int)) (a1 : Int) (a2 : Int) (a3 : Int) (w : World) (l0 : Lab w.heap.size w ao0 n0 cap0 L0) (w1 : (Lit.int .u64 a1).wf = true) (w2 : (Lit.int .u64 a2).wf = true) (w3 : (Lit.int .i64 a3).wf = true) :
    Calls Try.prog 6 #[.slice ao0 n0 cap0, .int .u64 a1, .int .u64 a2, .int .i64 a3] w fun e w' => e = .returned (.bool true) ∧ Below w.heap.size w w' := by
  have hB := Below.refl w.heap.size w
  have H := ((Labs.nil w).push l0)
  clear l0
  cases hfw : fewB [n0] with
  | false =>
    go_enter Try.func6, Try.ntmps6
    go_wp2_with (first | (go_at_call 9; refine (few1_any _ _ _ _).mono ?_; rintro e w1 ⟨rfl, hb⟩; replace H := H.next hb; replace hB := next hB hb; clear hb) | (go_at_call 14; refine (awake_any _).mono ?_; rintro e w1 ⟨rfl, hb⟩; replace H := H.next hb; replace hB := next hB hb; clear hb))
    go_ret
    exact ⟨rfl, hB⟩
  | true =>
    have hn0 := few_le1 hfw
    cases hf0 : fitB L0 with
    | false =>
      go_enter Try.func6, Try.ntmps6
      go_wp2_with (first | (go_at_call 9; refine (few1_any _ _ _ _).mono ?_; rintro e w1 ⟨rfl, hb⟩; replace H := H.next hb; replace hB := next hB hb; clear hb) | (go_at_call 14; refine (awake_any _).mono ?_; rintro e w1 ⟨rfl, hb⟩; replace H := H.next hb; replace hB := next hB hb; clear hb) | (go_at_call 11; refine (rlfit_any (H.get (by repeat (first | exact List.Mem.head _ | apply List.Mem.tail))) (Nat.le_refl _)).mono ?_; rintro e w1 ⟨rfl, hb⟩; replace H := H.next hb; replace hB := next hB hb; clear hb))
      go_ret
      exact ⟨rfl, hB⟩
    | true =>
      have F0 := fit_iff hf0
      by_cases hE : setE L0 a1 a3 = 0
      · have g1 : get (setL L0 a1 a3) a1 = a3 := by rw [set_get F0 hE, if_pos rfl]
        have g2 : Hid (a1 ≠ a2 → get (setL L0 a1 a3) a2 = get L0 a2) := fun h => by rw [set_get F0 hE, if_neg (Ne.symm h)]
        have g3 : Hid (setE (setL L0 a1 a3) a1 (get L0 a1) = 0 → sameB (setL (setL L0 a1 a3) a1 (get L0 a1)) L0 = true) := fun h => set_back F0 hE h
        have fO := raise_owned F0
        have f3 := leq_up F0
        have f4 := down_leq F0
        have h5 : Hid (∀ k, L0.length ≤ k → anyK L0 5 k = false → sameB (lowerL (raiseL L0)) L0 = true) := fun k hk h => up_down F0 (any_no (by omega) hk h)
        have h0 : Hid (∀ k, L0.length ≤ k → anyK L0 0 k = false → sameB (raiseL (lowerL L0)) L0 = true) := fun k hk h => down_up F0 (any_no (by omega) hk h)
        clear F0
        go_enter Try.func6, Try.ntmps6
        go_upto_region 6 with (first | (go_at_call 9; refine (few1_any _ _ _ _).mono ?_; rintro e w1 ⟨rfl, hb⟩; replace H := H.next hb; replace hB := next hB hb; clear hb) | (go_at_call 14; refine (awake_any _).mono ?_; rintro e w1 ⟨rfl, hb⟩; replace H := H.next hb; replace hB := next hB hb; clear hb) | (go_at_call 11; refine (rlfit_any (H.get (by repeat (first | exact List.Mem.head _ | apply List.Mem.tail))) (Nat.le_refl _)).mono ?_; rintro e w1 ⟨rfl, hb⟩; replace H := H.next hb; replace hB := next hB hb; clear hb) | (go_at_call 15; refine (lset_b _ _ (H.get (by repeat (first | exact List.Mem.head _ | apply List.Mem.tail))) (by omega)).mono ?_; rintro e w1 ⟨aoB, nB, capB, rfl, hl, hn, hb⟩; replace H := (H.next hb).push hl; replace hB := next hB hb; clear hb hl))
        go_cut [62] (fun s wc => s = .bool false ∧ Labs wc [(aoB, nB, capB, setL L0 a1 a3), (ao0, n0, cap0, L0)] ∧ Below w.heap.size w wc)
        case first =>
          by_cases h12 : a1 = a2
          · subst h12
            go_wp2_with (go_at_call 17; refine (get_any _ (H.get (by repeat (first | exact List.Mem.head _ | apply List.Mem.tail))) (Nat.le_refl _)).mono ?_; rintro e w1 ⟨rfl, hb⟩; replace H := H.next hb; replace hB := next hB hb; clear hb)
            go_meet
            case rel => exact ⟨rfl, H, hB⟩
          · have hne : (a1 == a2) = false := by simpa using h12
            have g2' := g2.out h12
            go_wp2_with (go_at_call 17; refine (get_any _ (H.get (by repeat (first | exact List.Mem.head _ | apply List.Mem.tail))) (Nat.le_refl _)).mono ?_; rintro e w1 ⟨rfl, hb⟩; replace H := H.next hb; replace hB := next hB hb; clear hb)
            go_meet
            case rel => exact ⟨rfl, H, hB⟩
        case rest =>
          clear H hB
          obtain ⟨rfl, H, hB⟩ := hcut
          go_upto_region 9 with (first | (go_at_call 17; refine (get_any _ (H.get (by repeat (first | exact List.Mem.head _ | apply List.Mem.tail))) (Nat.le_refl _)).mono ?_; rintro e w1 ⟨rfl, hb⟩; replace H := H.next hb; replace hB := next hB hb; clear hb) | (go_at_call 15; refine (lset_b _ _ (H.get (by repeat (first | exact List.Mem.head _ | apply List.Mem.tail))) (by omega)).mono ?_; rintro e w1 ⟨ao1, n1, cap1, rfl, hl, hn, hb⟩; replace H := (H.next hb).push hl; replace hB := next hB hb; clear hb hl))
          go_cut [12, 79] (fun _ s wc => s = .bool false ∧ Labs wc [(aoB, nB, capB, setL L0 a1 a3), (ao0, n0, cap0, L0)] ∧ Below w.heap.size w wc)
          case first =>
            by_cases h12 : setE (setL L0 a1 a3) a1 (get L0 a1) = 0
            · have g3' := g3.out h12
              go_wp2_with (go_at_call 13; refine (rsame_any (H.get (by repeat (first | exact List.Mem.head _ | apply List.Mem.tail))) (Nat.le_refl _) (H.get (by repeat (first | exact List.Mem.head _ | apply List.Mem.tail))) (Nat.le_refl _)).mono ?_; rintro e w1 ⟨rfl, hb⟩; replace H := H.next hb; replace hB := next hB hb; clear hb)
              go_meet
              case rel => exact ⟨rfl, fun x hx => H x (List.Mem.tail _ hx), hB⟩
            · have hne : (setE (setL L0 a1 a3) a1 (get L0 a1) == 0) = false := by simpa using h12
              go_wp2_with (go_at_call 13; refine (rsame_any (H.get (by repeat (first | exact List.Mem.head _ | apply List.Mem.tail))) (Nat.le_refl _) (H.get (by repeat (first | exact List.Mem.head _ | apply List.Mem.tail))) (Nat.le_refl _)).mono ?_; rintro e w1 ⟨rfl, hb⟩; replace H := H.next hb; replace hB := next hB hb; clear hb)
              go_meet
              case rel => exact ⟨rfl, fun x hx => H x (List.Mem.tail _ hx), hB⟩
          case rest =>
            clear H hB
            obtain ⟨rfl, H, hB⟩ := hcut
            go_wp2
            have hl0 := (H.get (L := L0) (by repeat (first | exact List.Mem.head _ | apply List.Mem.tail))).1
            have hlc := (H.get (L := L0) (by repeat (first | exact List.Mem.head _ | apply List.Mem.tail))).2.1
            have hlm := (H.get (L := L0) (by repeat (first | exact List.Mem.head _ | apply List.Mem.tail))).2.2.1.1
            go_loopw [13, 14, 82] (fun va vo i wr => ∃ (k : Nat) (p r : Bool), k ≤ n0 ∧ i = .int .i64 k ∧ va = .bool p ∧ vo = .bool r ∧ Hid (anyK L0 5 k = p) ∧ Hid (anyK L0 0 k = r) ∧ Labs wr [(ao0, n0, cap0, L0)] ∧ Below w.heap.size w wr) (fun _ _ i _ => n0 - (intOf i).toNat)
            case atStart => exact ⟨0, false, false, Nat.zero_le _, rfl, rfl, rfl, anyK_zero _ _, anyK_zero _ _, (Labs.nil _).push (H.get (L := L0) (by repeat (first | exact List.Mem.head _ | apply List.Mem.tail))), hB⟩
            case round =>
              clear H hB
              obtain ⟨k, p, r, hk, rfl, rfl, rfl, hp, hr, H, hB⟩ := hrel
              by_cases hkn : k < n0
              · obtain ⟨b, off, x, y, hao, hbB, d0, d1, hxy⟩ := (H.get (List.Mem.head _)).at (Below.refl _ _) hkn
                subst hao
                have s5 := anyK_succ (v := 5) (by omega) hxy.out
                have s0 := anyK_succ (v := 0) (by omega) hxy.out
                rw [hp.out] at s5
                rw [hr.out] at s0
                have S5 : Hid (anyK L0 5 (k + 1) = (p || decide (y = 5))) := s5
                have S0 : Hid (anyK L0 0 (k + 1) = (r || decide (y = 0))) := s0
                clear s5 s0
                have hkn' : (k : Int) < n0 := by omega
                have key2 : ∀ (p' r' : Bool) (wr' : World), (p || decide (y = 5)) = p' → (r || decide (y = 0)) = r' → Below wr.heap.size wr wr' → ∃ (k' : Nat) (p'' r'' : Bool), k' ≤ n0 ∧ Value.int .i64 ((k : Int) + 1) = .int .i64 k' ∧ Value.bool p' = .bool p'' ∧ Value.bool r' = .bool r'' ∧ Hid (anyK L0 5 k' = p'') ∧ Hid (anyK L0 0 k' = r'') ∧ Labs wr' [(some ⟨b, off, none⟩, n0, cap0, L0)] ∧ Below w.heap.size w wr' :=
                  fun p' r' wr' e1 e2 hb' => ⟨k + 1, p', r', by omega, by go_num, rfl, rfl, S5.out.trans e1, S0.out.trans e2, H.next hb', hB.trans (hb'.mono hB.size)⟩
                clear S5 S0
                have HK : Hid _ := key2
                clear key2
                cases p <;> cases r
                all_goals by_cases y5 : y = 5
                all_goals try (subst y5)
                all_goals try (have b5 : (y == 5) = false := by simpa using y5)
                all_goals try (by_cases y0 : y = 0)
                all_goals try (subst y0)
                all_goals try (have b0 : (y == 0) = false := by simpa using y0)
                all_goals
                  go_wp2
                  go_roundw
                  case rel => first | exact HK.out _ _ _ rfl rfl ((Below.refl _ _).alloc (Nat.le_refl _) _) | exact HK.out _ _ _ (by simp [y5]) (by simp [y0]) ((Below.refl _ _).alloc (Nat.le_refl _) _) | exact HK.out _ _ _ (by simp [y5]) (by simp) ((Below.refl _ _).alloc (Nat.le_refl _) _) | exact HK.out _ _ _ (by simp) (by simp) ((Below.refl _ _).alloc (Nat.le_refl _) _)
                  case measure => simp [intOf]; omega
              · have h5' := h5.out k (by omega)
                have h0' := h0.out k (by omega)
                rw [hp.out] at h5'
                rw [hr.out] at h0'
                cases p <;> cases r
                all_goals try (have t5 := h5' rfl)
                all_goals try (have t0 := h0' rfl)
                all_goals
                  clear h5' h0'
                  go_wp2_with (first | (go_at_call 14; refine (awake_any _).mono ?_; rintro e w1 ⟨rfl, hb⟩; replace H := H.next hb; replace hB := next hB hb; clear hb) | (go_at_call 26; refine (lraise_b (H.get (by repeat (first | exact List.Mem.head _ | apply List.Mem.tail))) (by omega)).mono ?_; rintro e w1 ⟨ao1, n1, cap1, rfl, hl, hn, hb⟩; replace H := (H.next hb).push hl; replace hB := next hB hb; clear hb hl) | (go_at_call 27; refine (llower_b (H.get (by repeat (first | exact List.Mem.head _ | apply List.Mem.tail))) (by omega)).mono ?_; rintro e w1 ⟨ao1, n1, cap1, rfl, hl, hn, hb⟩; replace H := (H.next hb).push hl; replace hB := next hB hb; clear hb hl) | (go_at_call 13; refine (rsame_any (H.get (by repeat (first | exact List.Mem.head _ | apply List.Mem.tail))) (Nat.le_refl _) (H.get (by repeat (first | exact List.Mem.head _ | apply List.Mem.tail))) (Nat.le_refl _)).mono ?_; rintro e w1 ⟨rfl, hb⟩; replace H := H.next hb; replace hB := next hB hb; clear hb) | (go_at_call 22; refine (owned_any (H.get (by repeat (first | exact List.Mem.head _ | apply List.Mem.tail))) (by omega)).mono ?_; rintro e w1 ⟨aoX, nX, capX, rfl, hX, hb⟩; obtain rfl : nX = 0 := (by simpa [fO] using hX.1.symm); replace H := H.next hb; replace hB := next hB hb; clear hb) | (go_at_call 19; refine (lleq_any (B := 0) (H.get (by repeat (first | exact List.Mem.head _ | apply List.Mem.tail))) (H.get (by repeat (first | exact List.Mem.head _ | apply List.Mem.tail)))).mono ?_; rintro e w1 ⟨rfl, hb⟩; replace H := H.next hb; replace hB := next hB hb; clear hb))
                  go_ret
                  exact ⟨rfl, hB⟩
      · have hL := setE_no hE
        have hE0 : (setE L0 a1 a3 == 0) = false := by simpa using hE
        have f2 : sameB (setL L0 a1 a3) L0 = true := by rw [hL]; exact sameB_refl L0
        clear hL hE
        go_enter Try.func6, Try.ntmps6
        go_wp2_with (first | (go_at_call 9; refine (few1_any _ _ _ _).mono ?_; rintro e w1 ⟨rfl, hb⟩; replace H := H.next hb; replace hB := next hB hb; clear hb) | (go_at_call 14; refine (awake_any _).mono ?_; rintro e w1 ⟨rfl, hb⟩; replace H := H.next hb; replace hB := next hB hb; clear hb) | (go_at_call 11; refine (rlfit_any (H.get (by repeat (first | exact List.Mem.head _ | apply List.Mem.tail))) (Nat.le_refl _)).mono ?_; rintro e w1 ⟨rfl, hb⟩; replace H := H.next hb; replace hB := next hB hb; clear hb) | (go_at_call 13; refine (rsame_any (H.get (by repeat (first | exact List.Mem.head _ | apply List.Mem.tail))) (Nat.le_refl _) (H.get (by repeat (first | exact List.Mem.head _ | apply List.Mem.tail))) (Nat.le_refl _)).mono ?_; rintro e w1 ⟨rfl, hb⟩; replace H := H.next hb; replace hB := next hB hb; clear hb) | (go_at_call 15; refine (lset_b _ _ (H.get (by repeat (first | exact List.Mem.head _ | apply List.Mem.tail))) (by omega)).mono ?_; rintro e w1 ⟨ao1, n1, cap1, rfl, hl, hn, hb⟩; replace H := (H.next hb).push hl; replace hB := next hB hb; clear hb hl))
        go_ret
        exact ⟨rfl, hB⟩

set_option maxRecDepth 100000 in
theorem lifted (os : Os) (started : os.Started) (H : Type) (enc : TypeId × Value → H) :
    ReturnsInHanded {} Try.checked os 6 .any (Rows.labelSetsSpec.pre6 enc Try.prog Try.f6 Rows.labelSetsRow.domain false) (Rows.labelSetsSpec.post enc Try.prog Try.f6 false true false false) := by
  refine returnsInHanded_of_change (C := Try.checked) own started (by kernel_rfl) Try.func6
    (ChangeSpec.witness6 (enc := enc) (C := Try.checked) false ⟨#[], #[.slice none 0 0, .int .u64 0, .int .u64 0, .int .i64 0], []⟩ 8 (by kernel_rfl) (by kernel_rfl) (by kernel_rfl) (by kernel_rfl)) ?_
  intro W base args ds gs before hval0 hW hcnd _
  have hval : ∀ (j : Nat) t v, Try.f6.params[j]? = some t → args[j]? = some v → Value.okWide Try.prog W .any base t v := hval0
  have hW' := hW
  obtain ⟨p, q, hA0, hV, rfl, hfz, hnd⟩ := hW
  have hA : DataW.TrodAll enc Try.prog W 0 (fun _ => true) true Try.f6.params.toList args.toList ds p := hA0
  rw [Try.params6] at hA hval
  obtain ⟨v0, vs0, d0, ds0, p0, q0, hargs, rfl, rfl, h0, r0⟩ := trodAll_cons hA
  obtain ⟨v1, vs1, d1, ds1, p1, q1, rfl, rfl, rfl, h1, r1⟩ := trodAll_cons r0
  obtain ⟨v2, vs2, d2, ds2, p2, q2, rfl, rfl, rfl, h2, r2⟩ := trodAll_cons r1
  obtain ⟨v3, vs3, d3, ds3, p3, q3, rfl, rfl, rfl, h3, r3⟩ := trodAll_cons r2
  obtain ⟨rfl, rfl, rfl⟩ := trodAll_nil r3
  obtain rfl : args = #[v0, v1, v2, v3] := by cases args; simp_all
  obtain ⟨rfl, rfl⟩ := trodVars_none hV
  obtain ⟨ao0, n0, cap0, rfl⟩ := okWide_slice Try.underlying23 (hval 0 23 v0 rfl rfl)
  have k0 := h0
  have lt0 : ∀ x ∈ p0, x.block < W.heap.size := by obtain ⟨m, hm⟩ := k0; exact DataW.trod_lt m _ _ _ hm
  obtain ⟨L0, l0⟩ := lab_of_trod h0
  obtain ⟨a1, rfl, rfl, rfl, w1⟩ := open_int Try.underlying24 (hval 1 24 v1 rfl rfl) h1
  obtain ⟨a2, rfl, rfl, rfl, w2⟩ := open_int Try.underlying24 (hval 2 24 v2 rfl rfl) h2
  obtain ⟨a3, rfl, rfl, rfl, w3⟩ := open_int Try.underlying3 (hval 3 3 v3 rfl rfl) h3
  clear hA0 hval0
  refine (walk ao0 n0 cap0 L0 a1 a2 a3 W l0 w1 w2 w3).mono fun e W' ⟨he, bel⟩ => ?_
  subst he
  exact ⟨_, rfl, _, _, _, [], _, [], hW', trodAll_mk1 (shut_bool Try.underlying4 _), (trodAll_cons_mk (Below.trod laidOut (by kernel_rfl) (of_decide_eq_true (by kernel_rfl)) k0 bel lt0) (trodAll_cons_mk (shut_int Try.underlying24 w1) (trodAll_cons_mk (shut_int Try.underlying24 w2) (trodAll_cons_mk (shut_int Try.underlying3 w3) trodAll_mk0)))), rfl, bel.frame _, fun h => by cases h⟩

theorem over : Rows.labelSetsRow.holds Try.pinned (OpenSpec.ofChange Rows.labelSetsSpec) :=
  OpenClaim.holds_of_wide 6 Try.f6 rfl rfl rfl rfl rfl rfl rfl ⟨rfl, rfl, rfl, rfl, rfl⟩ rfl rfl rfl rfl rfl (by kernel_rfl) Try.func6 (by kernel_rfl)
    (of_decide_eq_true (by kernel_rfl)) (by unfold Func.isWrapper; first | (rw [if_pos (by decide +kernel)]; kernel_rfl) | (rw [if_neg (by decide +kernel)]; exact ⟨rfl, rfl⟩))
    (fun os started H enc _ => lifted os started H enc)

end labelSets
/-- The statement. -/
theorem labelSets_holds : Rows.LabelSetsSaid :=
  labelSets.over
#print axioms labelSets_holds
end Go.Proofs.Ytaekiclhddfonaa
