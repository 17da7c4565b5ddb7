/-
  PROVED HERE: for every two labels and every category the law LabelOwns returns true (P2.3: what a label owns). No condition.
-/
import Derived.Test.YtaekiclhddfonaaRows
import Derived.Test.YtaekiclhddfonaaLabMath2
import Derived.WalkKit
import Derived.ProofKit
import Derived.OpenShut
import Derived.Below
import Derived.ShutString
import Derived.Deep.QuietTactic
namespace Go.Proofs.Ytaekiclhddfonaa
namespace labelOwns
open Go.ChangeShapes Go.WideShapes Go.ChangeAt Go.RowKit
open Go.ChangeMaps (open_string shut_string)
set_option linter.unusedVariables false

theorem own : ownKnob Try.prog.godebug = none := by kernel_rfl

set_option maxHeartbeats 8000000 in
theorem walk (ao0 : Option Addr) (n0 cap0 : Nat) (L0 : List (Int × Int)) (ao1 : Option Addr) (n1 cap1 : Nat) (L1 : List (Int × Int)) (a2 : Int) (w : World) (l0 : Lab w.heap.size w ao0 n0 cap0 L0) (l1 : Lab w.heap.size w ao1 n1 cap1 L1) (w2 : (Lit.int .u64 a2).wf = true) :
    Calls Try.prog 8 #[.slice ao0 n0 cap0, .slice ao1 n1 cap1, .int .u64 a2] w fun e w' => e = .returned (.bool true) ∧ Below w.heap.size w w' := by
  have hB := Below.refl w.heap.size w
  have H := (((Labs.nil w).push l1).push l0)
  clear l0 l1
  cases hfw : fewB [n0, n1] with
  | false =>
    go_enter Try.func8, Try.ntmps8
    go_wp2_with (first | (go_at_call 9; refine (few2_any _ _ _ _ _ _ _).mono ?_; rintro e w1 ⟨rfl, hb⟩; replace H := H.next hb; replace hB := next hB hb; clear hb) | (go_at_call 14; refine (awake_any _).mono ?_; rintro e w1 ⟨rfl, hb⟩; replace H := H.next hb; replace hB := next hB hb; clear hb))
    go_ret
    exact ⟨rfl, hB⟩
  | true =>
    obtain ⟨hn0, hn1⟩ := few_le2 hfw
    cases hf0 : fitB L0 with
    | false =>
      go_enter Try.func8, Try.ntmps8
      go_wp2_with (first | (go_at_call 9; refine (few2_any _ _ _ _ _ _ _).mono ?_; rintro e w1 ⟨rfl, hb⟩; replace H := H.next hb; replace hB := next hB hb; clear hb) | (go_at_call 14; refine (awake_any _).mono ?_; rintro e w1 ⟨rfl, hb⟩; replace H := H.next hb; replace hB := next hB hb; clear hb) | (go_at_call 11; refine (rlfit_any (H.get (by repeat (first | exact List.Mem.head _ | apply List.Mem.tail))) (Nat.le_refl _)).mono ?_; rintro e w1 ⟨rfl, hb⟩; replace H := H.next hb; replace hB := next hB hb; clear hb))
      go_ret
      exact ⟨rfl, hB⟩
    | true =>
      cases hf1 : fitB L1 with
      | false =>
        go_enter Try.func8, Try.ntmps8
        go_wp2_with (first | (go_at_call 9; refine (few2_any _ _ _ _ _ _ _).mono ?_; rintro e w1 ⟨rfl, hb⟩; replace H := H.next hb; replace hB := next hB hb; clear hb) | (go_at_call 14; refine (awake_any _).mono ?_; rintro e w1 ⟨rfl, hb⟩; replace H := H.next hb; replace hB := next hB hb; clear hb) | (go_at_call 11; refine (rlfit_any (H.get (by repeat (first | exact List.Mem.head _ | apply List.Mem.tail))) (Nat.le_refl _)).mono ?_; rintro e w1 ⟨rfl, hb⟩; replace H := H.next hb; replace hB := next hB hb; clear hb))
        go_ret
        exact ⟨rfl, hB⟩
      | true =>
        have F0 := fit_iff hf0
        have F1 := fit_iff hf1
        obtain ⟨b0, R0⟩ := F0.rc
        have hri := owned_ri R0
        have fO := raise_owned F0
        have z1 := join_zero F0 F1 a2
        have z2 := meet_zero F0 F1 a2
        have HR : Hid (∀ k, k + 1 < (owned L0).length → (owned L0).getD k 0 < (owned L0).getD (k + 1) 0) := fun k hk => hri.step hk
        have HG : Hid (∀ k, k < (owned L0).length → get L0 ((owned L0).getD k 0) = 0) := fun k hk => owned_at R0 hk
        have HE : Hid (∀ k, (owned L0).length ≤ k → inK L0 a2 k = (get L0 a2 == 0)) := fun k hk => inK_all R0 hk
        clear hri R0 F0 F1
        go_enter Try.func8, Try.ntmps8
        go_wp2_with (first | (go_at_call 9; refine (few2_any _ _ _ _ _ _ _).mono ?_; rintro e w1 ⟨rfl, hb⟩; replace H := H.next hb; replace hB := next hB hb; clear hb) | (go_at_call 14; refine (awake_any _).mono ?_; rintro e w1 ⟨rfl, hb⟩; replace H := H.next hb; replace hB := next hB hb; clear hb) | (go_at_call 11; refine (rlfit_any (H.get (by repeat (first | exact List.Mem.head _ | apply List.Mem.tail))) (Nat.le_refl _)).mono ?_; rintro e w1 ⟨rfl, hb⟩; replace H := H.next hb; replace hB := next hB hb; clear hb) | (go_at_call 22; refine (owned_any (H.get (by repeat (first | exact List.Mem.head _ | apply List.Mem.tail))) (by omega)).mono ?_; rintro e w1 ⟨aoW, nW, capW, rfl, hC, hb⟩; replace H := H.next hb; replace hB := next hB hb; clear hb))
        have hcl := hC.1
        have hcm := hC.2.2.1
        have hcc := hC.2.1
        go_loopw [8, 35] (fun vi i wr => ∃ (k : Nat) (q : Bool), k ≤ nW ∧ i = .int .i64 k ∧ vi = .bool q ∧ Hid (inK L0 a2 k = q) ∧ Labs wr [(ao0, n0, cap0, L0), (ao1, n1, cap1, L1)] ∧ Cts wr.heap.size wr aoW nW capW (owned L0) ∧ Below w.heap.size w wr) (fun _ i _ => nW - (intOf i).toNat)
        case atStart => exact ⟨0, false, Nat.zero_le _, rfl, rfl, inK_zero _ _, H, hC, hB⟩
        case round =>
          clear H hC hB
          obtain ⟨k, q, hk, rfl, rfl, hq, H, hC, hB⟩ := hrel
          by_cases hkn : k < nW
          · obtain ⟨b, off, hao, hbB, hcell⟩ := hC.2.2.2 (by omega)
            subst hao
            obtain ⟨c, hc⟩ : ∃ c, Hid ((owned L0).getD k 0 = c) := ⟨_, rfl⟩
            have d0 := hcell k hkn
            rw [hc.out] at d0
            have g0 : get L0 c = 0 := by have h := HG.out k (by omega); rw [hc.out] at h; exact h
            have hs := inK_succ (L := L0) (c := a2) (k := k) (by omega)
            rw [hq.out, hc.out] at hs
            have HS : Hid (inK L0 a2 (k + 1) = (q || decide (c = a2))) := hs
            clear hs
            have hkn' : (k : Int) < nW := by omega
            by_cases h0 : k = 0
            · subst h0
              simp only [Nat.add_zero] at d0
              clear hcell
              cases q with
              | true =>
                go_wp2_with (go_at_call 17; refine (get_any _ (H.get (by repeat (first | exact List.Mem.head _ | apply List.Mem.tail))) (Nat.le_refl _)).mono ?_; rintro e w1 ⟨rfl, hb⟩; replace H := H.next hb; replace hB := next hB hb; replace hC := hC.next hb; clear hb)
                go_roundw
                case rel => exact ⟨1, true, by omega, by go_num, rfl, HS.out, H, hC, hB⟩
                case measure => simp [intOf]; omega
              | false =>
                by_cases hca : c = a2
                · subst hca
                  go_wp2_with (go_at_call 17; refine (get_any _ (H.get (by repeat (first | exact List.Mem.head _ | apply List.Mem.tail))) (Nat.le_refl _)).mono ?_; rintro e w1 ⟨rfl, hb⟩; replace H := H.next hb; replace hB := next hB hb; replace hC := hC.next hb; clear hb)
                  go_roundw
                  case rel => exact ⟨1, true, by omega, by go_num, rfl, HS.out.trans (by simp), H, hC, hB⟩
                  case measure => simp [intOf]; omega
                · have hcb : (c == a2) = false := by simpa using hca
                  go_wp2_with (go_at_call 17; refine (get_any _ (H.get (by repeat (first | exact List.Mem.head _ | apply List.Mem.tail))) (Nat.le_refl _)).mono ?_; rintro e w1 ⟨rfl, hb⟩; replace H := H.next hb; replace hB := next hB hb; replace hC := hC.next hb; clear hb)
                  go_roundw
                  case rel => exact ⟨1, false, by omega, by go_num, rfl, HS.out.trans (by simp [hca]), H, hC, hB⟩
                  case measure => simp [intOf]; omega
            · obtain ⟨m, rfl⟩ : ∃ m, k = m + 1 := ⟨k - 1, by omega⟩
              obtain ⟨x, hx⟩ : ∃ x, Hid ((owned L0).getD m 0 = x) := ⟨_, rfl⟩
              have d1 := hcell m (by omega)
              rw [hx.out] at d1
              have hlt : x < c := by have h := HR.out m (by omega); rw [hx.out, hc.out] at h; exact h
              have hmn : (m : Int) < nW := by omega
              clear hcell
              cases q with
              | true =>
                go_wp2_with (go_at_call 17; refine (get_any _ (H.get (by repeat (first | exact List.Mem.head _ | apply List.Mem.tail))) (Nat.le_refl _)).mono ?_; rintro e w1 ⟨rfl, hb⟩; replace H := H.next hb; replace hB := next hB hb; replace hC := hC.next hb; clear hb)
                go_roundw
                case rel => exact ⟨m + 1 + 1, true, by omega, by go_num, rfl, HS.out, H, hC, hB⟩
                case measure => simp [intOf]; omega
              | false =>
                by_cases hca : c = a2
                · subst hca
                  go_wp2_with (go_at_call 17; refine (get_any _ (H.get (by repeat (first | exact List.Mem.head _ | apply List.Mem.tail))) (Nat.le_refl _)).mono ?_; rintro e w1 ⟨rfl, hb⟩; replace H := H.next hb; replace hB := next hB hb; replace hC := hC.next hb; clear hb)
                  go_roundw
                  case rel => exact ⟨m + 1 + 1, true, by omega, by go_num, rfl, HS.out.trans (by simp), H, hC, hB⟩
                  case measure => simp [intOf]; omega
                · have hcb : (c == a2) = false := by simpa using hca
                  go_wp2_with (go_at_call 17; refine (get_any _ (H.get (by repeat (first | exact List.Mem.head _ | apply List.Mem.tail))) (Nat.le_refl _)).mono ?_; rintro e w1 ⟨rfl, hb⟩; replace H := H.next hb; replace hB := next hB hb; replace hC := hC.next hb; clear hb)
                  go_roundw
                  case rel => exact ⟨m + 1 + 1, false, by omega, by go_num, rfl, HS.out.trans (by simp [hca]), H, hC, hB⟩
                  case measure => simp [intOf]; omega
          · have he := HE.out k (by omega)
            rw [hq.out] at he
            subst he
            cases x0 : (get L0 a2 == 0) <;> cases y0 : (get L1 a2 == 0)
            all_goals
              rw [x0, y0] at z1 z2
              go_wp2_with (first | (go_at_call 14; refine (awake_any _).mono ?_; rintro e w1 ⟨rfl, hb⟩; replace H := H.next hb; replace hB := next hB hb; clear hb) | (go_at_call 24; refine (ljoin_b (H.get (by repeat (first | exact List.Mem.head _ | apply List.Mem.tail))) (H.get (by repeat (first | exact List.Mem.head _ | apply List.Mem.tail))) (by omega) (by omega)).mono ?_; rintro e w1 ⟨ao1, n1, cap1, rfl, hl, hn, hb⟩; replace H := (H.next hb).push hl; replace hB := next hB hb; clear hb hl) | (go_at_call 25; refine (lmeet_b (H.get (by repeat (first | exact List.Mem.head _ | apply List.Mem.tail))) (H.get (by repeat (first | exact List.Mem.head _ | apply List.Mem.tail))) (by omega) (by omega)).mono ?_; rintro e w1 ⟨ao1, n1, cap1, rfl, hl, hn, hb⟩; replace H := (H.next hb).push hl; replace hB := next hB hb; clear hb hl) | (go_at_call 17; refine (get_any _ (H.get (by repeat (first | exact List.Mem.head _ | apply List.Mem.tail))) (Nat.le_refl _)).mono ?_; rintro e w1 ⟨rfl, hb⟩; replace H := H.next hb; replace hB := next hB hb; clear hb) | (go_at_call 26; refine (lraise_b (H.get (by repeat (first | exact List.Mem.head _ | apply List.Mem.tail))) (by omega)).mono ?_; rintro e w1 ⟨ao1, n1, cap1, rfl, hl, hn, hb⟩; replace H := (H.next hb).push hl; replace hB := next hB hb; clear hb hl) | (go_at_call 22; refine (owned_any (H.get (by repeat (first | exact List.Mem.head _ | apply List.Mem.tail))) (by omega)).mono ?_; rintro e w1 ⟨aoX, nX, capX, rfl, hX, hb⟩; obtain rfl : nX = 0 := (by simpa [fO] using hX.1.symm); replace H := H.next hb; replace hB := next hB hb; clear hb))
              go_ret
              exact ⟨rfl, hB⟩

set_option maxRecDepth 100000 in
theorem lifted (os : Os) (started : os.Started) (H : Type) (enc : TypeId × Value → H) :
    ReturnsInHanded {} Try.checked os 8 .any (Rows.labelOwnsSpec.pre6 enc Try.prog Try.f8 Rows.labelOwnsRow.domain false) (Rows.labelOwnsSpec.post enc Try.prog Try.f8 false true false false) := by
  refine returnsInHanded_of_change (C := Try.checked) own started (by kernel_rfl) Try.func8
    (ChangeSpec.witness6 (enc := enc) (C := Try.checked) false ⟨#[], #[.slice none 0 0, .slice none 0 0, .int .u64 0], []⟩ 8 (by kernel_rfl) (by kernel_rfl) (by kernel_rfl) (by kernel_rfl)) ?_
  intro W base args ds gs before hval0 hW hcnd _
  have hval : ∀ (j : Nat) t v, Try.f8.params[j]? = some t → args[j]? = some v → Value.okWide Try.prog W .any base t v := hval0
  have hW' := hW
  obtain ⟨p, q, hA0, hV, rfl, hfz, hnd⟩ := hW
  have hA : DataW.TrodAll enc Try.prog W 0 (fun _ => true) true Try.f8.params.toList args.toList ds p := hA0
  rw [Try.params8] at hA hval
  obtain ⟨v0, vs0, d0, ds0, p0, q0, hargs, rfl, rfl, h0, r0⟩ := trodAll_cons hA
  obtain ⟨v1, vs1, d1, ds1, p1, q1, rfl, rfl, rfl, h1, r1⟩ := trodAll_cons r0
  obtain ⟨v2, vs2, d2, ds2, p2, q2, rfl, rfl, rfl, h2, r2⟩ := trodAll_cons r1
  obtain ⟨rfl, rfl, rfl⟩ := trodAll_nil r2
  obtain rfl : args = #[v0, v1, v2] := by cases args; simp_all
  obtain ⟨rfl, rfl⟩ := trodVars_none hV
  obtain ⟨ao0, n0, cap0, rfl⟩ := okWide_slice Try.underlying23 (hval 0 23 v0 rfl rfl)
  have k0 := h0
  have lt0 : ∀ x ∈ p0, x.block < W.heap.size := by obtain ⟨m, hm⟩ := k0; exact DataW.trod_lt m _ _ _ hm
  obtain ⟨L0, l0⟩ := lab_of_trod h0
  obtain ⟨ao1, n1, cap1, rfl⟩ := okWide_slice Try.underlying23 (hval 1 23 v1 rfl rfl)
  have k1 := h1
  have lt1 : ∀ x ∈ p1, x.block < W.heap.size := by obtain ⟨m, hm⟩ := k1; exact DataW.trod_lt m _ _ _ hm
  obtain ⟨L1, l1⟩ := lab_of_trod h1
  obtain ⟨a2, rfl, rfl, rfl, w2⟩ := open_int Try.underlying24 (hval 2 24 v2 rfl rfl) h2
  clear hA0 hval0
  refine (walk ao0 n0 cap0 L0 ao1 n1 cap1 L1 a2 W l0 l1 w2).mono fun e W' ⟨he, bel⟩ => ?_
  subst he
  exact ⟨_, rfl, _, _, _, [], _, [], hW', trodAll_mk1 (shut_bool Try.underlying4 _), (trodAll_cons_mk (Below.trod laidOut (by kernel_rfl) (of_decide_eq_true (by kernel_rfl)) k0 bel lt0) (trodAll_cons_mk (Below.trod laidOut (by kernel_rfl) (of_decide_eq_true (by kernel_rfl)) k1 bel lt1) (trodAll_cons_mk (shut_int Try.underlying24 w2) trodAll_mk0))), rfl, bel.frame _, fun h => by cases h⟩

theorem over : Rows.labelOwnsRow.holds Try.pinned (OpenSpec.ofChange Rows.labelOwnsSpec) :=
  OpenClaim.holds_of_wide 8 Try.f8 rfl rfl rfl rfl rfl rfl rfl ⟨rfl, rfl, rfl, rfl, rfl⟩ rfl rfl rfl rfl rfl (by kernel_rfl) Try.func8 (by kernel_rfl)
    (of_decide_eq_true (by kernel_rfl)) (by unfold Func.isWrapper; first | (rw [if_pos (by decide +kernel)]; kernel_rfl) | (rw [if_neg (by decide +kernel)]; exact ⟨rfl, rfl⟩))
    (fun os started H enc _ => lifted os started H enc)

end labelOwns
/-- The statement. -/
theorem labelOwns_holds : Rows.LabelOwnsSaid :=
  labelOwns.over
#print axioms labelOwns_holds
end Go.Proofs.Ytaekiclhddfonaa
