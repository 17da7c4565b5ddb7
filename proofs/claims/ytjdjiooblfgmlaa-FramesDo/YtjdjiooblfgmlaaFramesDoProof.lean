/-
  PROVED HERE: FramesDo (P11.1 to P11.4): new frames, which can be, which are the same, frames that are taken, given, dropped, found and counted, are the document's, and stay fit: any few frames, any owner, any page.
-/
import Derived.Test.YtjdjiooblfgmlaaRows
import Derived.Test.YtjdjiooblfgmlaaFrmOpen
import Derived.WalkKit
import Derived.ProofKit
import Derived.OpenShut
import Derived.Below
import Derived.ShutString
import Derived.Deep.QuietTactic
namespace Go.Proofs.Ytjdjiooblfgmlaa
namespace framesDo
open Go.ChangeShapes Go.WideShapes Go.ChangeAt Go.RowKit
open Go.ChangeMaps (open_string shut_string)
set_option linter.unusedVariables false

theorem own : ownKnob Try.prog.godebug = none := by kernel_rfl

set_option maxRecDepth 100000 in
set_option maxHeartbeats 8000000 in
theorem walk (ao0 : Option Addr) (n0 cap0 : Nat) (L0 : List Frm.Fr) (ao1 : Option Addr) (n1 cap1 : Nat) (L1 : List Frm.Fr) (a2 : Int) (a3 : Int) (w : World) (l0 : Lab w.heap.size w ao0 n0 cap0 L0) (l1 : Lab w.heap.size w ao1 n1 cap1 L1) (w2 : (Lit.int .u64 a2).wf = true) (w3 : (Lit.int .i64 a3).wf = true) :
    Calls Try.prog 3 #[.slice ao0 n0 cap0, .slice ao1 n1 cap1, .int .u64 a2, .int .i64 a3] w fun e w' => e = .returned (.bool true) ∧ Below w.heap.size w w' := by
  have H : Labs w [(ao0, n0, cap0, L0), (ao1, n1, cap1, L1)] := ((Labs.nil w).push l1).push l0
  have hB : Below w.heap.size w w := Below.refl _ _
  have hc0 := l0.2.1
  have hc1 := l1.2.1
  have hm0 := l0.2.2.1.1
  have hm1 := l1.2.2.1.1
  clear l0 l1
  by_cases h0 : n0 ≤ 60
  · by_cases h1 : n1 ≤ 60
    · cases hfit : Frm.fitB L0 with
      | false =>
        cases hnm : Frm.nmB a3 with
        | false =>
          go_enter Try.func3, Try.ntmps3
          go_wp2_with (first | (go_at_call 7; refine (newBad_any _ hnm _).mono ?_; rintro e w1 ⟨rfl, hb⟩; replace H := (H.next hb).push (Lab.nil _ _); replace hB := nextB hB hb; clear hb) | (go_at_call 8; refine (rnewBad_any _ hnm _).mono ?_; rintro e w1 ⟨rfl, hb⟩; replace H := (H.next hb).push (Lab.nil _ _); replace hB := nextB hB hb; clear hb) | (go_at_call 9; refine (fit_any (H.get (by repeat (first | exact List.Mem.head _ | apply List.Mem.tail)))).mono ?_; rintro e w1 ⟨rfl, hb⟩; (try rw [hfit]); replace H := H.next hb; replace hB := nextB hB hb; clear hb) | (go_at_call 10; refine (rfit_any (H.get (by repeat (first | exact List.Mem.head _ | apply List.Mem.tail)))).mono ?_; rintro e w1 ⟨rfl, hb⟩; (first | rw [hfit] | rw [hf1] | rw [hf2] | rw [hf3]); replace H := H.next hb; replace hB := nextB hB hb; clear hb) | (go_at_call 11; refine (same_any (H.get (by repeat (first | exact List.Mem.head _ | apply List.Mem.tail))) (H.get (by repeat (first | exact List.Mem.head _ | apply List.Mem.tail)))).mono ?_; rintro e w1 ⟨rfl, hb⟩; (try rw [sameB_refl]); replace H := H.next hb; replace hB := nextB hB hb; clear hb) | (go_at_call 12; refine (rsame_any (H.get (by repeat (first | exact List.Mem.head _ | apply List.Mem.tail))) (H.get (by repeat (first | exact List.Mem.head _ | apply List.Mem.tail)))).mono ?_; rintro e w1 ⟨rfl, hb⟩; (try rw [sameB_refl]); replace H := H.next hb; replace hB := nextB hB hb; clear hb) | (go_at_call 6; refine (awake11 _).mono ?_; rintro e w1 ⟨rfl, hb⟩; replace H := H.next hb; replace hB := nextB hB hb; clear hb))
          go_ret
          exact ⟨rfl, hB⟩
        | true =>
          obtain ⟨m, rfl⟩ : ∃ m : Nat, a3 = m := ⟨a3.toNat, by simp [Frm.nmB] at hnm; omega⟩
          have hm : m ≤ 4096 := by simp [Frm.nmB] at hnm; omega
          clear hnm
          go_enter Try.func3, Try.ntmps3
          go_wp2_with (first | (go_at_call 7; refine (new_any _ (by omega) _).mono ?_; rintro e w1 ⟨ao1, cap1, rfl, hl, hb⟩; replace H := (H.next hb).push hl; replace hB := nextB hB hb; clear hb hl) | (go_at_call 8; refine (rnew_any _ (by omega) _).mono ?_; rintro e w1 ⟨ao1, cap1, rfl, hl, hb⟩; replace H := (H.next hb).push hl; replace hB := nextB hB hb; clear hb hl) | (go_at_call 9; refine (fit_any (H.get (by repeat (first | exact List.Mem.head _ | apply List.Mem.tail)))).mono ?_; rintro e w1 ⟨rfl, hb⟩; (try rw [hfit]); replace H := H.next hb; replace hB := nextB hB hb; clear hb) | (go_at_call 10; refine (rfit_any (H.get (by repeat (first | exact List.Mem.head _ | apply List.Mem.tail)))).mono ?_; rintro e w1 ⟨rfl, hb⟩; (first | rw [hfit] | rw [hf1] | rw [hf2] | rw [hf3]); replace H := H.next hb; replace hB := nextB hB hb; clear hb) | (go_at_call 11; refine (same_any (H.get (by repeat (first | exact List.Mem.head _ | apply List.Mem.tail))) (H.get (by repeat (first | exact List.Mem.head _ | apply List.Mem.tail)))).mono ?_; rintro e w1 ⟨rfl, hb⟩; (try rw [sameB_refl]); replace H := H.next hb; replace hB := nextB hB hb; clear hb) | (go_at_call 12; refine (rsame_any (H.get (by repeat (first | exact List.Mem.head _ | apply List.Mem.tail))) (H.get (by repeat (first | exact List.Mem.head _ | apply List.Mem.tail)))).mono ?_; rintro e w1 ⟨rfl, hb⟩; (try rw [sameB_refl]); replace H := H.next hb; replace hB := nextB hB hb; clear hb) | (go_at_call 6; refine (awake11 _).mono ?_; rintro e w1 ⟨rfl, hb⟩; replace H := H.next hb; replace hB := nextB hB hb; clear hb))
          go_ret
          exact ⟨rfl, hB⟩
      | true =>
        have hf1 := Frm.fit_tk hfit a2 a3
        have hf2 := Frm.fit_gv hfit a2 a3
        have hf3 := Frm.fit_dr hfit a2
        cases hnm : Frm.nmB a3 with
        | false =>
          go_enter Try.func3, Try.ntmps3
          go_wp2_with (first | (go_at_call 7; refine (newBad_any _ hnm _).mono ?_; rintro e w1 ⟨rfl, hb⟩; replace H := (H.next hb).push (Lab.nil _ _); replace hB := nextB hB hb; clear hb) | (go_at_call 8; refine (rnewBad_any _ hnm _).mono ?_; rintro e w1 ⟨rfl, hb⟩; replace H := (H.next hb).push (Lab.nil _ _); replace hB := nextB hB hb; clear hb) | (go_at_call 9; refine (fit_any (H.get (by repeat (first | exact List.Mem.head _ | apply List.Mem.tail)))).mono ?_; rintro e w1 ⟨rfl, hb⟩; (try rw [hfit]); replace H := H.next hb; replace hB := nextB hB hb; clear hb) | (go_at_call 10; refine (rfit_any (H.get (by repeat (first | exact List.Mem.head _ | apply List.Mem.tail)))).mono ?_; rintro e w1 ⟨rfl, hb⟩; (first | rw [hfit] | rw [hf1] | rw [hf2] | rw [hf3]); replace H := H.next hb; replace hB := nextB hB hb; clear hb) | (go_at_call 11; refine (same_any (H.get (by repeat (first | exact List.Mem.head _ | apply List.Mem.tail))) (H.get (by repeat (first | exact List.Mem.head _ | apply List.Mem.tail)))).mono ?_; rintro e w1 ⟨rfl, hb⟩; (try rw [sameB_refl]); replace H := H.next hb; replace hB := nextB hB hb; clear hb) | (go_at_call 12; refine (rsame_any (H.get (by repeat (first | exact List.Mem.head _ | apply List.Mem.tail))) (H.get (by repeat (first | exact List.Mem.head _ | apply List.Mem.tail)))).mono ?_; rintro e w1 ⟨rfl, hb⟩; (try rw [sameB_refl]); replace H := H.next hb; replace hB := nextB hB hb; clear hb) | (go_at_call 13; refine (take_any (H.get (by repeat (first | exact List.Mem.head _ | apply List.Mem.tail))) (by omega) _ _).mono ?_; rintro e w1 ⟨ao1, cap1, rfl, hl, hb⟩; replace H := (H.next hb).push hl; replace hB := nextB hB hb; clear hb hl) | (go_at_call 14; refine (rtake_any (H.get (by repeat (first | exact List.Mem.head _ | apply List.Mem.tail))) (by omega) _ _).mono ?_; rintro e w1 ⟨ao1, cap1, rfl, hl, hb⟩; replace H := (H.next hb).push hl; replace hB := nextB hB hb; clear hb hl) | (go_at_call 15; refine (give_any (H.get (by repeat (first | exact List.Mem.head _ | apply List.Mem.tail))) (by omega) _ _).mono ?_; rintro e w1 ⟨ao1, cap1, rfl, hl, hb⟩; replace H := (H.next hb).push hl; replace hB := nextB hB hb; clear hb hl) | (go_at_call 16; refine (rgive_any (H.get (by repeat (first | exact List.Mem.head _ | apply List.Mem.tail))) (by omega) _ _).mono ?_; rintro e w1 ⟨ao1, cap1, rfl, hl, hb⟩; replace H := (H.next hb).push hl; replace hB := nextB hB hb; clear hb hl) | (go_at_call 17; refine (drop_any (H.get (by repeat (first | exact List.Mem.head _ | apply List.Mem.tail))) (by omega) _).mono ?_; rintro e w1 ⟨ao1, cap1, rfl, hl, hb⟩; replace H := (H.next hb).push hl; replace hB := nextB hB hb; clear hb hl) | (go_at_call 18; refine (rdrop_any (H.get (by repeat (first | exact List.Mem.head _ | apply List.Mem.tail))) (by omega) _).mono ?_; rintro e w1 ⟨ao1, cap1, rfl, hl, hb⟩; replace H := (H.next hb).push hl; replace hB := nextB hB hb; clear hb hl) | (go_at_call 19; refine (find_any (H.get (by repeat (first | exact List.Mem.head _ | apply List.Mem.tail))) _ _).mono ?_; rintro e w1 ⟨rfl, hb⟩; replace H := H.next hb; replace hB := nextB hB hb; clear hb) | (go_at_call 20; refine (rfind_any (H.get (by repeat (first | exact List.Mem.head _ | apply List.Mem.tail))) _ _).mono ?_; rintro e w1 ⟨rfl, rfl⟩) | (go_at_call 21; refine (free_any (H.get (by repeat (first | exact List.Mem.head _ | apply List.Mem.tail)))).mono ?_; rintro e w1 ⟨rfl, hb⟩; replace H := H.next hb; replace hB := nextB hB hb; clear hb) | (go_at_call 22; refine (rfree_any (H.get (by repeat (first | exact List.Mem.head _ | apply List.Mem.tail)))).mono ?_; rintro e w1 ⟨rfl, rfl⟩) | (go_at_call 23; refine (held_any (H.get (by repeat (first | exact List.Mem.head _ | apply List.Mem.tail))) _).mono ?_; rintro e w1 ⟨rfl, hb⟩; replace H := H.next hb; replace hB := nextB hB hb; clear hb) | (go_at_call 24; refine (rheld_any (H.get (by repeat (first | exact List.Mem.head _ | apply List.Mem.tail))) (by omega) _).mono ?_; rintro e w1 ⟨rfl, hb⟩; replace H := H.next hb; replace hB := nextB hB hb; clear hb) | (go_at_call 6; refine (awake11 _).mono ?_; rintro e w1 ⟨rfl, hb⟩; replace H := H.next hb; replace hB := nextB hB hb; clear hb))
          go_ret
          exact ⟨rfl, hB⟩
        | true =>
          obtain ⟨m, rfl⟩ : ∃ m : Nat, a3 = m := ⟨a3.toNat, by simp [Frm.nmB] at hnm; omega⟩
          have hm : m ≤ 4096 := by simp [Frm.nmB] at hnm; omega
          clear hnm
          go_enter Try.func3, Try.ntmps3
          go_wp2_with (first | (go_at_call 7; refine (new_any _ (by omega) _).mono ?_; rintro e w1 ⟨ao1, cap1, rfl, hl, hb⟩; replace H := (H.next hb).push hl; replace hB := nextB hB hb; clear hb hl) | (go_at_call 8; refine (rnew_any _ (by omega) _).mono ?_; rintro e w1 ⟨ao1, cap1, rfl, hl, hb⟩; replace H := (H.next hb).push hl; replace hB := nextB hB hb; clear hb hl) | (go_at_call 9; refine (fit_any (H.get (by repeat (first | exact List.Mem.head _ | apply List.Mem.tail)))).mono ?_; rintro e w1 ⟨rfl, hb⟩; (try rw [hfit]); replace H := H.next hb; replace hB := nextB hB hb; clear hb) | (go_at_call 10; refine (rfit_any (H.get (by repeat (first | exact List.Mem.head _ | apply List.Mem.tail)))).mono ?_; rintro e w1 ⟨rfl, hb⟩; (first | rw [hfit] | rw [hf1] | rw [hf2] | rw [hf3]); replace H := H.next hb; replace hB := nextB hB hb; clear hb) | (go_at_call 11; refine (same_any (H.get (by repeat (first | exact List.Mem.head _ | apply List.Mem.tail))) (H.get (by repeat (first | exact List.Mem.head _ | apply List.Mem.tail)))).mono ?_; rintro e w1 ⟨rfl, hb⟩; (try rw [sameB_refl]); replace H := H.next hb; replace hB := nextB hB hb; clear hb) | (go_at_call 12; refine (rsame_any (H.get (by repeat (first | exact List.Mem.head _ | apply List.Mem.tail))) (H.get (by repeat (first | exact List.Mem.head _ | apply List.Mem.tail)))).mono ?_; rintro e w1 ⟨rfl, hb⟩; (try rw [sameB_refl]); replace H := H.next hb; replace hB := nextB hB hb; clear hb) | (go_at_call 13; refine (take_any (H.get (by repeat (first | exact List.Mem.head _ | apply List.Mem.tail))) (by omega) _ _).mono ?_; rintro e w1 ⟨ao1, cap1, rfl, hl, hb⟩; replace H := (H.next hb).push hl; replace hB := nextB hB hb; clear hb hl) | (go_at_call 14; refine (rtake_any (H.get (by repeat (first | exact List.Mem.head _ | apply List.Mem.tail))) (by omega) _ _).mono ?_; rintro e w1 ⟨ao1, cap1, rfl, hl, hb⟩; replace H := (H.next hb).push hl; replace hB := nextB hB hb; clear hb hl) | (go_at_call 15; refine (give_any (H.get (by repeat (first | exact List.Mem.head _ | apply List.Mem.tail))) (by omega) _ _).mono ?_; rintro e w1 ⟨ao1, cap1, rfl, hl, hb⟩; replace H := (H.next hb).push hl; replace hB := nextB hB hb; clear hb hl) | (go_at_call 16; refine (rgive_any (H.get (by repeat (first | exact List.Mem.head _ | apply List.Mem.tail))) (by omega) _ _).mono ?_; rintro e w1 ⟨ao1, cap1, rfl, hl, hb⟩; replace H := (H.next hb).push hl; replace hB := nextB hB hb; clear hb hl) | (go_at_call 17; refine (drop_any (H.get (by repeat (first | exact List.Mem.head _ | apply List.Mem.tail))) (by omega) _).mono ?_; rintro e w1 ⟨ao1, cap1, rfl, hl, hb⟩; replace H := (H.next hb).push hl; replace hB := nextB hB hb; clear hb hl) | (go_at_call 18; refine (rdrop_any (H.get (by repeat (first | exact List.Mem.head _ | apply List.Mem.tail))) (by omega) _).mono ?_; rintro e w1 ⟨ao1, cap1, rfl, hl, hb⟩; replace H := (H.next hb).push hl; replace hB := nextB hB hb; clear hb hl) | (go_at_call 19; refine (find_any (H.get (by repeat (first | exact List.Mem.head _ | apply List.Mem.tail))) _ _).mono ?_; rintro e w1 ⟨rfl, hb⟩; replace H := H.next hb; replace hB := nextB hB hb; clear hb) | (go_at_call 20; refine (rfind_any (H.get (by repeat (first | exact List.Mem.head _ | apply List.Mem.tail))) _ _).mono ?_; rintro e w1 ⟨rfl, rfl⟩) | (go_at_call 21; refine (free_any (H.get (by repeat (first | exact List.Mem.head _ | apply List.Mem.tail)))).mono ?_; rintro e w1 ⟨rfl, hb⟩; replace H := H.next hb; replace hB := nextB hB hb; clear hb) | (go_at_call 22; refine (rfree_any (H.get (by repeat (first | exact List.Mem.head _ | apply List.Mem.tail)))).mono ?_; rintro e w1 ⟨rfl, rfl⟩) | (go_at_call 23; refine (held_any (H.get (by repeat (first | exact List.Mem.head _ | apply List.Mem.tail))) _).mono ?_; rintro e w1 ⟨rfl, hb⟩; replace H := H.next hb; replace hB := nextB hB hb; clear hb) | (go_at_call 24; refine (rheld_any (H.get (by repeat (first | exact List.Mem.head _ | apply List.Mem.tail))) (by omega) _).mono ?_; rintro e w1 ⟨rfl, hb⟩; replace H := H.next hb; replace hB := nextB hB hb; clear hb) | (go_at_call 6; refine (awake11 _).mono ?_; rintro e w1 ⟨rfl, hb⟩; replace H := H.next hb; replace hB := nextB hB hb; clear hb))
          go_ret
          exact ⟨rfl, hB⟩
    · go_enter Try.func3, Try.ntmps3
      go_wp2_with ((go_at_call 6; refine (awake11 _).mono ?_; rintro e w1 ⟨rfl, hb⟩; replace H := H.next hb; replace hB := nextB hB hb; clear hb))
      go_ret
      exact ⟨rfl, hB⟩
  · go_enter Try.func3, Try.ntmps3
    go_wp2_with ((go_at_call 6; refine (awake11 _).mono ?_; rintro e w1 ⟨rfl, hb⟩; replace H := H.next hb; replace hB := nextB hB hb; clear hb))
    go_ret
    exact ⟨rfl, hB⟩

set_option maxRecDepth 100000 in
theorem lifted (os : Os) (started : os.Started) (H : Type) (enc : TypeId × Value → H) :
    ReturnsInHanded {} Try.checked os 3 .any (Rows.framesDoSpec.pre6 enc Try.prog Try.f3 Rows.framesDoRow.domain false) (Rows.framesDoSpec.post enc Try.prog Try.f3 false true false false) := by
  refine returnsInHanded_of_change (C := Try.checked) own started (by kernel_rfl) Try.func3
    (ChangeSpec.witness6 (enc := enc) (C := Try.checked) false ⟨#[], #[.slice none 0 0, .slice none 0 0, .int .u64 0, .int .i64 0], []⟩ 8 (by kernel_rfl) (by kernel_rfl) (by kernel_rfl) (by kernel_rfl)) ?_
  intro W base args ds gs before hval0 hW hcnd _
  have hval : ∀ (j : Nat) t v, Try.f3.params[j]? = some t → args[j]? = some v → Value.okWide Try.prog W .any base t v := hval0
  have hW' := hW
  obtain ⟨p, q, hA0, hV, rfl, hfz, hnd⟩ := hW
  have hA : DataW.TrodAll enc Try.prog W 0 (fun _ => true) true Try.f3.params.toList args.toList ds p := hA0
  rw [Try.params3] at hA hval
  obtain ⟨v0, vs0, d0, ds0, p0, q0, hargs, rfl, rfl, h0, r0⟩ := trodAll_cons hA
  obtain ⟨v1, vs1, d1, ds1, p1, q1, rfl, rfl, rfl, h1, r1⟩ := trodAll_cons r0
  obtain ⟨v2, vs2, d2, ds2, p2, q2, rfl, rfl, rfl, h2, r2⟩ := trodAll_cons r1
  obtain ⟨v3, vs3, d3, ds3, p3, q3, rfl, rfl, rfl, h3, r3⟩ := trodAll_cons r2
  obtain ⟨rfl, rfl, rfl⟩ := trodAll_nil r3
  obtain rfl : args = #[v0, v1, v2, v3] := by cases args; simp_all
  obtain ⟨rfl, rfl⟩ := trodVars_none hV
  obtain ⟨ao0, n0, cap0, rfl⟩ := okWide_slice Try.underlying22 (hval 0 22 v0 rfl rfl)
  have k0 := h0
  have lt0 : ∀ x ∈ p0, x.block < W.heap.size := by obtain ⟨m, hm⟩ := k0; exact DataW.trod_lt m _ _ _ hm
  obtain ⟨L0, l0⟩ := frm_of_trod h0
  obtain ⟨ao1, n1, cap1, rfl⟩ := okWide_slice Try.underlying22 (hval 1 22 v1 rfl rfl)
  have k1 := h1
  have lt1 : ∀ x ∈ p1, x.block < W.heap.size := by obtain ⟨m, hm⟩ := k1; exact DataW.trod_lt m _ _ _ hm
  obtain ⟨L1, l1⟩ := frm_of_trod h1
  obtain ⟨a2, rfl, rfl, rfl, w2⟩ := open_int Try.underlying23 (hval 2 23 v2 rfl rfl) h2
  obtain ⟨a3, rfl, rfl, rfl, w3⟩ := open_int Try.underlying3 (hval 3 3 v3 rfl rfl) h3
  clear hA0 hval0
  refine (walk ao0 n0 cap0 L0 ao1 n1 cap1 L1 a2 a3 W l0 l1 w2 w3).mono fun e W' ⟨he, bel⟩ => ?_
  subst he
  exact ⟨_, rfl, _, _, _, [], _, [], hW', trodAll_mk1 (shut_bool Try.underlying4 _), (trodAll_cons_mk (Below.trod laidOut (by kernel_rfl) (of_decide_eq_true (by kernel_rfl)) k0 bel lt0) (trodAll_cons_mk (Below.trod laidOut (by kernel_rfl) (of_decide_eq_true (by kernel_rfl)) k1 bel lt1) (trodAll_cons_mk (shut_int Try.underlying23 w2) (trodAll_cons_mk (shut_int Try.underlying3 w3) trodAll_mk0)))), rfl, bel.frame _, fun h => by cases h⟩

theorem over : Rows.framesDoRow.holds Try.pinned (OpenSpec.ofChange Rows.framesDoSpec) :=
  OpenClaim.holds_of_wide 3 Try.f3 rfl rfl rfl rfl rfl rfl rfl ⟨rfl, rfl, rfl, rfl, rfl⟩ rfl rfl rfl rfl rfl (by kernel_rfl) Try.func3 (by kernel_rfl)
    (of_decide_eq_true (by kernel_rfl)) (by unfold Func.isWrapper; first | (rw [if_pos (by decide +kernel)]; kernel_rfl) | (rw [if_neg (by decide +kernel)]; exact ⟨rfl, rfl⟩))
    (fun os started H enc _ => lifted os started H enc)

end framesDo
/-- The statement. -/
theorem framesDo_holds : Rows.FramesDoSaid :=
  framesDo.over
#print axioms framesDo_holds
end Go.Proofs.Ytjdjiooblfgmlaa
