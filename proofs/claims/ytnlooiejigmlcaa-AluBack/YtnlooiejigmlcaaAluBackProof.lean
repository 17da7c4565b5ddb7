/-
  PROVED HERE: for every two words the law AluBack returns true (P9.3, P9.4: what was added is taken off again; quotient, divisor and what is left are the number; a word is made of its halves). No condition.
-/
import Derived.Test.YtnlooiejigmlcaaRows
import Derived.Test.YtnlooiejigmlcaaAlu4
import Derived.WalkKit
import Derived.ProofKit
import Derived.OpenShut
import Derived.Below
import Derived.ShutString
import Derived.Deep.QuietTactic
namespace Go.Proofs.Ytnlooiejigmlcaa
namespace aluBack
open Go.ChangeShapes Go.WideShapes Go.ChangeAt Go.RowKit
open Go.ChangeMaps (open_string shut_string)
set_option linter.unusedVariables false

theorem own : ownKnob Try.prog.godebug = none := by kernel_rfl

set_option maxRecDepth 100000 in
set_option maxHeartbeats 8000000 in
theorem walk (a0 : Int) (a1 : Int) (w : World) (w0 : (Lit.int .u64 a0).wf = true) (w1 : (Lit.int .u64 a1).wf = true) :
    Calls Try.prog 4 #[.int .u64 a0, .int .u64 a1] w fun e w' => e = .returned (.bool true) ∧ Below w.heap.size w w' := by
  obtain ⟨b, rfl, hb⟩ := word_of w0
  obtain ⟨c, rfl, hc⟩ := word_of w1
  have hB := Below.refl w.heap.size w
  have f1 : (((Al.doN 5 (Al.doN 4 b c) c : Nat) : Int) != (b : Int)) = false := by rw [Al.back_add hb hc]; simp
  have f2 := half_lo' b
  have f3 := half_hi hb
  have f3' := half_hi' hb
  have h1 := fun w => ext_any (Al.halfI b) w
  have h2 := fun w => movh_any (Al.ext_lt (Al.halfI b)) (Al.halfI (b / 4294967296)) w
  rw [Al.halves hb] at h2
  by_cases h0 : c = 0
  · have f4 : (((Al.doN 7 b c : Nat) : Int) != 18446744073709551615) = false := by rw [h0, Al.quo_zero]; rfl
    have f5 : (((Al.doN 8 b c : Nat) : Int) != (b : Int)) = false := by rw [h0, Al.rem_zero]; simp
    have g1 : ((c : Int) != 0) = false := by rw [h0]; rfl
    have g2 : ((c : Int) == 0) = true := by rw [h0]; rfl
    clear h0
    go_enter Try.func4, Try.ntmps4
    go_wp2_with (first | (go_at_call 14; (with_reducible refine (ldo_any _ ?x1 ?x2 _).mono ?_); (case x1 => (repeat (first | assumption | apply Al.do_lt))); (case x2 => (repeat (first | assumption | apply Al.do_lt))); rintro e w1 ⟨rfl, rfl⟩) | (go_at_call 11; (with_reducible refine (h1 _).mono ?_); rintro e w1 ⟨rfl, rfl⟩) | (go_at_call 9; (with_reducible refine (h2 _).mono ?_); rintro e w1 ⟨rfl, rfl⟩) | (go_at_call 13; (with_reducible refine (awake9_any _).mono ?_); rintro e w1 ⟨rfl, rfl⟩))
    go_ret
    exact ⟨rfl, hB⟩
  · have f4 : (((Al.doN 4 (Al.doN 6 (Al.doN 7 b c) c) (Al.doN 8 b c) : Nat) : Int) != (b : Int)) = false := by rw [Al.back_quo hb hc h0]; simp
    have f5 : (((Al.doN 16 (Al.doN 8 b c) c : Nat) : Int) != 1) = false := by rw [Al.back_rest h0]; rfl
    go_enter Try.func4, Try.ntmps4
    go_wp2_with (first | (go_at_call 14; (with_reducible refine (ldo_any _ ?x1 ?x2 _).mono ?_); (case x1 => (repeat (first | assumption | apply Al.do_lt))); (case x2 => (repeat (first | assumption | apply Al.do_lt))); rintro e w1 ⟨rfl, rfl⟩) | (go_at_call 11; (with_reducible refine (h1 _).mono ?_); rintro e w1 ⟨rfl, rfl⟩) | (go_at_call 9; (with_reducible refine (h2 _).mono ?_); rintro e w1 ⟨rfl, rfl⟩) | (go_at_call 13; (with_reducible refine (awake9_any _).mono ?_); rintro e w1 ⟨rfl, rfl⟩))
    go_ret
    exact ⟨rfl, hB⟩

set_option maxRecDepth 100000 in
theorem lifted (os : Os) (started : os.Started) (H : Type) (enc : TypeId × Value → H) :
    ReturnsInHanded {} Try.checked os 4 .any (Rows.aluBackSpec.pre6 enc Try.prog Try.f4 Rows.aluBackRow.domain false) (Rows.aluBackSpec.post enc Try.prog Try.f4 false true false false) := by
  refine returnsInHanded_of_change (C := Try.checked) own started (by kernel_rfl) Try.func4
    (ChangeSpec.witness6 (enc := enc) (C := Try.checked) false ⟨#[], #[.int .u64 0, .int .u64 0], []⟩ 8 (by kernel_rfl) (by kernel_rfl) (by kernel_rfl) (by kernel_rfl)) ?_
  intro W base args ds gs before hval0 hW hcnd _
  have hval : ∀ (j : Nat) t v, Try.f4.params[j]? = some t → args[j]? = some v → Value.okWide Try.prog W .any base t v := hval0
  have hW' := hW
  obtain ⟨p, q, hA0, hV, rfl, hfz, hnd⟩ := hW
  have hA : DataW.TrodAll enc Try.prog W 0 (fun _ => true) true Try.f4.params.toList args.toList ds p := hA0
  rw [Try.params4] at hA hval
  obtain ⟨v0, vs0, d0, ds0, p0, q0, hargs, rfl, rfl, h0, r0⟩ := trodAll_cons hA
  obtain ⟨v1, vs1, d1, ds1, p1, q1, rfl, rfl, rfl, h1, r1⟩ := trodAll_cons r0
  obtain ⟨rfl, rfl, rfl⟩ := trodAll_nil r1
  obtain rfl : args = #[v0, v1] := by cases args; simp_all
  obtain ⟨rfl, rfl⟩ := trodVars_none hV
  obtain ⟨a0, rfl, rfl, rfl, w0⟩ := open_int Try.underlying22 (hval 0 22 v0 rfl rfl) h0
  obtain ⟨a1, rfl, rfl, rfl, w1⟩ := open_int Try.underlying22 (hval 1 22 v1 rfl rfl) h1
  clear hA0 hval0
  simp only [List.append_nil] at hW'
  refine (walk a0 a1 W w0 w1).mono fun e W' ⟨he, bel⟩ => ?_
  subst he
  exact ⟨_, rfl, _, _, _, [], [], [], hW', trodAll_mk1 (shut_bool Try.underlying4 _), (trodAll_cons_mk (shut_int Try.underlying22 w0) (trodAll_cons_mk (shut_int Try.underlying22 w1) trodAll_mk0)), rfl, bel.frame _, fun h => by cases h⟩

theorem over : Rows.aluBackRow.holds Try.pinned (OpenSpec.ofChange Rows.aluBackSpec) :=
  OpenClaim.holds_of_wide 4 Try.f4 rfl rfl rfl rfl rfl rfl rfl ⟨rfl, rfl, rfl, rfl, rfl⟩ rfl rfl rfl rfl rfl (by kernel_rfl) Try.func4 (by kernel_rfl)
    (of_decide_eq_true (by kernel_rfl)) (by unfold Func.isWrapper; first | (rw [if_pos (by decide +kernel)]; kernel_rfl) | (rw [if_neg (by decide +kernel)]; exact ⟨rfl, rfl⟩))
    (fun os started H enc _ => lifted os started H enc)

end aluBack
/-- The statement. -/
theorem aluBack_holds : Rows.AluBackSaid :=
  aluBack.over
#print axioms aluBack_holds
end Go.Proofs.Ytnlooiejigmlcaa
