/-
  PROVED HERE: for every two words the law AluOrders returns true (P9.1, P9.4: of two words just one is less, or they are the same, as words and as numbers; bits go over each other; shifts are by less than 64). No condition.
-/
import Derived.Test.YtnlooiejigmlcaaRows
import Derived.Test.YtnlooiejigmlcaaAlu4
import Derived.WalkKit
import Derived.ProofKit
import Derived.OpenShut
import Derived.Below
import Derived.ShutString
import Derived.Deep.QuietTactic
namespace Go.Proofs.Ytnlooiejigmlcaa
namespace aluOrders
open Go.ChangeShapes Go.WideShapes Go.ChangeAt Go.RowKit
open Go.ChangeMaps (open_string shut_string)
set_option linter.unusedVariables false

theorem own : ownKnob Try.prog.godebug = none := by kernel_rfl

set_option maxRecDepth 100000 in
set_option maxHeartbeats 8000000 in
theorem walk (a0 : Int) (a1 : Int) (w : World) (w0 : (Lit.int .u64 a0).wf = true) (w1 : (Lit.int .u64 a1).wf = true) :
    Calls Try.prog 5 #[.int .u64 a0, .int .u64 a1] w fun e w' => e = .returned (.bool true) ∧ Below w.heap.size w w' := by
  obtain ⟨b, rfl, hb⟩ := word_of w0
  obtain ⟨c, rfl, hc⟩ := word_of w1
  have hB := Below.refl w.heap.size w
  have f1 : (IntKind.u64.wrap (IntKind.u64.wrap (((Al.doN 16 b c : Nat) : Int) + ((Al.doN 16 c b : Nat) : Int)) + ((Al.doN 15 b c : Nat) : Int)) != 1) = false := sum_one (Al.just_u b c)
  have f2 : (IntKind.u64.wrap (IntKind.u64.wrap (((Al.doN 17 b c : Nat) : Int) + ((Al.doN 17 c b : Nat) : Int)) + ((Al.doN 15 b c : Nat) : Int)) != 1) = false := sum_one (Al.just_s hb hc)
  have h1 : ∀ w, Calls Try.prog 14 #[.int .i64 11, .int .u64 b, .int .u64 9223372036854775808] w fun e w' => e = .returned (.int .u64 (Al.doN 11 b 9223372036854775808 : Nat)) ∧ w = w' := fun w => ldo_any 11 hb (c := 9223372036854775808) (by show _ < _; omega) w
  have h2 : ∀ w, Calls Try.prog 14 #[.int .i64 11, .int .u64 c, .int .u64 9223372036854775808] w fun e w' => e = .returned (.int .u64 (Al.doN 11 c 9223372036854775808 : Nat)) ∧ w = w' := fun w => ldo_any 11 hc (c := 9223372036854775808) (by show _ < _; omega) w
  have h3 : ∀ w, Calls Try.prog 14 #[.int .i64 9, .int .u64 c, .int .u64 63] w fun e w' => e = .returned (.int .u64 (Al.doN 9 c 63 : Nat)) ∧ w = w' := fun w => ldo_any 9 hc (c := 63) (by show _ < _; omega) w
  have h4 : ∀ w, Calls Try.prog 14 #[.int .i64 12, .int .u64 1, .int .u64 (Al.doN 9 c 63 : Nat)] w fun e w' => e = .returned (.int .u64 (Al.doN 12 1 (Al.doN 9 c 63) : Nat)) ∧ w = w' := fun w => ldo_any 12 (b := 1) (c := Al.doN 9 c 63) (by show _ < _; omega) (Al.do_lt _ hc (by show _ < _; omega)) w
  have e1 := Al.lts_ltu hb hc
  have e2 := Al.shl_mul b c
  have e3 := Al.shr_quo b c
  have l1 : Al.W (Al.doN 11 b 9223372036854775808) := Al.do_lt _ hb (by show _ < _; omega)
  have l2 : Al.W (Al.doN 11 c 9223372036854775808) := Al.do_lt _ hc (by show _ < _; omega)
  have l3 : Al.W (Al.doN 9 c 63) := Al.do_lt _ hc (by show _ < _; omega)
  have l4 : Al.W (Al.doN 12 1 (Al.doN 9 c 63)) := Al.do_lt _ (by show _ < _; omega) l3
  obtain ⟨p, qp⟩ : ∃ z, Hid (Al.doN 11 b 9223372036854775808 = z) := ⟨_, rfl⟩
  rw [qp.out] at e1 l1
  simp only [qp.out] at h1
  obtain ⟨q, qq⟩ : ∃ z, Hid (Al.doN 11 c 9223372036854775808 = z) := ⟨_, rfl⟩
  rw [qq.out] at e1 l2
  simp only [qq.out] at h2
  obtain ⟨n, qn⟩ : ∃ z, Hid (Al.doN 9 c 63 = z) := ⟨_, rfl⟩
  rw [qn.out] at e2 e3 l3 l4
  simp only [qn.out] at h3 h4
  obtain ⟨s, qs⟩ : ∃ z, Hid (Al.doN 12 1 n = z) := ⟨_, rfl⟩
  rw [qs.out] at e2 e3 l4
  simp only [qs.out] at h4
  have f3 : (((Al.doN 17 b c : Nat) : Int) != ((Al.doN 16 p q : Nat) : Int)) = false := by rw [e1]; simp
  have f4 : (((Al.doN 4 (Al.doN 9 b c) (Al.doN 10 b c) : Nat) : Int) != ((Al.doN 4 b c : Nat) : Int)) = false := by rw [Al.and_or hb hc]; simp
  have f5 : (((Al.doN 11 (Al.doN 11 b c) c : Nat) : Int) != (b : Int)) = false := by rw [Al.xor_xor]; simp
  have f6 : (((Al.doN 12 b c : Nat) : Int) == ((Al.doN 6 b s : Nat) : Int)) = true := by rw [e2]; simp
  have f7 : (((Al.doN 13 b c : Nat) : Int) == ((Al.doN 7 b s : Nat) : Int)) = true := by rw [e3]; simp
  clear e1 e2 e3
  go_enter Try.func5, Try.ntmps5
  go_wp2_with (first | (go_at_call 14; (with_reducible refine (ldo_any _ ?x1 ?x2 _).mono ?_); (case x1 => (repeat (first | assumption | apply Al.do_lt))); (case x2 => (repeat (first | assumption | apply Al.do_lt))); rintro e w1 ⟨rfl, rfl⟩) | (go_at_call 14; (with_reducible refine (h1 _).mono ?_); rintro e w1 ⟨rfl, rfl⟩) | (go_at_call 14; (with_reducible refine (h2 _).mono ?_); rintro e w1 ⟨rfl, rfl⟩) | (go_at_call 14; (with_reducible refine (h3 _).mono ?_); rintro e w1 ⟨rfl, rfl⟩) | (go_at_call 14; (with_reducible refine (h4 _).mono ?_); rintro e w1 ⟨rfl, rfl⟩) | (go_at_call 13; (with_reducible refine (awake9_any _).mono ?_); rintro e w1 ⟨rfl, rfl⟩))
  go_ret
  exact ⟨rfl, hB⟩

set_option maxRecDepth 100000 in
theorem lifted (os : Os) (started : os.Started) (H : Type) (enc : TypeId × Value → H) :
    ReturnsInHanded {} Try.checked os 5 .any (Rows.aluOrdersSpec.pre6 enc Try.prog Try.f5 Rows.aluOrdersRow.domain false) (Rows.aluOrdersSpec.post enc Try.prog Try.f5 false true false false) := by
  refine returnsInHanded_of_change (C := Try.checked) own started (by kernel_rfl) Try.func5
    (ChangeSpec.witness6 (enc := enc) (C := Try.checked) false ⟨#[], #[.int .u64 0, .int .u64 0], []⟩ 8 (by kernel_rfl) (by kernel_rfl) (by kernel_rfl) (by kernel_rfl)) ?_
  intro W base args ds gs before hval0 hW hcnd _
  have hval : ∀ (j : Nat) t v, Try.f5.params[j]? = some t → args[j]? = some v → Value.okWide Try.prog W .any base t v := hval0
  have hW' := hW
  obtain ⟨p, q, hA0, hV, rfl, hfz, hnd⟩ := hW
  have hA : DataW.TrodAll enc Try.prog W 0 (fun _ => true) true Try.f5.params.toList args.toList ds p := hA0
  rw [Try.params5] at hA hval
  obtain ⟨v0, vs0, d0, ds0, p0, q0, hargs, rfl, rfl, h0, r0⟩ := trodAll_cons hA
  obtain ⟨v1, vs1, d1, ds1, p1, q1, rfl, rfl, rfl, h1, r1⟩ := trodAll_cons r0
  obtain ⟨rfl, rfl, rfl⟩ := trodAll_nil r1
  obtain rfl : args = #[v0, v1] := by cases args; simp_all
  obtain ⟨rfl, rfl⟩ := trodVars_none hV
  obtain ⟨a0, rfl, rfl, rfl, w0⟩ := open_int Try.underlying22 (hval 0 22 v0 rfl rfl) h0
  obtain ⟨a1, rfl, rfl, rfl, w1⟩ := open_int Try.underlying22 (hval 1 22 v1 rfl rfl) h1
  clear hA0 hval0
  simp only [List.append_nil] at hW'
  refine (walk a0 a1 W w0 w1).mono fun e W' ⟨he, bel⟩ => ?_
  subst he
  exact ⟨_, rfl, _, _, _, [], [], [], hW', trodAll_mk1 (shut_bool Try.underlying4 _), (trodAll_cons_mk (shut_int Try.underlying22 w0) (trodAll_cons_mk (shut_int Try.underlying22 w1) trodAll_mk0)), rfl, bel.frame _, fun h => by cases h⟩

theorem over : Rows.aluOrdersRow.holds Try.pinned (OpenSpec.ofChange Rows.aluOrdersSpec) :=
  OpenClaim.holds_of_wide 5 Try.f5 rfl rfl rfl rfl rfl rfl rfl ⟨rfl, rfl, rfl, rfl, rfl⟩ rfl rfl rfl rfl rfl (by kernel_rfl) Try.func5 (by kernel_rfl)
    (of_decide_eq_true (by kernel_rfl)) (by unfold Func.isWrapper; first | (rw [if_pos (by decide +kernel)]; kernel_rfl) | (rw [if_neg (by decide +kernel)]; exact ⟨rfl, rfl⟩))
    (fun os started H enc _ => lifted os started H enc)

end aluOrders
/-- The statement. -/
theorem aluOrders_holds : Rows.AluOrdersSaid :=
  aluOrders.over
#print axioms aluOrders_holds
end Go.Proofs.Ytnlooiejigmlcaa
