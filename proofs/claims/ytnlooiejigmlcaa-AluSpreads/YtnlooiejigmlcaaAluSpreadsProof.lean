/-
  PROVED HERE: for every three words the law AluSpreads returns true (P9.1: products are spread over sums, sums, products and bits do not hang on order or brackets; shifting up by one more is doubling). No condition.
-/
import Derived.Test.YtnlooiejigmlcaaRows
import Derived.Test.YtnlooiejigmlcaaAlu4
import Derived.WalkKit
import Derived.ProofKit
import Derived.OpenShut
import Derived.Below
import Derived.ShutString
import Derived.Deep.QuietTactic
namespace Go.Proofs.Ytnlooiejigmlcaa
namespace aluSpreads
open Go.ChangeShapes Go.WideShapes Go.ChangeAt Go.RowKit
open Go.ChangeMaps (open_string shut_string)
set_option linter.unusedVariables false

theorem own : ownKnob Try.prog.godebug = none := by kernel_rfl

set_option maxRecDepth 100000 in
set_option maxHeartbeats 8000000 in
theorem walk (a0 : Int) (a1 : Int) (a2 : Int) (w : World) (w0 : (Lit.int .u64 a0).wf = true) (w1 : (Lit.int .u64 a1).wf = true) (w2 : (Lit.int .u64 a2).wf = true) :
    Calls Try.prog 6 #[.int .u64 a0, .int .u64 a1, .int .u64 a2] w fun e w' => e = .returned (.bool true) ∧ Below w.heap.size w w' := by
  obtain ⟨a, rfl, ha⟩ := word_of w0
  obtain ⟨b, rfl, hb⟩ := word_of w1
  obtain ⟨c, rfl, hc⟩ := word_of w2
  have hB := Below.refl w.heap.size w
  have f1 := bneN (Al.mul_add a b c)
  have f2 := bneN (Al.and_xor a b c)
  have f3 := bneN (Al.or_and a b c)
  go_enter Try.func6, Try.ntmps6
  go_wp2_with (first | (go_at_call 14; (with_reducible refine (ldo_any _ ?x1 ?x2 _).mono ?_); (case x1 => (repeat (first | assumption | apply Al.do_lt))); (case x2 => (repeat (first | assumption | apply Al.do_lt))); rintro e w1 ⟨rfl, rfl⟩))
  go_loopw [55] (fun i wr => ∃ k : Nat, k ≤ 5 ∧ i = .int .i64 k ∧ wr = w.alloc (.cells #[.int .i64 4, .int .i64 6, .int .i64 9, .int .i64 10, .int .i64 11] 3)) (fun i _ => 5 - (intOf i).toNat)
  case atStart => exact ⟨0, by omega, rfl, rfl⟩
  case round =>
    obtain ⟨k, hk, rfl, rfl⟩ := hrel
    by_cases h5 : k = 5
    · subst h5
      clear f1 f2 f3
      have e1 := Al.shl_one a c
      have e2 := Al.shl_mod a c
      have l1 : Al.W (c % 63) := by show _ < _; omega
      have l2 : Al.W (c % 63 + 1) := by show _ < _; omega
      have l3 : Al.W (c % 64) := by show _ < _; omega
      have r1 : (c : Int) % 63 = ((c % 63 : Nat) : Int) := by omega
      have r2 : IntKind.u64.wrap (((c % 63 : Nat) : Int) + 1) = ((c % 63 + 1 : Nat) : Int) := by rw [IntKind.wrap_u64]; omega
      have r4 : ((c % 63 : Nat) : Int) + 1 = ((c % 63 + 1 : Nat) : Int) := by omega
      have r3 : (c : Int) % 64 = ((c % 64 : Nat) : Int) := by omega
      obtain ⟨m, qm⟩ : ∃ z, Hid (c % 63 + 1 = z) := ⟨_, rfl⟩
      rw [qm.out] at e1 l2 r2 r4
      obtain ⟨n, qn⟩ : ∃ z, Hid (c % 63 = z) := ⟨_, rfl⟩
      rw [qn.out] at e1 l1 r1 r2 r4
      obtain ⟨r, qr⟩ : ∃ z, Hid (c % 64 = z) := ⟨_, rfl⟩
      rw [qr.out] at e2 l3 r3
      have f1 : (((Al.doN 12 a m : Nat) : Int) == ((Al.doN 4 (Al.doN 12 a n) (Al.doN 12 a n) : Nat) : Int)) = true := by rw [e1]; simp
      have f2 : (((Al.doN 12 a c : Nat) : Int) == ((Al.doN 12 a r : Nat) : Int)) = true := by rw [← e2]; simp
      clear e1 e2
      go_wp2_with (first | (go_at_call 14; (with_reducible refine (ldo_any _ ?x1 ?x2 _).mono ?_); (case x1 => (repeat (first | assumption | apply Al.do_lt))); (case x2 => (repeat (first | assumption | apply Al.do_lt))); rintro e w1 ⟨rfl, rfl⟩) | (go_at_call 13; (with_reducible refine (awake9_any _).mono ?_); rintro e w1 ⟨rfl, rfl⟩))
      go_ret
      exact ⟨rfl, hB.alloc (Nat.le_refl _) _⟩
    · have : k = 0 ∨ k = 1 ∨ k = 2 ∨ k = 3 ∨ k = 4 := by omega
      clear h5 hk f1 f2 f3
      rcases this with rfl | rfl | rfl | rfl | rfl
      · have g1 := bneN (show Al.doN 4 a b = Al.doN 4 b a from Al.comm 0 a b)
        have g2 := bneN (show Al.doN 4 a (Al.doN 4 b c) = Al.doN 4 (Al.doN 4 a b) c from Al.assoc 0 a b c)
        go_wp2_with (first | (go_at_call 14; (with_reducible refine (ldo_any _ ?x1 ?x2 _).mono ?_); (case x1 => (repeat (first | assumption | apply Al.do_lt))); (case x2 => (repeat (first | assumption | apply Al.do_lt))); rintro e w1 ⟨rfl, rfl⟩))
        go_roundw
        case rel => exact ⟨1, by omega, by go_num, by first | rfl | trivial⟩
        case measure => simp [intOf]
      · have g1 := bneN (show Al.doN 6 a b = Al.doN 6 b a from Al.comm 1 a b)
        have g2 := bneN (show Al.doN 6 a (Al.doN 6 b c) = Al.doN 6 (Al.doN 6 a b) c from Al.assoc 1 a b c)
        go_wp2_with (first | (go_at_call 14; (with_reducible refine (ldo_any _ ?x1 ?x2 _).mono ?_); (case x1 => (repeat (first | assumption | apply Al.do_lt))); (case x2 => (repeat (first | assumption | apply Al.do_lt))); rintro e w1 ⟨rfl, rfl⟩))
        go_roundw
        case rel => exact ⟨2, by omega, by go_num, by first | rfl | trivial⟩
        case measure => simp [intOf]
      · have g1 := bneN (show Al.doN 9 a b = Al.doN 9 b a from Al.comm 2 a b)
        have g2 := bneN (show Al.doN 9 a (Al.doN 9 b c) = Al.doN 9 (Al.doN 9 a b) c from Al.assoc 2 a b c)
        go_wp2_with (first | (go_at_call 14; (with_reducible refine (ldo_any _ ?x1 ?x2 _).mono ?_); (case x1 => (repeat (first | assumption | apply Al.do_lt))); (case x2 => (repeat (first | assumption | apply Al.do_lt))); rintro e w1 ⟨rfl, rfl⟩))
        go_roundw
        case rel => exact ⟨3, by omega, by go_num, by first | rfl | trivial⟩
        case measure => simp [intOf]
      · have g1 := bneN (show Al.doN 10 a b = Al.doN 10 b a from Al.comm 3 a b)
        have g2 := bneN (show Al.doN 10 a (Al.doN 10 b c) = Al.doN 10 (Al.doN 10 a b) c from Al.assoc 3 a b c)
        go_wp2_with (first | (go_at_call 14; (with_reducible refine (ldo_any _ ?x1 ?x2 _).mono ?_); (case x1 => (repeat (first | assumption | apply Al.do_lt))); (case x2 => (repeat (first | assumption | apply Al.do_lt))); rintro e w1 ⟨rfl, rfl⟩))
        go_roundw
        case rel => exact ⟨4, by omega, by go_num, by first | rfl | trivial⟩
        case measure => simp [intOf]
      · have g1 := bneN (show Al.doN 11 a b = Al.doN 11 b a from Al.comm 4 a b)
        have g2 := bneN (show Al.doN 11 a (Al.doN 11 b c) = Al.doN 11 (Al.doN 11 a b) c from Al.assoc 4 a b c)
        go_wp2_with (first | (go_at_call 14; (with_reducible refine (ldo_any _ ?x1 ?x2 _).mono ?_); (case x1 => (repeat (first | assumption | apply Al.do_lt))); (case x2 => (repeat (first | assumption | apply Al.do_lt))); rintro e w1 ⟨rfl, rfl⟩))
        go_roundw
        case rel => exact ⟨5, by omega, by go_num, by first | rfl | trivial⟩
        case measure => simp [intOf]

set_option maxRecDepth 100000 in
theorem lifted (os : Os) (started : os.Started) (H : Type) (enc : TypeId × Value → H) :
    ReturnsInHanded {} Try.checked os 6 .any (Rows.aluSpreadsSpec.pre6 enc Try.prog Try.f6 Rows.aluSpreadsRow.domain false) (Rows.aluSpreadsSpec.post enc Try.prog Try.f6 false true false false) := by
  refine returnsInHanded_of_change (C := Try.checked) own started (by kernel_rfl) Try.func6
    (ChangeSpec.witness6 (enc := enc) (C := Try.checked) false ⟨#[], #[.int .u64 0, .int .u64 0, .int .u64 0], []⟩ 8 (by kernel_rfl) (by kernel_rfl) (by kernel_rfl) (by kernel_rfl)) ?_
  intro W base args ds gs before hval0 hW hcnd _
  have hval : ∀ (j : Nat) t v, Try.f6.params[j]? = some t → args[j]? = some v → Value.okWide Try.prog W .any base t v := hval0
  have hW' := hW
  obtain ⟨p, q, hA0, hV, rfl, hfz, hnd⟩ := hW
  have hA : DataW.TrodAll enc Try.prog W 0 (fun _ => true) true Try.f6.params.toList args.toList ds p := hA0
  rw [Try.params6] at hA hval
  obtain ⟨v0, vs0, d0, ds0, p0, q0, hargs, rfl, rfl, h0, r0⟩ := trodAll_cons hA
  obtain ⟨v1, vs1, d1, ds1, p1, q1, rfl, rfl, rfl, h1, r1⟩ := trodAll_cons r0
  obtain ⟨v2, vs2, d2, ds2, p2, q2, rfl, rfl, rfl, h2, r2⟩ := trodAll_cons r1
  obtain ⟨rfl, rfl, rfl⟩ := trodAll_nil r2
  obtain rfl : args = #[v0, v1, v2] := by cases args; simp_all
  obtain ⟨rfl, rfl⟩ := trodVars_none hV
  obtain ⟨a0, rfl, rfl, rfl, w0⟩ := open_int Try.underlying22 (hval 0 22 v0 rfl rfl) h0
  obtain ⟨a1, rfl, rfl, rfl, w1⟩ := open_int Try.underlying22 (hval 1 22 v1 rfl rfl) h1
  obtain ⟨a2, rfl, rfl, rfl, w2⟩ := open_int Try.underlying22 (hval 2 22 v2 rfl rfl) h2
  clear hA0 hval0
  simp only [List.append_nil] at hW'
  refine (walk a0 a1 a2 W w0 w1 w2).mono fun e W' ⟨he, bel⟩ => ?_
  subst he
  exact ⟨_, rfl, _, _, _, [], [], [], hW', trodAll_mk1 (shut_bool Try.underlying4 _), (trodAll_cons_mk (shut_int Try.underlying22 w0) (trodAll_cons_mk (shut_int Try.underlying22 w1) (trodAll_cons_mk (shut_int Try.underlying22 w2) trodAll_mk0))), rfl, bel.frame _, fun h => by cases h⟩

theorem over : Rows.aluSpreadsRow.holds Try.pinned (OpenSpec.ofChange Rows.aluSpreadsSpec) :=
  OpenClaim.holds_of_wide 6 Try.f6 rfl rfl rfl rfl rfl rfl rfl ⟨rfl, rfl, rfl, rfl, rfl⟩ rfl rfl rfl rfl rfl (by kernel_rfl) Try.func6 (by kernel_rfl)
    (of_decide_eq_true (by kernel_rfl)) (by unfold Func.isWrapper; first | (rw [if_pos (by decide +kernel)]; kernel_rfl) | (rw [if_neg (by decide +kernel)]; exact ⟨rfl, rfl⟩))
    (fun os started H enc _ => lifted os started H enc)

end aluSpreads
/-- The statement. -/
theorem aluSpreads_holds : Rows.AluSpreadsSaid :=
  aluSpreads.over
#print axioms aluSpreads_holds
end Go.Proofs.Ytnlooiejigmlcaa
