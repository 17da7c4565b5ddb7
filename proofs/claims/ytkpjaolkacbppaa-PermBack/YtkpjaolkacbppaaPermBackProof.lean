/-
  PROVED HERE: for every three words the law PermBack returns true (P6.3: there and back, names from 1 to 2^61, unlike numbers have unlike names). No condition.
-/
import Derived.Test.YtkpjaolkacbppaaRows
import Derived.Test.YtkpjaolkacbppaaPrm4
import Derived.WalkKit
import Derived.ProofKit
import Derived.OpenShut
import Derived.Below
import Derived.ShutString
import Derived.Deep.QuietTactic
namespace Go.Proofs.Ytkpjaolkacbppaa
namespace permBack
open Go.ChangeShapes Go.WideShapes Go.ChangeAt Go.RowKit
open Go.ChangeMaps (open_string shut_string)
set_option linter.unusedVariables false

theorem own : ownKnob Try.prog.godebug = none := by kernel_rfl

set_option maxRecDepth 100000 in
set_option maxHeartbeats 8000000 in
theorem walk (a0 : Int) (a1 : Int) (a2 : Int) (w : World) (w0 : (Lit.int .u64 a0).wf = true) (w1 : (Lit.int .u64 a1).wf = true) (w2 : (Lit.int .u64 a2).wf = true) :
    Calls Try.prog 4 #[.int .u64 a0, .int .u64 a1, .int .u64 a2] w fun e w' => e = .returned (.bool true) ∧ Below w.heap.size w w' := by
  obtain ⟨k, rfl, hk⟩ := u64_nat w0
  obtain ⟨n, rfl, hn⟩ := u64_nat w1
  obtain ⟨m, rfl, hm⟩ := u64_nat w2
  have hB := Below.refl w.heap.size w
  have h1 := fun w => name_any (key := k) hn w
  have h2 := fun w => name_any (key := k) hm w
  have u1 := Pm.name_lo k n
  have u2 := Pm.name_hi k n
  have h3 := fun w => num_any (key := k) (n := Pm.nameN k n) (by omega) w
  rw [Pm.num_name] at h3
  have h4 := fun w => num_any (key := k) hn w
  have h5 := fun w => name_any (key := k) (n := Pm.numN k n) (by have := Pm.num_lt k n; omega) w
  rw [Pm.name_num hn] at h5
  have f1 := all61 hn
  have f2 := all61 hm
  have hsub : IntKind.u64.wrap ((n : Int) - 1) = (((n + 18446744073709551615) % 18446744073709551616 : Nat) : Int) := by rw [IntKind.wrap_u64]; omega
  have f3 := all61 (Pm.mod_lt64 (n + 18446744073709551615))
  have f : (((Pm.nameN k n : Nat) : Int) == ((Pm.nameN k m : Nat) : Int)) = (((n % 2305843009213693952 : Nat) : Int) == ((m % 2305843009213693952 : Nat) : Int)) := by rw [beqN, beqN]; exact Pm.name_iff k n m
  have g3 : (n + 18446744073709551615) % 18446744073709551616 % 2305843009213693952 < 2305843009213693952 := Nat.mod_lt _ (by omega)
  obtain ⟨s, qs⟩ : ∃ z, Hid ((n + 18446744073709551615) % 18446744073709551616 = z) := ⟨_, rfl⟩
  rw [qs.out] at hsub f3 g3
  simp only [qs.out] at h5
  obtain ⟨c, qc⟩ : ∃ z, Hid (s % 2305843009213693952 = z) := ⟨_, rfl⟩
  rw [qc.out] at f3 g3
  simp only [qc.out] at h5
  obtain ⟨d, qd⟩ : ∃ z, Hid (n % 2305843009213693952 = z) := ⟨_, rfl⟩
  rw [qd.out] at f1 f
  simp only [qd.out] at h3
  obtain ⟨e, qe⟩ : ∃ z, Hid (m % 2305843009213693952 = z) := ⟨_, rfl⟩
  rw [qe.out] at f2 f
  obtain ⟨a, qa⟩ : ∃ z, Hid (Pm.nameN k n = z) := ⟨_, rfl⟩
  rw [qa.out] at f u1 u2
  simp only [qa.out] at h1 h3
  obtain ⟨b, qb⟩ : ∃ z, Hid (Pm.nameN k m = z) := ⟨_, rfl⟩
  rw [qb.out] at f
  simp only [qb.out] at h2
  obtain ⟨t, qt⟩ : ∃ z, Hid (Pm.numN k n = z) := ⟨_, rfl⟩
  simp only [qt.out] at h4 h5
  replace h5 : ∀ w, Calls Try.prog 7 #[.int .u64 k, .int .u64 t] w fun e w' => e = .returned (.int .u64 ((c : Int) + 1)) ∧ Below w.heap.size w w' := h5
  have v1 : decide ((1 : Int) ≤ (a : Int)) = true := by simp; omega
  have v2 : decide ((a : Int) ≤ 2305843009213693952) = true := by simp; omega
  have v3 : IntKind.u64.wrap ((c : Int) + 1) = (c : Int) + 1 := by rw [IntKind.wrap_u64]; omega
  clear u1 u2 g3
  cases hq : ((d : Int) == (e : Int))
  · rw [hq] at f
    go_enter Try.func4, Try.ntmps4
    go_wp2_with (first | (go_at_call 7; with_reducible refine (h1 _).mono ?_; rintro e w1 ⟨rfl, hb⟩; replace hB := hB.trans (hb.mono hB.size); clear hb) | (go_at_call 7; with_reducible refine (h2 _).mono ?_; rintro e w1 ⟨rfl, hb⟩; replace hB := hB.trans (hb.mono hB.size); clear hb) | (go_at_call 9; with_reducible refine (h3 _).mono ?_; rintro e w1 ⟨rfl, hb⟩; replace hB := hB.trans (hb.mono hB.size); clear hb) | (go_at_call 9; with_reducible refine (h4 _).mono ?_; rintro e w1 ⟨rfl, hb⟩; replace hB := hB.trans (hb.mono hB.size); clear hb) | (go_at_call 7; with_reducible refine (h5 _).mono ?_; rintro e w1 ⟨rfl, hb⟩; replace hB := hB.trans (hb.mono hB.size); clear hb) | (go_at_call 13; refine (awake6_any _).mono ?_; rintro e w1 ⟨rfl, hb⟩; replace hB := hB.trans (hb.mono hB.size); clear hb))
    go_ret
    exact ⟨rfl, hB⟩
  · rw [hq] at f
    go_enter Try.func4, Try.ntmps4
    go_wp2_with (first | (go_at_call 7; with_reducible refine (h1 _).mono ?_; rintro e w1 ⟨rfl, hb⟩; replace hB := hB.trans (hb.mono hB.size); clear hb) | (go_at_call 7; with_reducible refine (h2 _).mono ?_; rintro e w1 ⟨rfl, hb⟩; replace hB := hB.trans (hb.mono hB.size); clear hb) | (go_at_call 9; with_reducible refine (h3 _).mono ?_; rintro e w1 ⟨rfl, hb⟩; replace hB := hB.trans (hb.mono hB.size); clear hb) | (go_at_call 9; with_reducible refine (h4 _).mono ?_; rintro e w1 ⟨rfl, hb⟩; replace hB := hB.trans (hb.mono hB.size); clear hb) | (go_at_call 7; with_reducible refine (h5 _).mono ?_; rintro e w1 ⟨rfl, hb⟩; replace hB := hB.trans (hb.mono hB.size); clear hb) | (go_at_call 13; refine (awake6_any _).mono ?_; rintro e w1 ⟨rfl, hb⟩; replace hB := hB.trans (hb.mono hB.size); clear hb))
    go_ret
    exact ⟨rfl, hB⟩

set_option maxRecDepth 100000 in
theorem lifted (os : Os) (started : os.Started) (H : Type) (enc : TypeId × Value → H) :
    ReturnsInHanded {} Try.checked os 4 .any (Rows.permBackSpec.pre6 enc Try.prog Try.f4 Rows.permBackRow.domain false) (Rows.permBackSpec.post enc Try.prog Try.f4 false true false false) := by
  refine returnsInHanded_of_change (C := Try.checked) own started (by kernel_rfl) Try.func4
    (ChangeSpec.witness6 (enc := enc) (C := Try.checked) false ⟨#[], #[.int .u64 0, .int .u64 0, .int .u64 0], []⟩ 8 (by kernel_rfl) (by kernel_rfl) (by kernel_rfl) (by kernel_rfl)) ?_
  intro W base args ds gs before hval0 hW hcnd _
  have hval : ∀ (j : Nat) t v, Try.f4.params[j]? = some t → args[j]? = some v → Value.okWide Try.prog W .any base t v := hval0
  have hW' := hW
  obtain ⟨p, q, hA0, hV, rfl, hfz, hnd⟩ := hW
  have hA : DataW.TrodAll enc Try.prog W 0 (fun _ => true) true Try.f4.params.toList args.toList ds p := hA0
  rw [Try.params4] at hA hval
  obtain ⟨v0, vs0, d0, ds0, p0, q0, hargs, rfl, rfl, h0, r0⟩ := trodAll_cons hA
  obtain ⟨v1, vs1, d1, ds1, p1, q1, rfl, rfl, rfl, h1, r1⟩ := trodAll_cons r0
  obtain ⟨v2, vs2, d2, ds2, p2, q2, rfl, rfl, rfl, h2, r2⟩ := trodAll_cons r1
  obtain ⟨rfl, rfl, rfl⟩ := trodAll_nil r2
  obtain rfl : args = #[v0, v1, v2] := by cases args; simp_all
  obtain ⟨rfl, rfl⟩ := trodVars_none hV
  obtain ⟨a0, rfl, rfl, rfl, w0⟩ := open_int Try.underlying22 (hval 0 22 v0 rfl rfl) h0
  obtain ⟨a1, rfl, rfl, rfl, w1⟩ := open_int Try.underlying22 (hval 1 22 v1 rfl rfl) h1
  obtain ⟨a2, rfl, rfl, rfl, w2⟩ := open_int Try.underlying22 (hval 2 22 v2 rfl rfl) h2
  clear hA0 hval0
  simp only [List.append_nil] at hW'
  refine (walk a0 a1 a2 W w0 w1 w2).mono fun e W' ⟨he, bel⟩ => ?_
  subst he
  exact ⟨_, rfl, _, _, _, [], [], [], hW', trodAll_mk1 (shut_bool Try.underlying4 _), (trodAll_cons_mk (shut_int Try.underlying22 w0) (trodAll_cons_mk (shut_int Try.underlying22 w1) (trodAll_cons_mk (shut_int Try.underlying22 w2) trodAll_mk0))), rfl, bel.frame _, fun h => by cases h⟩

theorem over : Rows.permBackRow.holds Try.pinned (OpenSpec.ofChange Rows.permBackSpec) :=
  OpenClaim.holds_of_wide 4 Try.f4 rfl rfl rfl rfl rfl rfl rfl ⟨rfl, rfl, rfl, rfl, rfl⟩ rfl rfl rfl rfl rfl (by kernel_rfl) Try.func4 (by kernel_rfl)
    (of_decide_eq_true (by kernel_rfl)) (by unfold Func.isWrapper; first | (rw [if_pos (by decide +kernel)]; kernel_rfl) | (rw [if_neg (by decide +kernel)]; exact ⟨rfl, rfl⟩))
    (fun os started H enc _ => lifted os started H enc)

end permBack
/-- The statement. -/
theorem permBack_holds : Rows.PermBackSaid :=
  permBack.over
#print axioms permBack_holds
end Go.Proofs.Ytkpjaolkacbppaa
