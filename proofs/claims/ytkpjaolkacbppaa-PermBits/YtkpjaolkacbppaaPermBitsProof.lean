/-
  PROVED HERE: for every four words the law PermBits returns true (P6.2, P6.3: names hang on the lower 61 bits alone; by each key a name's number is one number). No condition.
-/
import Derived.Test.YtkpjaolkacbppaaRows
import Derived.Test.YtkpjaolkacbppaaPrm4
import Derived.WalkKit
import Derived.ProofKit
import Derived.OpenShut
import Derived.Below
import Derived.ShutString
import Derived.Deep.QuietTactic
namespace Go.Proofs.Ytkpjaolkacbppaa
namespace permBits
open Go.ChangeShapes Go.WideShapes Go.ChangeAt Go.RowKit
open Go.ChangeMaps (open_string shut_string)
set_option linter.unusedVariables false

theorem own : ownKnob Try.prog.godebug = none := by kernel_rfl

set_option maxRecDepth 100000 in
set_option maxHeartbeats 8000000 in
theorem walk (a0 : Int) (a1 : Int) (a2 : Int) (a3 : Int) (w : World) (w0 : (Lit.int .u64 a0).wf = true) (w1 : (Lit.int .u64 a1).wf = true) (w2 : (Lit.int .u64 a2).wf = true) (w3 : (Lit.int .u64 a3).wf = true) :
    Calls Try.prog 6 #[.int .u64 a0, .int .u64 a1, .int .u64 a2, .int .u64 a3] w fun e w' => e = .returned (.bool true) ∧ Below w.heap.size w w' := by
  obtain ⟨k, rfl, hk⟩ := u64_nat w0
  obtain ⟨o, rfl, ho⟩ := u64_nat w1
  obtain ⟨n, rfl, hn⟩ := u64_nat w2
  obtain ⟨h, rfl, hh⟩ := u64_nat w3
  have hB := Below.refl w.heap.size w
  obtain ⟨x, fx, hx, ex⟩ := high_at (h := h) hn
  have h1 := fun w => name_any (key := k) hn w
  have h2 := fun w => name_any (key := k) hx w
  have h3 := fun w => num_any (key := k) hn w
  have h4 := fun w => num_any (key := k) hx w
  have h5 := fun w => name_any (key := o) hn w
  rw [← name_of ex] at h2
  rw [← num_of hn hx ex] at h4
  have u1 := Pm.name_lo k n
  have u2 := Pm.name_hi k n
  have h6 := fun w => num_any (key := o) (n := Pm.nameN k n) (by omega) w
  have f1 := all61 hn
  have f : (((Pm.numN o (Pm.nameN k n) : Nat) : Int) == ((n % 2305843009213693952 : Nat) : Int)) = (((Pm.nameN o n : Nat) : Int) == ((Pm.nameN k n : Nat) : Int)) := by rw [beqN, beqN]; exact Pm.other_iff k o n
  clear ex
  obtain ⟨d, qd⟩ : ∃ z, Hid (n % 2305843009213693952 = z) := ⟨_, rfl⟩
  rw [qd.out] at f1 f
  obtain ⟨a, qa⟩ : ∃ z, Hid (Pm.nameN k n = z) := ⟨_, rfl⟩
  rw [qa.out] at f u1 u2
  simp only [qa.out] at h1 h2 h6
  obtain ⟨b, qb⟩ : ∃ z, Hid (Pm.nameN o n = z) := ⟨_, rfl⟩
  rw [qb.out] at f
  simp only [qb.out] at h5
  obtain ⟨t, qt⟩ : ∃ z, Hid (Pm.numN k n = z) := ⟨_, rfl⟩
  simp only [qt.out] at h3 h4
  obtain ⟨s, qs⟩ : ∃ z, Hid (Pm.numN o a = z) := ⟨_, rfl⟩
  rw [qs.out] at f
  simp only [qs.out] at h6
  have ha : ((a : Int) != 0) = true := by simp; omega
  cases hq : ((b : Int) == (a : Int))
  · rw [hq] at f
    go_enter Try.func6, Try.ntmps6
    go_wp2_with (first | (go_at_call 7; with_reducible refine (h1 _).mono ?_; rintro e w1 ⟨rfl, hb⟩; replace hB := hB.trans (hb.mono hB.size); clear hb) | (go_at_call 7; with_reducible refine (h2 _).mono ?_; rintro e w1 ⟨rfl, hb⟩; replace hB := hB.trans (hb.mono hB.size); clear hb) | (go_at_call 9; with_reducible refine (h3 _).mono ?_; rintro e w1 ⟨rfl, hb⟩; replace hB := hB.trans (hb.mono hB.size); clear hb) | (go_at_call 9; with_reducible refine (h4 _).mono ?_; rintro e w1 ⟨rfl, hb⟩; replace hB := hB.trans (hb.mono hB.size); clear hb) | (go_at_call 7; with_reducible refine (h5 _).mono ?_; rintro e w1 ⟨rfl, hb⟩; replace hB := hB.trans (hb.mono hB.size); clear hb) | (go_at_call 9; with_reducible refine (h6 _).mono ?_; rintro e w1 ⟨rfl, hb⟩; replace hB := hB.trans (hb.mono hB.size); clear hb) | (go_at_call 13; refine (awake6_any _).mono ?_; rintro e w1 ⟨rfl, hb⟩; replace hB := hB.trans (hb.mono hB.size); clear hb))
    go_ret
    exact ⟨rfl, hB⟩
  · rw [hq] at f
    go_enter Try.func6, Try.ntmps6
    go_wp2_with (first | (go_at_call 7; with_reducible refine (h1 _).mono ?_; rintro e w1 ⟨rfl, hb⟩; replace hB := hB.trans (hb.mono hB.size); clear hb) | (go_at_call 7; with_reducible refine (h2 _).mono ?_; rintro e w1 ⟨rfl, hb⟩; replace hB := hB.trans (hb.mono hB.size); clear hb) | (go_at_call 9; with_reducible refine (h3 _).mono ?_; rintro e w1 ⟨rfl, hb⟩; replace hB := hB.trans (hb.mono hB.size); clear hb) | (go_at_call 9; with_reducible refine (h4 _).mono ?_; rintro e w1 ⟨rfl, hb⟩; replace hB := hB.trans (hb.mono hB.size); clear hb) | (go_at_call 7; with_reducible refine (h5 _).mono ?_; rintro e w1 ⟨rfl, hb⟩; replace hB := hB.trans (hb.mono hB.size); clear hb) | (go_at_call 9; with_reducible refine (h6 _).mono ?_; rintro e w1 ⟨rfl, hb⟩; replace hB := hB.trans (hb.mono hB.size); clear hb) | (go_at_call 13; refine (awake6_any _).mono ?_; rintro e w1 ⟨rfl, hb⟩; replace hB := hB.trans (hb.mono hB.size); clear hb))
    go_ret
    exact ⟨rfl, hB⟩

set_option maxRecDepth 100000 in
theorem lifted (os : Os) (started : os.Started) (H : Type) (enc : TypeId × Value → H) :
    ReturnsInHanded {} Try.checked os 6 .any (Rows.permBitsSpec.pre6 enc Try.prog Try.f6 Rows.permBitsRow.domain false) (Rows.permBitsSpec.post enc Try.prog Try.f6 false true false false) := by
  refine returnsInHanded_of_change (C := Try.checked) own started (by kernel_rfl) Try.func6
    (ChangeSpec.witness6 (enc := enc) (C := Try.checked) false ⟨#[], #[.int .u64 0, .int .u64 0, .int .u64 0, .int .u64 0], []⟩ 8 (by kernel_rfl) (by kernel_rfl) (by kernel_rfl) (by kernel_rfl)) ?_
  intro W base args ds gs before hval0 hW hcnd _
  have hval : ∀ (j : Nat) t v, Try.f6.params[j]? = some t → args[j]? = some v → Value.okWide Try.prog W .any base t v := hval0
  have hW' := hW
  obtain ⟨p, q, hA0, hV, rfl, hfz, hnd⟩ := hW
  have hA : DataW.TrodAll enc Try.prog W 0 (fun _ => true) true Try.f6.params.toList args.toList ds p := hA0
  rw [Try.params6] at hA hval
  obtain ⟨v0, vs0, d0, ds0, p0, q0, hargs, rfl, rfl, h0, r0⟩ := trodAll_cons hA
  obtain ⟨v1, vs1, d1, ds1, p1, q1, rfl, rfl, rfl, h1, r1⟩ := trodAll_cons r0
  obtain ⟨v2, vs2, d2, ds2, p2, q2, rfl, rfl, rfl, h2, r2⟩ := trodAll_cons r1
  obtain ⟨v3, vs3, d3, ds3, p3, q3, rfl, rfl, rfl, h3, r3⟩ := trodAll_cons r2
  obtain ⟨rfl, rfl, rfl⟩ := trodAll_nil r3
  obtain rfl : args = #[v0, v1, v2, v3] := by cases args; simp_all
  obtain ⟨rfl, rfl⟩ := trodVars_none hV
  obtain ⟨a0, rfl, rfl, rfl, w0⟩ := open_int Try.underlying22 (hval 0 22 v0 rfl rfl) h0
  obtain ⟨a1, rfl, rfl, rfl, w1⟩ := open_int Try.underlying22 (hval 1 22 v1 rfl rfl) h1
  obtain ⟨a2, rfl, rfl, rfl, w2⟩ := open_int Try.underlying22 (hval 2 22 v2 rfl rfl) h2
  obtain ⟨a3, rfl, rfl, rfl, w3⟩ := open_int Try.underlying22 (hval 3 22 v3 rfl rfl) h3
  clear hA0 hval0
  simp only [List.append_nil] at hW'
  refine (walk a0 a1 a2 a3 W w0 w1 w2 w3).mono fun e W' ⟨he, bel⟩ => ?_
  subst he
  exact ⟨_, rfl, _, _, _, [], [], [], hW', trodAll_mk1 (shut_bool Try.underlying4 _), (trodAll_cons_mk (shut_int Try.underlying22 w0) (trodAll_cons_mk (shut_int Try.underlying22 w1) (trodAll_cons_mk (shut_int Try.underlying22 w2) (trodAll_cons_mk (shut_int Try.underlying22 w3) trodAll_mk0)))), rfl, bel.frame _, fun h => by cases h⟩

theorem over : Rows.permBitsRow.holds Try.pinned (OpenSpec.ofChange Rows.permBitsSpec) :=
  OpenClaim.holds_of_wide 6 Try.f6 rfl rfl rfl rfl rfl rfl rfl ⟨rfl, rfl, rfl, rfl, rfl⟩ rfl rfl rfl rfl rfl (by kernel_rfl) Try.func6 (by kernel_rfl)
    (of_decide_eq_true (by kernel_rfl)) (by unfold Func.isWrapper; first | (rw [if_pos (by decide +kernel)]; kernel_rfl) | (rw [if_neg (by decide +kernel)]; exact ⟨rfl, rfl⟩))
    (fun os started H enc _ => lifted os started H enc)

end permBits
/-- The statement. -/
theorem permBits_holds : Rows.PermBitsSaid :=
  permBits.over
#print axioms permBits_holds
end Go.Proofs.Ytkpjaolkacbppaa
