/-
  PROVED HERE: InstFields (P8.1, P8.2): a word's parts are its instruction's, and a part that its operation does not use is 0, at every word. The tied card.
-/
import Derived.Test.YtdacepaebmcfbaaDoorRows
import Derived.Test.YtdacepaebmcfbaaDoorCards
import Derived.Test.YtdacepaebmcfbaaDoorTie
import Derived.SevenTiedAt
import Derived.Test.YtdacepaebmcfbaaDoorShelf
import Derived.Test.YtdacepaebmcfbaaDoorIns14
import Derived.Test.YtdacepaebmcfbaaDoorInsOpen
import Derived.Test.YtdacepaebmcfbaaDoorIns21
import Derived.WalkKit
import Derived.ProofKit
import Derived.OpenShut
import Derived.Below
import Derived.ShutString
import Derived.Deep.QuietTactic
namespace Go.Proofs.YtdacepaebmcfbaaDoor
namespace instFields
open Go.ChangeShapes Go.WideShapes Go.ChangeAt Go.RowKit
open Go.ChangeMaps (open_string shut_string)
set_option linter.unusedVariables false

set_option maxRecDepth 100000 in
set_option maxHeartbeats 8000000 in
theorem walk (a0 : Int) (w : World) (w0 : (Lit.int .u64 a0).wf = true) (hv : Vars w) :
    Calls Tryd.prog 5 #[.int .u64 a0] w fun e w' => e = .returned (.bool true) ∧ Below w.heap.size w w' := by
  have hx : 0 ≤ a0 ∧ a0 ≤ 18446744073709551615 := by simpa [Lit.wf, IntKind.min, IntKind.max, IntKind.bits, IntKind.signed] using w0
  have h1 : a0 < 18446744073709551616 := by omega
  cases hd : Ins.decB a0 with
  | false => exact fields_no (fun W => decode_no a0 hx.1 h1 hd W) w hv
  | true =>
    have hdec := fun W => decode_yes a0 hx.1 h1 hd W
    obtain ⟨_, _, _, _, hj0, hj1⟩ := Ins.fields_bounds hx.1 h1
    have hff : Ins.fitB (Ins.fOp a0) (Ins.fA a0) (Ins.fB a0) (Ins.fC a0) (Ins.fI a0) = true := by simp only [Ins.decB, Ins.fitW, Bool.and_eq_true] at hd; exact hd.1
    have hz : a0 / 1048576 % 4096 = 0 := by simp only [Ins.decB, Ins.fitW, Bool.and_eq_true, decide_eq_true_eq] at hd; exact hd.2
    obtain ⟨za, zb, zc, zi⟩ := fit_zero hff
    obtain ⟨o, a, b, c⟩ := Ins.fit_bounds hff
    exact fields_yes hdec hx.1 h1 (and_low hx.1 h1) (and15 (by omega) (by omega)) (and15 (by omega) (by omega)) (and15 (by omega) (by omega)) ((and4095 (by omega) (by omega)).trans hz) (by rw [IntKind.wrap_u32]; exact Ins.fI_mod hx.1 h1) o a b c za zb zc zi w hv

set_option maxRecDepth 100000 in
theorem lifted (os : Os) (started : os.Started) (H : Type) (enc : TypeId × Value → H) :
    ReturnsInHanded {} Tryd.checked os 5 .any (fun w args => (Rows.instFieldsSpec.pre enc Tryd.prog Tryd.f5 [] false w args ∧ laidMetH Tryd.prog laidL w) ∧ sizedMet enc Tryd.prog Tryd.f5 (OpenSpec.ofChange Rows.instFieldsSpec) false w args) (Rows.instFieldsSpec.post enc Tryd.prog Tryd.f5 false true false false) := by
  refine returns_laid started (by kernel_rfl) Tryd.func5
    (ChangeSpec.witness_shaped (enc := enc) (C := Tryd.checked) (os := os) (X := fun w _ => laidMetH Tryd.prog laidL w) false (World.doorLaid Tryd.prog 2000 os) #[.int .u64 0] 8 rfl (World.shaped_of_RefB (by kernel_rfl) (by kernel_rfl)) (by kernel_rfl) (by kernel_rfl) (by kernel_rfl) (door_met os _)) ?_
  intro W base args ds gs before hval0 hW hVars
  have hval : ∀ (j : Nat) t v, Tryd.f5.params[j]? = some t → args[j]? = some v → Value.okWide Tryd.prog W .any base t v := hval0
  have hW' := hW
  obtain ⟨p, q, hA0, hV, rfl, hfz, hnd⟩ := hW
  have hA : DataW.TrodAll enc Tryd.prog W 0 (fun _ => true) true Tryd.f5.params.toList args.toList ds p := hA0
  rw [Tryd.params5] at hA hval
  obtain ⟨v0, vs0, d0, ds0, p0, q0, hargs, rfl, rfl, h0, r0⟩ := trodAll_cons hA
  obtain ⟨rfl, rfl, rfl⟩ := trodAll_nil r0
  obtain rfl : args = #[v0] := by cases args; simp_all
  obtain ⟨rfl, rfl⟩ := trodVars_none hV
  obtain ⟨a0, rfl, rfl, rfl, w0⟩ := open_int Tryd.underlying24 (hval 0 24 v0 rfl rfl) h0
  clear hA0 hval0
  simp only [List.append_nil] at hW'
  refine (walk a0 W w0 hVars).mono fun e W' ⟨he, bel⟩ => ?_
  subst he
  exact ⟨_, rfl, _, _, _, [], [], [], hW', trodAll_mk1 (shut_bool Tryd.underlying4 _), (trodAll_cons_mk (shut_int Tryd.underlying24 w0) trodAll_mk0), rfl, bel.frame _, fun h => by cases h⟩

theorem over : Rows.instFieldsRow.holds Tryd.pinned (OpenSpec.ofChange Rows.instFieldsSpec) :=
  OpenClaim.holds_of_wide 5 Tryd.f5 rfl rfl rfl rfl rfl rfl rfl ⟨rfl, rfl, rfl, rfl, rfl⟩ rfl rfl rfl rfl rfl (by kernel_rfl) Tryd.func5 (by kernel_rfl)
    (of_decide_eq_true (by kernel_rfl)) (by unfold Func.isWrapper; first | (rw [if_pos (by decide +kernel)]; kernel_rfl) | (rw [if_neg (by decide +kernel)]; exact ⟨rfl, rfl⟩))
    (fun os started H enc _ => lifted os started H enc)

end instFields
/-- The statement: the tied card. -/
theorem instFields_holds : Rows.InstFieldsCardSaid :=
  Claim7.holds_tied_plain_at .later [] [.data, .data, .data] true (true, "2415e1782aecb461ee227f0fbdb7fb1c3f1f0202222807772f8f00d942f21f75") false
    instFields.over (fun _ h => by cases h) (by kernel_rfl) (fun _ h => by cases h) instFields_row_tie rfl ⟨rfl, rfl⟩ (by kernel_rfl) rfl
    (fun f fn hf hfn => by
      obtain rfl : f = 5 := Option.some.inj ((show Tryd.prog.funcNamed "curtilage/curtilagelaw08.InstFields" = some 5 by kernel_rfl).symm.trans hf) |>.symm
      obtain rfl : fn = Tryd.f5 := (Option.some.inj (Tryd.func5.symm.trans hfn)).symm
      exact ⟨by kernel_rfl, fun j t ht => by
        rw [Tryd.params5] at ht
        have hm : t ∈ [24] := by simpa using Array.mem_of_getElem? ht
        have hall : ([24].all fun u => !Tryd.prog.wantsStandIn u) = true := by kernel_rfl
        exact (show Tryd.prog.wantsStandIn t = false by simpa using List.all_eq_true.1 hall t hm)⟩)
    (by kernel_rfl)
#print axioms instFields_holds
end Go.Proofs.YtdacepaebmcfbaaDoor
