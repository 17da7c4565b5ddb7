/-
  PROVED HERE: InstBack (P8.4), THERE AND BACK: a fit instruction's word is read as it, a word that is read is its instruction's, unlike fit instructions have unlike words and unlike texts, at every two instructions and every word. The tied card.
-/
import Derived.Test.YtdacepaebmcfbaaDoorRows
import Derived.Test.YtdacepaebmcfbaaDoorCards
import Derived.Test.YtdacepaebmcfbaaDoorTie
import Derived.SevenTiedAt
import Derived.Test.YtdacepaebmcfbaaDoorShelf
import Derived.Test.YtdacepaebmcfbaaDoorIns14
import Derived.Test.YtdacepaebmcfbaaDoorInsOpen
import Derived.Test.YtdacepaebmcfbaaDoorIns19
import Derived.WalkKit
import Derived.ProofKit
import Derived.OpenShut
import Derived.Below
import Derived.ShutString
import Derived.Deep.QuietTactic
namespace Go.Proofs.YtdacepaebmcfbaaDoor
namespace instBack
open Go.ChangeShapes Go.WideShapes Go.ChangeAt Go.RowKit
open Go.ChangeMaps (open_string shut_string)
set_option linter.unusedVariables false

set_option maxRecDepth 100000 in
set_option maxHeartbeats 8000000 in
theorem walk (op0 pa0 pb0 pc0 pi0 : Int) (op1 pa1 pb1 pc1 pi1 : Int) (a2 : Int) (w : World) (l0 : InstOk op0 pa0 pb0 pc0 pi0) (l1 : InstOk op1 pa1 pb1 pc1 pi1) (w2 : (Lit.int .u64 a2).wf = true) (hv : Vars w) :
    Calls Tryd.prog 4 #[.agg #[.int .i64 op0, .int .i64 pa0, .int .i64 pb0, .int .i64 pc0, .int .i32 pi0], .agg #[.int .i64 op1, .int .i64 pa1, .int .i64 pb1, .int .i64 pc1, .int .i32 pi1], .int .u64 a2] w fun e w' => e = .returned (.bool true) ∧ Below w.heap.size w w' := by
  obtain ⟨_, _, _, _, hi0, hi1⟩ := l0
  obtain ⟨_, _, _, _, hk0, hk1⟩ := l1
  have hx : 0 ≤ a2 ∧ a2 ≤ 18446744073709551615 := by simpa [Lit.wf, IntKind.min, IntKind.max, IntKind.bits, IntKind.signed] using w2
  have h1 : a2 < 18446744073709551616 := by omega
  cases hd : Ins.decB a2 with
  | false =>
    have hdec := fun W => decode_no a2 hx.1 h1 hd W
    cases hf : Ins.fitB op0 pa0 pb0 pc0 pi0 with
    | false => exact back_no_unfit hi0 hi1 hk0 hk1 hdec hf w hv
    | true =>
      cases hf' : Ins.fitB op1 pa1 pb1 pc1 pi1 with
      | false => exact back_no_one hi0 hi1 hk0 hk1 hdec hf hf' w hv
      | true => exact back_no_fits hi0 hi1 hk0 hk1 hdec hf hf' w hv
  | true =>
    have hdec := fun W => decode_yes a2 hx.1 h1 hd W
    obtain ⟨_, _, _, _, hj0, hj1⟩ := Ins.fields_bounds hx.1 h1
    have hff : Ins.fitB (Ins.fOp a2) (Ins.fA a2) (Ins.fB a2) (Ins.fC a2) (Ins.fI a2) = true := by simp only [Ins.decB, Ins.fitW, Bool.and_eq_true] at hd; exact hd.1
    have hz : a2 / 1048576 % 4096 = 0 := by simp only [Ins.decB, Ins.fitW, Bool.and_eq_true, decide_eq_true_eq] at hd; exact hd.2
    have he : Ins.wordI (Ins.fOp a2) (Ins.fA a2) (Ins.fB a2) (Ins.fC a2) (Ins.fI a2) = a2 := by unfold Ins.wordI; rw [hff, if_pos rfl]; exact (Ins.enc_iff hx.1 h1).2 hz
    have hE := fun W => encode_any (Ins.fOp a2) (Ins.fA a2) (Ins.fB a2) (Ins.fC a2) (Ins.fI a2) hj0 hj1 W
    have hF := fun W => fit_any (Ins.fOp a2) (Ins.fA a2) (Ins.fB a2) (Ins.fC a2) (Ins.fI a2) hj0 hj1 W
    simp only [he] at hE
    simp only [hff] at hF
    cases hf : Ins.fitB op0 pa0 pb0 pc0 pi0 with
    | false => exact back_yes_unfit hi0 hi1 hk0 hk1 hdec hE hF hf w hv
    | true =>
      cases hf' : Ins.fitB op1 pa1 pb1 pc1 pi1 with
      | false => exact back_yes_one hi0 hi1 hk0 hk1 hdec hE hF hf hf' w hv
      | true => exact back_yes_fits hi0 hi1 hk0 hk1 hdec hE hF hf hf' w hv

set_option maxRecDepth 100000 in
theorem lifted (os : Os) (started : os.Started) (H : Type) (enc : TypeId × Value → H) :
    ReturnsInHanded {} Tryd.checked os 4 .any (fun w args => (Rows.instBackSpec.pre enc Tryd.prog Tryd.f4 [] false w args ∧ laidMetH Tryd.prog laidL w) ∧ sizedMet enc Tryd.prog Tryd.f4 (OpenSpec.ofChange Rows.instBackSpec) false w args) (Rows.instBackSpec.post enc Tryd.prog Tryd.f4 false true false false) := by
  refine returns_laid started (by kernel_rfl) Tryd.func4
    (ChangeSpec.witness_shaped (enc := enc) (C := Tryd.checked) (os := os) (X := fun w _ => laidMetH Tryd.prog laidL w) false (World.doorLaid Tryd.prog 2000 os) #[.agg #[.int .i64 0, .int .i64 0, .int .i64 0, .int .i64 0, .int .i32 0], .agg #[.int .i64 0, .int .i64 0, .int .i64 0, .int .i64 0, .int .i32 0], .int .u64 0] 8 rfl (World.shaped_of_RefB (by kernel_rfl) (by kernel_rfl)) (by kernel_rfl) (by kernel_rfl) (by kernel_rfl) (door_met os _)) ?_
  intro W base args ds gs before hval0 hW hVars
  have hval : ∀ (j : Nat) t v, Tryd.f4.params[j]? = some t → args[j]? = some v → Value.okWide Tryd.prog W .any base t v := hval0
  have hW' := hW
  obtain ⟨p, q, hA0, hV, rfl, hfz, hnd⟩ := hW
  have hA : DataW.TrodAll enc Tryd.prog W 0 (fun _ => true) true Tryd.f4.params.toList args.toList ds p := hA0
  rw [Tryd.params4] at hA hval
  obtain ⟨v0, vs0, d0, ds0, p0, q0, hargs, rfl, rfl, h0, r0⟩ := trodAll_cons hA
  obtain ⟨v1, vs1, d1, ds1, p1, q1, rfl, rfl, rfl, h1, r1⟩ := trodAll_cons r0
  obtain ⟨v2, vs2, d2, ds2, p2, q2, rfl, rfl, rfl, h2, r2⟩ := trodAll_cons r1
  obtain ⟨rfl, rfl, rfl⟩ := trodAll_nil r2
  obtain rfl : args = #[v0, v1, v2] := by cases args; simp_all
  obtain ⟨rfl, rfl⟩ := trodVars_none hV
  obtain ⟨op0, pa0, pb0, pc0, pi0, rfl, l0⟩ := inst_of_trod (hval 0 23 v0 rfl rfl) h0
  have k0 := h0
  have lt0 : ∀ x ∈ p0, x.block < W.heap.size := by obtain ⟨m, hm⟩ := k0; exact DataW.trod_lt m _ _ _ hm
  obtain ⟨op1, pa1, pb1, pc1, pi1, rfl, l1⟩ := inst_of_trod (hval 1 23 v1 rfl rfl) h1
  have k1 := h1
  have lt1 : ∀ x ∈ p1, x.block < W.heap.size := by obtain ⟨m, hm⟩ := k1; exact DataW.trod_lt m _ _ _ hm
  obtain ⟨a2, rfl, rfl, rfl, w2⟩ := open_int Tryd.underlying24 (hval 2 24 v2 rfl rfl) h2
  clear hA0 hval0
  refine (walk op0 pa0 pb0 pc0 pi0 op1 pa1 pb1 pc1 pi1 a2 W l0 l1 w2 hVars).mono fun e W' ⟨he, bel⟩ => ?_
  subst he
  exact ⟨_, rfl, _, _, _, [], _, [], hW', trodAll_mk1 (shut_bool Tryd.underlying4 _), (trodAll_cons_mk (Below.trod laidOut (by kernel_rfl) (of_decide_eq_true (by kernel_rfl)) k0 bel lt0) (trodAll_cons_mk (Below.trod laidOut (by kernel_rfl) (of_decide_eq_true (by kernel_rfl)) k1 bel lt1) (trodAll_cons_mk (shut_int Tryd.underlying24 w2) trodAll_mk0))), rfl, bel.frame _, fun h => by cases h⟩

theorem over : Rows.instBackRow.holds Tryd.pinned (OpenSpec.ofChange Rows.instBackSpec) :=
  OpenClaim.holds_of_wide 4 Tryd.f4 rfl rfl rfl rfl rfl rfl rfl ⟨rfl, rfl, rfl, rfl, rfl⟩ rfl rfl rfl rfl rfl (by kernel_rfl) Tryd.func4 (by kernel_rfl)
    (of_decide_eq_true (by kernel_rfl)) (by unfold Func.isWrapper; first | (rw [if_pos (by decide +kernel)]; kernel_rfl) | (rw [if_neg (by decide +kernel)]; exact ⟨rfl, rfl⟩))
    (fun os started H enc _ => lifted os started H enc)

end instBack
/-- The statement: the tied card. -/
theorem instBack_holds : Rows.InstBackCardSaid :=
  Claim7.holds_tied_plain_at .later [] [.data, .data, .data] true (true, "2415e1782aecb461ee227f0fbdb7fb1c3f1f0202222807772f8f00d942f21f75") false
    instBack.over (fun _ h => by cases h) (by kernel_rfl) (fun _ h => by cases h) instBack_row_tie rfl ⟨rfl, rfl⟩ (by kernel_rfl) rfl
    (fun f fn hf hfn => by
      obtain rfl : f = 4 := Option.some.inj ((show Tryd.prog.funcNamed "curtilage/curtilagelaw08.InstBack" = some 4 by kernel_rfl).symm.trans hf) |>.symm
      obtain rfl : fn = Tryd.f4 := (Option.some.inj (Tryd.func4.symm.trans hfn)).symm
      exact ⟨by kernel_rfl, fun j t ht => by
        rw [Tryd.params4] at ht
        have hm : t ∈ [23, 23, 24] := by simpa using Array.mem_of_getElem? ht
        have hall : ([23, 23, 24].all fun u => !Tryd.prog.wantsStandIn u) = true := by kernel_rfl
        exact (show Tryd.prog.wantsStandIn t = false by simpa using List.all_eq_true.1 hall t hm)⟩)
    (by kernel_rfl)
#print axioms instBack_holds
end Go.Proofs.YtdacepaebmcfbaaDoor
