/-
  PROVED HERE: InstTells (P8.1 to P8.3): which instructions can be, their words, texts and shapes, and the instruction of a word, are the document's, at every instruction and every word. The tied card.
-/
import Derived.Test.YtdacepaebmcfbaaDoorRows
import Derived.Test.YtdacepaebmcfbaaDoorCards
import Derived.Test.YtdacepaebmcfbaaDoorTie
import Derived.SevenTiedAt
import Derived.Test.YtdacepaebmcfbaaDoorShelf
import Derived.Test.YtdacepaebmcfbaaDoorIns14
import Derived.Test.YtdacepaebmcfbaaDoorInsOpen
import Derived.WalkKit
import Derived.ProofKit
import Derived.OpenShut
import Derived.Below
import Derived.ShutString
import Derived.Deep.QuietTactic
namespace Go.Proofs.YtdacepaebmcfbaaDoor
namespace instTells
open Go.ChangeShapes Go.WideShapes Go.ChangeAt Go.RowKit
open Go.ChangeMaps (open_string shut_string)
set_option linter.unusedVariables false

set_option maxRecDepth 100000 in
set_option maxHeartbeats 8000000 in
theorem walk (op0 pa0 pb0 pc0 pi0 : Int) (a1 : Int) (w : World) (l0 : InstOk op0 pa0 pb0 pc0 pi0) (w1 : (Lit.int .u64 a1).wf = true) (hv : Vars w) :
    Calls Tryd.prog 3 #[.agg #[.int .i64 op0, .int .i64 pa0, .int .i64 pb0, .int .i64 pc0, .int .i32 pi0], .int .u64 a1] w fun e w' => e = .returned (.bool true) ∧ Below w.heap.size w w' := by
  obtain ⟨_, _, _, _, hi0, hi1⟩ := l0
  have hx : 0 ≤ a1 ∧ a1 ≤ 18446744073709551615 := by simpa [Lit.wf, IntKind.min, IntKind.max, IntKind.bits, IntKind.signed] using w1
  obtain ⟨p0, p1, p2, p3, p4, ok, hd, hd'⟩ := both_decode a1 hx.1 (by omega)
  have h1 := fun W => fit_any op0 pa0 pb0 pc0 pi0 hi0 hi1 W
  have h2 := fun W => rfit_any op0 pa0 pb0 pc0 pi0 W
  have h3 := fun W => encode_any op0 pa0 pb0 pc0 pi0 hi0 hi1 W
  have h4 := fun W => rencode_any op0 pa0 pb0 pc0 pi0 hi0 hi1 W
  have h5 := fun W hv => text_any op0 pa0 pb0 pc0 pi0 hi0 hi1 W hv
  have h6 := fun W => rtext_any op0 pa0 pb0 pc0 pi0 hi0 hi1 W
  have h7 := fun W => shape_any op0 W
  have h8 := fun W => rshape_any op0 W
  obtain ⟨f, qf⟩ : ∃ z, Hid (Ins.fitB op0 pa0 pb0 pc0 pi0 = z) := ⟨_, rfl⟩
  simp only [qf.out] at h1 h2
  obtain ⟨x, qx⟩ : ∃ z, Hid (Ins.wordI op0 pa0 pb0 pc0 pi0 = z) := ⟨_, rfl⟩
  simp only [qx.out] at h3 h4
  obtain ⟨s, qs⟩ : ∃ z, Hid (txS op0 pa0 pb0 pc0 pi0 = z) := ⟨_, rfl⟩
  simp only [qs.out] at h5 h6
  obtain ⟨t, qt⟩ : ∃ z, Hid (Ins.shS op0 = z) := ⟨_, rfl⟩
  simp only [qt.out] at h7 h8
  have HV : Hid (Vars w) := hv
  have bI := Ib.new w op0 pa0 pb0 pc0 pi0
  have hB0 : Below w.heap.size w (w.alloc (.cells #[.int .i64 op0, .int .i64 pa0, .int .i64 pb0, .int .i64 pc0, .int .i32 pi0] 23)) := (Below.refl _ w).alloc (Nat.le_refl _) _
  clear hv hx hi0 hi1 w1
  go_enter Tryd.func3, Tryd.ntmps3
  go_wp2_with (first | (go_at_call 6; (with_reducible refine (hd _).mono ?_); rintro e w1 ⟨rfl, hb1⟩) | (go_at_call 7; (with_reducible refine (hd' _).mono ?_); rintro e w2 ⟨rfl, hb2⟩))
  have hb1a := (Below.refl w1.heap.size w1).alloc (Nat.le_refl _) (.cells #[.int .i64 p0, .int .i64 p1, .int .i64 p2, .int .i64 p3, .int .i32 p4] 23)
  have hb2a := (Below.refl w2.heap.size w2).alloc (Nat.le_refl _) (.cells #[.int .i64 p0, .int .i64 p1, .int .i64 p2, .int .i64 p3, .int .i32 p4] 23)
  have H0 : Tel w w.heap.size w1.heap.size w2.heap.size op0 pa0 pb0 pc0 pi0 p0 p1 p2 p3 p4 (w2.alloc (.cells #[.int .i64 p0, .int .i64 p1, .int .i64 p2, .int .i64 p3, .int .i32 p4] 23)) :=
    ⟨((bI.next hb1).next (hb1a.trans (hb2.mono hb1a.size))).next hb2a, ((Ib.new w1 p0 p1 p2 p3 p4).next hb2).next hb2a, Ib.new w2 p0 p1 p2 p3 p4, HV.out.later (hB0.trans (((hb1.trans ((hb1a.trans (hb2.mono hb1a.size)).mono hb1.size)).trans (hb2a.mono (Nat.le_trans hb1.size (hb1a.trans (hb2.mono hb1a.size)).size))).mono hB0.size)), hB0.trans (((hb1.trans ((hb1a.trans (hb2.mono hb1a.size)).mono hb1.size)).trans (hb2a.mono (Nat.le_trans hb1.size (hb1a.trans (hb2.mono hb1a.size)).size))).mono hB0.size)⟩
  obtain ⟨B1, hB1⟩ : ∃ B, w1.heap.size = B := ⟨_, rfl⟩
  obtain ⟨B2, hB2⟩ : ∃ B, w2.heap.size = B := ⟨_, rfl⟩
  obtain ⟨W0, hW0⟩ : ∃ W, w2.alloc (.cells #[.int .i64 p0, .int .i64 p1, .int .i64 p2, .int .i64 p3, .int .i32 p4] 23) = W := ⟨_, rfl⟩
  rw [hB1, hB2, hW0] at H0
  simp only [hB1, hB2, hW0]
  have HS : TelS w w.heap.size B1 B2 op0 pa0 pb0 pc0 pi0 p0 p1 p2 p3 p4 W0.drew := (H0.next (Below.refl _ W0).drew).mem
  clear hb1a hb2a hB0 bI hb1 hb2 hB1 hB2 hW0 HV hd hd' H0
  go_region_held3 (fun W => W.cell? ⟨w.heap.size, 0, none⟩ = some (.int .i64 op0) ∧ W.cell? ⟨w.heap.size, 1, none⟩ = some (.int .i64 pa0) ∧ W.cell? ⟨w.heap.size, 2, none⟩ = some (.int .i64 pb0) ∧ W.cell? ⟨w.heap.size, 3, none⟩ = some (.int .i64 pc0) ∧ W.cell? ⟨w.heap.size, 4, none⟩ = some (.int .i32 pi0) ∧ W.cell? ⟨B1, 0, none⟩ = some (.int .i64 p0) ∧ W.cell? ⟨B1, 1, none⟩ = some (.int .i64 p1) ∧ W.cell? ⟨B1, 2, none⟩ = some (.int .i64 p2) ∧ W.cell? ⟨B1, 3, none⟩ = some (.int .i64 p3) ∧ W.cell? ⟨B1, 4, none⟩ = some (.int .i32 p4) ∧ W.cell? ⟨B2, 0, none⟩ = some (.int .i64 p0) ∧ W.cell? ⟨B2, 1, none⟩ = some (.int .i64 p1) ∧ W.cell? ⟨B2, 2, none⟩ = some (.int .i64 p2) ∧ W.cell? ⟨B2, 3, none⟩ = some (.int .i64 p3) ∧ W.cell? ⟨B2, 4, none⟩ = some (.int .i32 p4) ∧ Tel w w.heap.size B1 B2 op0 pa0 pb0 pc0 pi0 p0 p1 p2 p3 p4 W) (first | exact HS | exact TelS.next (by assumption) hb | go_keep) (first | (go_at_call 8; (with_reducible refine (h1 _).mono ?_); rintro e w' ⟨rfl, hb⟩) | (go_at_call 9; (with_reducible refine (h2 _).mono ?_); rintro e w' ⟨rfl, hb⟩) | (go_at_call 10; (with_reducible refine (h3 _).mono ?_); rintro e w' ⟨rfl, hb⟩) | (go_at_call 11; (with_reducible refine (h4 _).mono ?_); rintro e w' ⟨rfl, hb⟩) | (go_at_call 12; (with_reducible refine (h5 _ ?vv).mono ?_); (case vv => exact (TelS.tel (by assumption)).2.2.2.1); rintro e w' ⟨rfl, hb⟩) | (go_at_call 13; (with_reducible refine (h6 _).mono ?_); rintro e w' ⟨rfl, hb⟩) | (go_at_call 16; (with_reducible refine (awake8_any _ ?vv).mono ?_); (case vv => exact (TelS.tel (by assumption)).2.2.2.1); rintro e w' ⟨rfl, hb⟩) | (go_at_call 14; (with_reducible refine (h7 _).mono ?_); rintro e w' ⟨rfl, rfl⟩) | (go_at_call 15; (with_reducible refine (h8 _).mono ?_); rintro e w' ⟨rfl, rfl⟩))
  have hfin : Below w.heap.size w w' := (TelS.tel (by assumption : TelS w w.heap.size B1 B2 op0 pa0 pb0 pc0 pi0 p0 p1 p2 p3 p4 w')).2.2.2.2
  clear h1 h2 h3 h4 h5 h6 h7 h8
  go_wp2
  go_ret
  exact ⟨rfl, hfin⟩

set_option maxRecDepth 100000 in
theorem lifted (os : Os) (started : os.Started) (H : Type) (enc : TypeId × Value → H) :
    ReturnsInHanded {} Tryd.checked os 3 .any (fun w args => (Rows.instTellsSpec.pre enc Tryd.prog Tryd.f3 [] false w args ∧ laidMetH Tryd.prog laidL w) ∧ sizedMet enc Tryd.prog Tryd.f3 (OpenSpec.ofChange Rows.instTellsSpec) false w args) (Rows.instTellsSpec.post enc Tryd.prog Tryd.f3 false true false false) := by
  refine returns_laid started (by kernel_rfl) Tryd.func3
    (ChangeSpec.witness_shaped (enc := enc) (C := Tryd.checked) (os := os) (X := fun w _ => laidMetH Tryd.prog laidL w) false (World.doorLaid Tryd.prog 2000 os) #[.agg #[.int .i64 0, .int .i64 0, .int .i64 0, .int .i64 0, .int .i32 0], .int .u64 0] 8 rfl (World.shaped_of_RefB (by kernel_rfl) (by kernel_rfl)) (by kernel_rfl) (by kernel_rfl) (by kernel_rfl) (door_met os _)) ?_
  intro W base args ds gs before hval0 hW hVars
  have hval : ∀ (j : Nat) t v, Tryd.f3.params[j]? = some t → args[j]? = some v → Value.okWide Tryd.prog W .any base t v := hval0
  have hW' := hW
  obtain ⟨p, q, hA0, hV, rfl, hfz, hnd⟩ := hW
  have hA : DataW.TrodAll enc Tryd.prog W 0 (fun _ => true) true Tryd.f3.params.toList args.toList ds p := hA0
  rw [Tryd.params3] at hA hval
  obtain ⟨v0, vs0, d0, ds0, p0, q0, hargs, rfl, rfl, h0, r0⟩ := trodAll_cons hA
  obtain ⟨v1, vs1, d1, ds1, p1, q1, rfl, rfl, rfl, h1, r1⟩ := trodAll_cons r0
  obtain ⟨rfl, rfl, rfl⟩ := trodAll_nil r1
  obtain rfl : args = #[v0, v1] := by cases args; simp_all
  obtain ⟨rfl, rfl⟩ := trodVars_none hV
  obtain ⟨op0, pa0, pb0, pc0, pi0, rfl, l0⟩ := inst_of_trod (hval 0 23 v0 rfl rfl) h0
  have k0 := h0
  have lt0 : ∀ x ∈ p0, x.block < W.heap.size := by obtain ⟨m, hm⟩ := k0; exact DataW.trod_lt m _ _ _ hm
  obtain ⟨a1, rfl, rfl, rfl, w1⟩ := open_int Tryd.underlying24 (hval 1 24 v1 rfl rfl) h1
  clear hA0 hval0
  refine (walk op0 pa0 pb0 pc0 pi0 a1 W l0 w1 hVars).mono fun e W' ⟨he, bel⟩ => ?_
  subst he
  exact ⟨_, rfl, _, _, _, [], _, [], hW', trodAll_mk1 (shut_bool Tryd.underlying4 _), (trodAll_cons_mk (Below.trod laidOut (by kernel_rfl) (of_decide_eq_true (by kernel_rfl)) k0 bel lt0) (trodAll_cons_mk (shut_int Tryd.underlying24 w1) trodAll_mk0)), rfl, bel.frame _, fun h => by cases h⟩

theorem over : Rows.instTellsRow.holds Tryd.pinned (OpenSpec.ofChange Rows.instTellsSpec) :=
  OpenClaim.holds_of_wide 3 Tryd.f3 rfl rfl rfl rfl rfl rfl rfl ⟨rfl, rfl, rfl, rfl, rfl⟩ rfl rfl rfl rfl rfl (by kernel_rfl) Tryd.func3 (by kernel_rfl)
    (of_decide_eq_true (by kernel_rfl)) (by unfold Func.isWrapper; first | (rw [if_pos (by decide +kernel)]; kernel_rfl) | (rw [if_neg (by decide +kernel)]; exact ⟨rfl, rfl⟩))
    (fun os started H enc _ => lifted os started H enc)

end instTells
/-- The statement: the tied card. -/
theorem instTells_holds : Rows.InstTellsCardSaid :=
  Claim7.holds_tied_plain_at .later [] [.data, .data, .data] true (true, "2415e1782aecb461ee227f0fbdb7fb1c3f1f0202222807772f8f00d942f21f75") false
    instTells.over (fun _ h => by cases h) (by kernel_rfl) (fun _ h => by cases h) instTells_row_tie rfl ⟨rfl, rfl⟩ (by kernel_rfl) rfl
    (fun f fn hf hfn => by
      obtain rfl : f = 3 := Option.some.inj ((show Tryd.prog.funcNamed "curtilage/curtilagelaw08.InstTells" = some 3 by kernel_rfl).symm.trans hf) |>.symm
      obtain rfl : fn = Tryd.f3 := (Option.some.inj (Tryd.func3.symm.trans hfn)).symm
      exact ⟨by kernel_rfl, fun j t ht => by
        rw [Tryd.params3] at ht
        have hm : t ∈ [23, 24] := by simpa using Array.mem_of_getElem? ht
        have hall : ([23, 24].all fun u => !Tryd.prog.wantsStandIn u) = true := by kernel_rfl
        exact (show Tryd.prog.wantsStandIn t = false by simpa using List.all_eq_true.1 hall t hm)⟩)
    (by kernel_rfl)
#print axioms instTells_holds
end Go.Proofs.YtdacepaebmcfbaaDoor
