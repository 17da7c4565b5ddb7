/-
  PROVED HERE: 'AsmReads': the lines of a text are the document's. No condition.
-/
import Derived.Test.YtnghendglcblkaaGreatDoorRows
import Derived.Test.YtnghendglcblkaaGreatDoorCards
import Derived.Test.YtnghendglcblkaaGreatDoorTie
import Derived.SevenTiedAt
import Derived.Test.YtnghendglcblkaaGreatDoorAsmOpen
import Derived.Test.YtnghendglcblkaaGreatDoorAsmAwk
import Derived.Test.YtnghendglcblkaaGreatDoorAsmFew
import Derived.Test.YtnghendglcblkaaGreatDoorAsmU3
import Derived.WalkKit
import Derived.ProofKit
import Derived.OpenShut
import Derived.Below
import Derived.ShutString
import Derived.Deep.QuietTactic
namespace Go.Proofs.YtnghendglcblkaaGreatDoor
namespace asmReads
open Go.ChangeShapes Go.WideShapes Go.ChangeAt Go.RowKit
open Go.ChangeMaps (open_string shut_string)
set_option linter.unusedVariables false

open Asm
theorem rdW_bad {s : ByteArray} (h : rdE s = 11) : rdW s = [] := by
  unfold rdE rd at h
  unfold rdW rd
  split at h
  · cases h
  · rfl
set_option maxRecDepth 100000 in
set_option maxHeartbeats 8000000 in
theorem walk (a0 : ByteArray) (w : World) (w0 : a0.size ≤ maxLen) (hv : AVars w) :
    Calls Tryz.prog 3 #[.string a0] w fun e w' => e = .returned (.bool true) ∧ Below w.heap.size w w' := by
  go_enter Tryz.func3, Tryz.ntmps3
  have hva : ∀ W, Below w.heap.size w W → AVars W := fun W hW => hv.later hW
  by_cases hs : a0.size ≤ 600
  · have hr0 := fun W hV => read_any a0 (by omega) W hV
    have hr1 := fun W => rRead_any rread_any a0 (by omega) W
    have hMl : (rdW a0).length ≤ 65536 := by
      rcases rdE_cases a0 with hE | hE
      · exact Nat.le_trans (rd_len hE).2 (by omega)
      · rw [rdW_bad hE]; exact Nat.zero_le _
    obtain ⟨K0, hK0⟩ : ∃ K, rdK a0 = K := ⟨_, rfl⟩
    obtain ⟨E0, hE0⟩ : ∃ E, rdE a0 = E := ⟨_, rfl⟩
    obtain ⟨M, hM⟩ : ∃ M, rdW a0 = M := ⟨_, rfl⟩
    simp only [hK0, hE0, hM] at hr0 hr1
    rw [hM] at hMl
    clear hK0 hE0 hM
    have hsM := fun ak ck am cm W h1 h2 => rSame_any ak M.length ck M am M.length cm M W (by omega) h1 h2 rfl
    go_wp2_with (first | (go_at_call 5; (with_reducible refine (hr0 _ (hva _ (Below.refl _ _))).mono ?_); rintro e w2 ⟨hb2, v2, rfl, hrow2⟩; obtain ⟨am, cm, rfl, hM2⟩ := lns_of_row hrow2) | (go_at_call 6; refine (hr1 _).mono ?_; rintro e w3 ⟨hb3, v3, rfl, hrow3⟩; obtain ⟨ak, ck, rfl, hM3⟩ := lns_of_row hrow3; have hB3 : Below w.heap.size w w3 := hb2.trans (hb3.mono hb2.size)) | (go_at_call 7; (refine (hsM _ _ _ _ _ (hM2.next hb3) hM3).mono ?_); rintro e w4 ⟨rfl, hb4⟩; have hB4 : Below w.heap.size w w4 := hB3.trans (hb4.mono hB3.size)) | (go_at_call 4; refine (awake_any _ (hva _ hB4)).mono ?_; rintro e wz ⟨rfl, hbz⟩))
    go_ret
    exact ⟨rfl, hB4.trans (hbz.mono hB4.size)⟩
  · go_wp2_with (go_at_call 4; refine (awake_any _ (hva _ (Below.refl _ _))).mono ?_; rintro e wz ⟨rfl, hbz⟩)
    go_ret
    exact ⟨rfl, hbz⟩

set_option maxRecDepth 100000 in
theorem lifted (os : Os) (started : os.Started) (H : Type) (enc : TypeId × Value → H) :
    ReturnsInHanded {} Tryz.checked os 3 .any (fun w args => (Rows.asmReadsSpec.pre enc Tryz.prog Tryz.f3 [] false w args ∧ laidMetH Tryz.prog laidL w) ∧ sizedMet enc Tryz.prog Tryz.f3 (OpenSpec.ofChange Rows.asmReadsSpec) false w args) (Rows.asmReadsSpec.post enc Tryz.prog Tryz.f3 false true false false) := by
  refine returns_laid started (by kernel_rfl) Tryz.func3
    (ChangeSpec.witness_shaped (enc := enc) (C := Tryz.checked) (os := os) (X := fun w _ => laidMetH Tryz.prog laidL w) false (World.laidAll Tryz.prog os laidL) #[.string ⟨#[]⟩] 8 (World.laidAll_os _ _ _) (World.shaped_of_ZipB (by kernel_rfl) (by kernel_rfl)) (by kernel_rfl) (by kernel_rfl) (by kernel_rfl) (laid_met os _)) ?_
  intro W base args ds gs before hval0 hW hWt hVars
  have hval : ∀ (j : Nat) t v, Tryz.f3.params[j]? = some t → args[j]? = some v → Value.okWide Tryz.prog W .any base t v := hval0
  have hW' := hW
  obtain ⟨p, q, hA0, hV, rfl, hfz, hnd⟩ := hW
  have hA : DataW.TrodAll enc Tryz.prog W 0 (fun _ => true) true Tryz.f3.params.toList args.toList ds p := hA0
  rw [Tryz.params3] at hA hval
  obtain ⟨v0, vs0, d0, ds0, p0, q0, hargs, rfl, rfl, h0, r0⟩ := trodAll_cons hA
  obtain ⟨rfl, rfl, rfl⟩ := trodAll_nil r0
  obtain rfl : args = #[v0] := by cases args; simp_all
  obtain ⟨rfl, rfl⟩ := trodVars_none hV
  obtain ⟨a0, rfl, rfl, rfl, w0⟩ := open_string Tryz.underlying9 (hval 0 9 v0 rfl rfl) h0
  clear hA0 hval0
  simp only [List.append_nil] at hW'
  refine (walk a0 W w0 hVars).mono fun e W' ⟨he, bel⟩ => ?_
  subst he
  exact ⟨_, rfl, _, _, _, [], [], [], hW', trodAll_mk1 (shut_bool Tryz.underlying4 _), (trodAll_cons_mk (shut_string Tryz.underlying9 w0) trodAll_mk0), rfl, bel.frame _, fun h => by cases h⟩

theorem over : Rows.asmReadsRow.holds Tryz.pinned (OpenSpec.ofChange Rows.asmReadsSpec) :=
  OpenClaim.holds_of_wide 3 Tryz.f3 rfl rfl rfl rfl rfl rfl rfl ⟨rfl, rfl, rfl, rfl, rfl⟩ rfl rfl rfl rfl rfl (by kernel_rfl) Tryz.func3 (by kernel_rfl)
    (of_decide_eq_true (by kernel_rfl)) (by unfold Func.isWrapper; first | (rw [if_pos (by decide +kernel)]; kernel_rfl) | (rw [if_neg (by decide +kernel)]; exact ⟨rfl, rfl⟩))
    (fun os started H enc _ => lifted os started H enc)

end asmReads
/-- The statement: the tied card. -/
theorem asmReads_holds : Rows.AsmReadsCardSaid :=
  Claim7.holds_tied_plain_at .later [] [.data, .data, .data, .data, .sentinel, .sentinel, .pinned] true (true, "fa4382ae3f6736015c03159661ae2e02914b74a81146c0f999aa03af2e28771f") true
    asmReads.over (fun _ h => by cases h) (by kernel_rfl) (fun _ h => by cases h) asmReads_row_tie rfl ⟨rfl, rfl⟩ (by kernel_rfl) rfl
    (fun f fn hf hfn => by
      obtain rfl : f = 3 := Option.some.inj ((show Tryz.prog.funcNamed "curtilage/curtilagelaw10.AsmReads" = some 3 by kernel_rfl).symm.trans hf) |>.symm
      obtain rfl : fn = Tryz.f3 := (Option.some.inj (Tryz.func3.symm.trans hfn)).symm
      exact ⟨by kernel_rfl, fun j t ht => by
        rw [Tryz.params3] at ht
        have hm : t ∈ [9] := by simpa using Array.mem_of_getElem? ht
        have hall : ([9].all fun u => !Tryz.prog.wantsStandIn u) = true := by kernel_rfl
        exact (show Tryz.prog.wantsStandIn t = false by simpa using List.all_eq_true.1 hall t hm)⟩)
    (by kernel_rfl)
#print axioms asmReads_holds
end Go.Proofs.YtnghendglcblkaaGreatDoor
