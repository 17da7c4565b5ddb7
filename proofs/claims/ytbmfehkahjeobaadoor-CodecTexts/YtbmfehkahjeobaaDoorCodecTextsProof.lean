/-
  PROVED HERE: CodecTexts (P4.2): labels as texts, and the labels of texts, are the document's, at every label and every text. The tied card.
-/
import Derived.Test.YtbmfehkahjeobaaDoorRows
import Derived.Test.YtbmfehkahjeobaaDoorCards
import Derived.Test.YtbmfehkahjeobaaDoorTie
import Derived.SevenTiedAt
import Derived.Test.YtbmfehkahjeobaaDoorCod18
import Derived.Test.YtbmfehkahjeobaaDoorCod19
import Derived.Test.YtbmfehkahjeobaaDoorCod35
import Derived.WalkKit
import Derived.ProofKit
import Derived.OpenShut
import Derived.Below
import Derived.ShutString
import Derived.Deep.QuietTactic
namespace Go.Proofs.YtbmfehkahjeobaaDoor
namespace codecTexts
open Go.ChangeShapes Go.WideShapes Go.ChangeAt Go.RowKit
open Go.ChangeMaps (open_string shut_string)
set_option linter.unusedVariables false

set_option maxRecDepth 100000 in
set_option maxHeartbeats 8000000 in
theorem walk (ao0 : Option Addr) (n0 cap0 : Nat) (L0 : List (Int × Int)) (a1 : ByteArray) (w : World) (l0 : LabU w ao0 n0 cap0 L0) (w1 : a1.size ≤ maxLen) (hv : Vars w) :
    Calls Tryd.prog 3 #[.slice ao0 n0 cap0, .string a1] w fun e w' => e = .returned (.bool true) ∧ Below w.heap.size w w' := by
  obtain ⟨hL, hU⟩ := l0
  have HV : Hid (Vars w) := hv
  clear hv
  by_cases h40 : (40 : Int) < (n0 : Int)
  · go_enter Tryd.func3, Tryd.ntmps3
    go_wp2_with (go_at_call 4; refine (awake_any _ HV.out).mono ?_; rintro e w1 ⟨rfl, hb1⟩)
    go_ret
    exact ⟨rfl, hb1⟩
  · by_cases h800 : (800 : Int) < (a1.size : Int)
    · go_enter Tryd.func3, Tryd.ntmps3
      go_wp2_with (go_at_call 4; refine (awake_any _ HV.out).mono ?_; rintro e w1 ⟨rfl, hb1⟩)
      go_ret
      exact ⟨rfl, hb1⟩
    · have hn2 : n0 ≤ 65536 := by omega
      have hn3 : n0 ≤ 40 := by omega
      have hs8 : a1.size ≤ 800 := by omega
      obtain ⟨R, hR⟩ : ∃ R, Hid ((readO a1).getD [] = R) := ⟨_, rfl⟩
      obtain ⟨E, hE⟩ : ∃ E, Hid (readE a1 = E) := ⟨_, rfl⟩
      obtain ⟨t, ht⟩ : ∃ t, Hid (textOf L0 = t) := ⟨_, rfl⟩
      have hsb : sameB R R = true := sameB_refl _
      go_enter Tryd.func3, Tryd.ntmps3
      go_wp2_with (first | (go_at_call 5; refine (cread4_any a1 hs8 HV.out).mono ?_; rintro e w1 ⟨ao1, n1, cap1, rfl, hl1, hb1⟩; rw [hE.out]; rw [hR.out] at hl1; have HB1 : Hid (Below w.heap.size w w1) := hb1) | (go_at_call 6; refine (rread4_any a1 hs8 _).mono ?_; rintro e w2 ⟨ao2, n2, cap2, rfl, hl2, hb2⟩; rw [hE.out]; rw [hR.out] at hl2; have HB2 : Hid (Below w.heap.size w w2) := HB1.out.trans (hb2.mono HB1.out.size); have hl1b := hl1.next hb2; have hL2 := hL.next HB2.out) | (go_at_call 7; refine (ctext_any hL2 hU (HV.out.later HB2.out) hn2).mono ?_; rintro e w3 ⟨rfl, hb3⟩; rw [ht.out]; have HB3 : Hid (Below w.heap.size w w3) := HB2.out.trans (hb3.mono HB2.out.size); have hl1c := hl1b.next hb3; have hl2c := hl2.next hb3; have hL3 := hL2.next hb3) | (go_at_call 8; refine (rtext4_any hL3 hU hn3).mono ?_; rintro e w4 ⟨rfl, hb4⟩; rw [ht.out]; have HB4 : Hid (Below w.heap.size w w4) := HB3.out.trans (hb4.mono HB3.out.size); have hl1d := hl1c.next hb4; have hl2d := hl2c.next hb4) | (go_at_call 9; refine (rsame_any hl1d (Nat.le_refl _) hl2d (Nat.le_refl _)).mono ?_; rintro e w6 ⟨rfl, hb6⟩; rw [hsb]; have HB6 : Hid (Below w.heap.size w w6) := HB4.out.trans (hb6.mono HB4.out.size)) | (go_at_call 4; refine (awake_any _ (HV.out.later HB6.out)).mono ?_; rintro e w7 ⟨rfl, hb7⟩))
      go_ret
      exact ⟨rfl, HB6.out.trans (hb7.mono HB6.out.size)⟩

set_option maxRecDepth 100000 in
theorem lifted (os : Os) (started : os.Started) (H : Type) (enc : TypeId × Value → H) :
    ReturnsInHanded {} Tryd.checked os 3 .any (fun w args => (Rows.codecTextsSpec.pre enc Tryd.prog Tryd.f3 [] false w args ∧ laidMetH Tryd.prog laidL w) ∧ sizedMet enc Tryd.prog Tryd.f3 (OpenSpec.ofChange Rows.codecTextsSpec) false w args) (Rows.codecTextsSpec.post enc Tryd.prog Tryd.f3 false true false false) := by
  refine returns_laid started (by kernel_rfl) Tryd.func3
    (ChangeSpec.witness_shaped (enc := enc) (C := Tryd.checked) (os := os) (X := fun w _ => laidMetH Tryd.prog laidL w) false (World.doorLaid Tryd.prog 2000 os) #[.slice none 0 0, .string ⟨#[]⟩] 8 rfl (World.shaped_of_RefB (by kernel_rfl) (by kernel_rfl)) (by kernel_rfl) (by kernel_rfl) (by kernel_rfl) (door_met os _)) ?_
  intro W base args ds gs before hval0 hW hVars
  have hval : ∀ (j : Nat) t v, Tryd.f3.params[j]? = some t → args[j]? = some v → Value.okWide Tryd.prog W .any base t v := hval0
  have hW' := hW
  obtain ⟨p, q, hA0, hV, rfl, hfz, hnd⟩ := hW
  have hA : DataW.TrodAll enc Tryd.prog W 0 (fun _ => true) true Tryd.f3.params.toList args.toList ds p := hA0
  rw [Tryd.params3] at hA hval
  obtain ⟨v0, vs0, d0, ds0, p0, q0, hargs, rfl, rfl, h0, r0⟩ := trodAll_cons hA
  obtain ⟨v1, vs1, d1, ds1, p1, q1, rfl, rfl, rfl, h1, r1⟩ := trodAll_cons r0
  obtain ⟨rfl, rfl, rfl⟩ := trodAll_nil r1
  obtain rfl : args = #[v0, v1] := by cases args; simp_all
  obtain ⟨rfl, rfl⟩ := trodVars_none hV
  obtain ⟨ao0, n0, cap0, rfl⟩ := okWide_slice Tryd.underlying23 (hval 0 23 v0 rfl rfl)
  have k0 := h0
  have lt0 : ∀ x ∈ p0, x.block < W.heap.size := by obtain ⟨m, hm⟩ := k0; exact DataW.trod_lt m _ _ _ hm
  obtain ⟨L0, l0⟩ := labU_of_trod h0
  obtain ⟨a1, rfl, rfl, rfl, w1⟩ := open_string Tryd.underlying9 (hval 1 9 v1 rfl rfl) h1
  clear hA0 hval0
  refine (walk ao0 n0 cap0 L0 a1 W l0 w1 hVars).mono fun e W' ⟨he, bel⟩ => ?_
  subst he
  exact ⟨_, rfl, _, _, _, [], _, [], hW', trodAll_mk1 (shut_bool Tryd.underlying4 _), (trodAll_cons_mk (Below.trod laidOut (by kernel_rfl) (of_decide_eq_true (by kernel_rfl)) k0 bel lt0) (trodAll_cons_mk (shut_string Tryd.underlying9 w1) trodAll_mk0)), rfl, bel.frame _, fun h => by cases h⟩

theorem over : Rows.codecTextsRow.holds Tryd.pinned (OpenSpec.ofChange Rows.codecTextsSpec) :=
  OpenClaim.holds_of_wide 3 Tryd.f3 rfl rfl rfl rfl rfl rfl rfl ⟨rfl, rfl, rfl, rfl, rfl⟩ rfl rfl rfl rfl rfl (by kernel_rfl) Tryd.func3 (by kernel_rfl)
    (of_decide_eq_true (by kernel_rfl)) (by unfold Func.isWrapper; first | (rw [if_pos (by decide +kernel)]; kernel_rfl) | (rw [if_neg (by decide +kernel)]; exact ⟨rfl, rfl⟩))
    (fun os started H enc _ => lifted os started H enc)

end codecTexts
/-- The statement: the tied card. -/
theorem codecTexts_holds : Rows.CodecTextsCardSaid :=
  Claim7.holds_tied_plain_at .later [] [.data, .data, .data, .sentinel, .sentinel] true (true, "e826b6093bc113189ece1fe8a4e6292bd1e2f086cd0c73d27f60ee0e9e558569") true
    codecTexts.over (fun _ h => by cases h) (by kernel_rfl) (fun _ h => by cases h) codecTexts_row_tie rfl ⟨rfl, rfl⟩ (by kernel_rfl) rfl
    (fun f fn hf hfn => by
      obtain rfl : f = 3 := Option.some.inj ((show Tryd.prog.funcNamed "curtilage/curtilagelaw04.CodecTexts" = some 3 by kernel_rfl).symm.trans hf) |>.symm
      obtain rfl : fn = Tryd.f3 := (Option.some.inj (Tryd.func3.symm.trans hfn)).symm
      exact ⟨by kernel_rfl, fun j t ht => by
        rw [Tryd.params3] at ht
        have hm : t ∈ [23, 9] := by simpa using Array.mem_of_getElem? ht
        have hall : ([23, 9].all fun u => !Tryd.prog.wantsStandIn u) = true := by kernel_rfl
        exact (show Tryd.prog.wantsStandIn t = false by simpa using List.all_eq_true.1 hall t hm)⟩)
    (by kernel_rfl)
#print axioms codecTexts_holds
end Go.Proofs.YtbmfehkahjeobaaDoor
