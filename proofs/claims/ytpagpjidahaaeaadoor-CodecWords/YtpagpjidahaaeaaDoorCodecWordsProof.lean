/-
  PROVED HERE: CodecWords (P4.1): labels as words, and the labels of words, are the document's, at every label and every words. The tied card.
-/
import Derived.Test.YtpagpjidahaaeaaDoorRows
import Derived.Test.YtpagpjidahaaeaaDoorCards
import Derived.Test.YtpagpjidahaaeaaDoorTie
import Derived.SevenTiedAt
import Derived.Test.YtpagpjidahaaeaaDoorCod18
import Derived.Test.YtpagpjidahaaeaaDoorCod19
import Derived.Test.YtpagpjidahaaeaaDoorCod20
import Derived.WalkKit
import Derived.ProofKit
import Derived.OpenShut
import Derived.Below
import Derived.ShutString
import Derived.Deep.QuietTactic
namespace Go.Proofs.YtpagpjidahaaeaaDoor
namespace codecWords
open Go.ChangeShapes Go.WideShapes Go.ChangeAt Go.RowKit
open Go.ChangeMaps (open_string shut_string)
set_option linter.unusedVariables false

set_option maxRecDepth 100000 in
set_option maxHeartbeats 8000000 in
theorem walk (ao0 : Option Addr) (n0 cap0 : Nat) (L0 : List (Int × Int)) (ao1 : Option Addr) (n1 cap1 : Nat) (L1 : List Int) (w : World) (l0 : LabU w ao0 n0 cap0 L0) (l1 : CtsU w ao1 n1 cap1 L1) (hv : Vars w) :
    Calls Tryd.prog 3 #[.slice ao0 n0 cap0, .slice ao1 n1 cap1] w fun e w' => e = .returned (.bool true) ∧ Below w.heap.size w w' := by
  obtain ⟨hL, hU⟩ := l0
  obtain ⟨hC, hUC⟩ := l1
  have HV : Hid (Vars w) := hv
  clear hv
  by_cases h40 : (40 : Int) < (n0 : Int)
  · go_enter Tryd.func3, Tryd.ntmps3
    go_wp2_with (go_at_call 7; refine (awake_any _ HV.out).mono ?_; rintro e w1 ⟨rfl, hb1⟩)
    go_ret
    exact ⟨rfl, hb1⟩
  · by_cases h100 : (100 : Int) < (n1 : Int)
    · go_enter Tryd.func3, Tryd.ntmps3
      go_wp2_with (go_at_call 7; refine (awake_any _ HV.out).mono ?_; rintro e w1 ⟨rfl, hb1⟩)
      go_ret
      exact ⟨rfl, hb1⟩
    · have hn2 : n0 ≤ 65536 := by omega
      have hss : sameI (wordsOf L0) (wordsOf L0) = true := by unfold sameI; simp
      have hsb : sameB (pL L1) (pL L1) = true := sameB_refl _
      go_enter Tryd.func3, Tryd.ntmps3
      go_wp2_with (first | (go_at_call 8; refine (cparse_any hC hUC).mono ?_; rintro e w1 ⟨ao1, cap1, rfl, hl1, hb1⟩; have HB1 : Hid (Below w.heap.size w w1) := hb1; have hC1 := hC.next hb1) | (go_at_call 9; refine (rcparse_any hC1 hUC).mono ?_; rintro e w2 ⟨ao2, cap2, rfl, hl2, hb2⟩; have HB2 : Hid (Below w.heap.size w w2) := HB1.out.trans (hb2.mono HB1.out.size); have hl1b := hl1.next hb2; have hL2 := hL.next HB2.out) | (go_at_call 11; refine (words_any hL2 hn2).mono ?_; rintro e w3 ⟨ao3, n3, cap3, rfl, hc3, hb3⟩; have HB3 : Hid (Below w.heap.size w w3) := HB2.out.trans (hb3.mono HB2.out.size); have hl1c := hl1b.next hb3; have hl2c := hl2.next hb3; have hL3 := hL2.next hb3) | (go_at_call 12; refine (rwords_any hL3 hn2).mono ?_; rintro e w4 ⟨ao4, n4, cap4, rfl, hc4, hb4⟩; have HB4 : Hid (Below w.heap.size w w4) := HB3.out.trans (hb4.mono HB3.out.size); have hl1d := hl1c.next hb4; have hl2d := hl2c.next hb4; have hc3d := hc3.next hb4) | (go_at_call 10; refine (sameW_any hc3d hc4).mono ?_; rintro e w5 ⟨rfl, hb5⟩; rw [hss]; have HB5 : Hid (Below w.heap.size w w5) := HB4.out.trans (hb5.mono HB4.out.size); have hl1e := hl1d.next hb5; have hl2e := hl2d.next hb5) | (go_at_call 13; refine (rsame_any hl1e (Nat.le_refl _) hl2e (Nat.le_refl _)).mono ?_; rintro e w6 ⟨rfl, hb6⟩; rw [hsb]; have HB6 : Hid (Below w.heap.size w w6) := HB5.out.trans (hb6.mono HB5.out.size)) | (go_at_call 7; refine (awake_any _ (HV.out.later HB6.out)).mono ?_; rintro e w7 ⟨rfl, hb7⟩))
      go_ret
      exact ⟨rfl, HB6.out.trans (hb7.mono HB6.out.size)⟩

set_option maxRecDepth 100000 in
theorem lifted (os : Os) (started : os.Started) (H : Type) (enc : TypeId × Value → H) :
    ReturnsInHanded {} Tryd.checked os 3 .any (fun w args => (Rows.codecWordsSpec.pre enc Tryd.prog Tryd.f3 [] false w args ∧ laidMetH Tryd.prog laidL w) ∧ sizedMet enc Tryd.prog Tryd.f3 (OpenSpec.ofChange Rows.codecWordsSpec) false w args) (Rows.codecWordsSpec.post enc Tryd.prog Tryd.f3 false true false false) := by
  refine returns_laid started (by kernel_rfl) Tryd.func3
    (ChangeSpec.witness_shaped (enc := enc) (C := Tryd.checked) (os := os) (X := fun w _ => laidMetH Tryd.prog laidL w) false (World.doorLaid Tryd.prog 2000 os) #[.slice none 0 0, .slice none 0 0] 8 rfl (World.shaped_of_RefB (by kernel_rfl) (by kernel_rfl)) (by kernel_rfl) (by kernel_rfl) (by kernel_rfl) (door_met os _)) ?_
  intro W base args ds gs before hval0 hW hVars
  have hval : ∀ (j : Nat) t v, Tryd.f3.params[j]? = some t → args[j]? = some v → Value.okWide Tryd.prog W .any base t v := hval0
  have hW' := hW
  obtain ⟨p, q, hA0, hV, rfl, hfz, hnd⟩ := hW
  have hA : DataW.TrodAll enc Tryd.prog W 0 (fun _ => true) true Tryd.f3.params.toList args.toList ds p := hA0
  rw [Tryd.params3] at hA hval
  obtain ⟨v0, vs0, d0, ds0, p0, q0, hargs, rfl, rfl, h0, r0⟩ := trodAll_cons hA
  obtain ⟨v1, vs1, d1, ds1, p1, q1, rfl, rfl, rfl, h1, r1⟩ := trodAll_cons r0
  obtain ⟨rfl, rfl, rfl⟩ := trodAll_nil r1
  obtain rfl : args = #[v0, v1] := by cases args; simp_all
  obtain ⟨rfl, rfl⟩ := trodVars_none hV
  obtain ⟨ao0, n0, cap0, rfl⟩ := okWide_slice Tryd.underlying23 (hval 0 23 v0 rfl rfl)
  have k0 := h0
  have lt0 : ∀ x ∈ p0, x.block < W.heap.size := by obtain ⟨m, hm⟩ := k0; exact DataW.trod_lt m _ _ _ hm
  obtain ⟨L0, l0⟩ := labU_of_trod h0
  obtain ⟨ao1, n1, cap1, rfl⟩ := okWide_slice Tryd.underlying24 (hval 1 24 v1 rfl rfl)
  have k1 := h1
  have lt1 : ∀ x ∈ p1, x.block < W.heap.size := by obtain ⟨m, hm⟩ := k1; exact DataW.trod_lt m _ _ _ hm
  obtain ⟨L1, l1⟩ := cts_of_trod h1
  clear hA0 hval0
  refine (walk ao0 n0 cap0 L0 ao1 n1 cap1 L1 W l0 l1 hVars).mono fun e W' ⟨he, bel⟩ => ?_
  subst he
  exact ⟨_, rfl, _, _, _, [], _, [], hW', trodAll_mk1 (shut_bool Tryd.underlying4 _), (trodAll_cons_mk (Below.trod laidOut (by kernel_rfl) (of_decide_eq_true (by kernel_rfl)) k0 bel lt0) (trodAll_cons_mk (Below.trod laidOut (by kernel_rfl) (of_decide_eq_true (by kernel_rfl)) k1 bel lt1) trodAll_mk0)), rfl, bel.frame _, fun h => by cases h⟩

theorem over : Rows.codecWordsRow.holds Tryd.pinned (OpenSpec.ofChange Rows.codecWordsSpec) :=
  OpenClaim.holds_of_wide 3 Tryd.f3 rfl rfl rfl rfl rfl rfl rfl ⟨rfl, rfl, rfl, rfl, rfl⟩ rfl rfl rfl rfl rfl (by kernel_rfl) Tryd.func3 (by kernel_rfl)
    (of_decide_eq_true (by kernel_rfl)) (by unfold Func.isWrapper; first | (rw [if_pos (by decide +kernel)]; kernel_rfl) | (rw [if_neg (by decide +kernel)]; exact ⟨rfl, rfl⟩))
    (fun os started H enc _ => lifted os started H enc)

end codecWords
/-- The statement: the tied card. -/
theorem codecWords_holds : Rows.CodecWordsCardSaid :=
  Claim7.holds_tied_plain_at .later [] [.data, .data, .data, .sentinel, .sentinel] true (true, "8744e54bc1fc022701c93aaea29aa16f8f1d8a459e81c598f98091468f4c21c9") true
    codecWords.over (fun _ h => by cases h) (by kernel_rfl) (fun _ h => by cases h) codecWords_row_tie rfl ⟨rfl, rfl⟩ (by kernel_rfl) rfl
    (fun f fn hf hfn => by
      obtain rfl : f = 3 := Option.some.inj ((show Tryd.prog.funcNamed "curtilage/curtilagelaw04.CodecWords" = some 3 by kernel_rfl).symm.trans hf) |>.symm
      obtain rfl : fn = Tryd.f3 := (Option.some.inj (Tryd.func3.symm.trans hfn)).symm
      exact ⟨by kernel_rfl, fun j t ht => by
        rw [Tryd.params3] at ht
        have hm : t ∈ [23, 24] := by simpa using Array.mem_of_getElem? ht
        have hall : ([23, 24].all fun u => !Tryd.prog.wantsStandIn u) = true := by kernel_rfl
        exact (show Tryd.prog.wantsStandIn t = false by simpa using List.all_eq_true.1 hall t hm)⟩)
    (by kernel_rfl)
#print axioms codecWords_holds
end Go.Proofs.YtpagpjidahaaeaaDoor
