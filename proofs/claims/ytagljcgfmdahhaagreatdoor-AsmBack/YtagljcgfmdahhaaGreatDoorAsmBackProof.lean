/-
  PROVED HERE: 'AsmBack': lines as a text are read as they are, and what is read is written so. No condition.
-/
import Derived.Test.YtagljcgfmdahhaaGreatDoorRows
import Derived.Test.YtagljcgfmdahhaaGreatDoorCards
import Derived.Test.YtagljcgfmdahhaaGreatDoorTie
import Derived.SevenTiedAt
import Derived.Test.YtagljcgfmdahhaaGreatDoorAsmQ4
import Derived.WalkKit
import Derived.ProofKit
import Derived.OpenShut
import Derived.Below
import Derived.ShutString
import Derived.Deep.QuietTactic
namespace Go.Proofs.YtagljcgfmdahhaaGreatDoor
namespace asmBack
open Go.ChangeShapes Go.WideShapes Go.ChangeAt Go.RowKit
open Go.ChangeMaps (open_string shut_string)
set_option linter.unusedVariables false

open Asm
set_option maxRecDepth 100000 in
set_option maxHeartbeats 8000000 in
theorem walk (ao0 : Option Addr) (n0 cap0 : Nat) (L0 : List Asm.Ln) (a1 : ByteArray) (w : World) (l0 : LnA w ao0 n0 cap0 L0) (w1 : a1.size ≤ maxLen) (hv : AVars w) :
    Calls Tryz.prog 5 #[.slice ao0 n0 cap0, .string a1] w fun e w' => e = .returned (.bool true) ∧ Below w.heap.size w w' := by
  go_enter Tryz.func5, Tryz.ntmps5
  have hfe := few_any ao0 n0 cap0 L0 w l0
  have hvl : ∀ W, Below w.heap.size w W → Vars W := fun W hW => (hv.later hW).1
  have hva : ∀ W, Below w.heap.size w W → AVars W := fun W hW => hv.later hW
  cases hf : fewB L0 with
  | false =>
    rw [hf] at hfe
    go_wp2_with (first | (go_at_call 8; (with_reducible refine hfe.mono ?_); rintro e w1 ⟨rfl, hb1⟩) | (go_at_call 9; refine (awake_any _ (hva _ hb1)).mono ?_; rintro e wz ⟨rfl, hbz⟩))
    go_ret
    exact ⟨rfl, hb1.trans (hbz.mono hb1.size)⟩
  | true =>
    rw [hf] at hfe
    obtain ⟨hl60, hokl⟩ := few_facts hf l0.2
    have hn0 : n0 ≤ 60 := by rw [← l0.1.1]; exact hl60
    clear hf
    by_cases hs : a1.size ≤ 600
    · have hr0 := fun W hV => read_any a1 (by omega) W hV
      have hgd := fun W (hW : Below w.heap.size w W) => rGood_any ao0 n0 cap0 L0 W (by omega) (l0.1.next hW) hokl
      have hpL := fun W (hW : Below w.heap.size w W) => prg_any ao0 n0 cap0 L0 W (by omega) (l0.1.next hW) hokl (hvl _ hW)
      have hem0 : (⟨#[]⟩ : ByteArray).toList.isEmpty = true := by rw [em_list]; rfl
      have hsL := fun an cn W h1 h2 => rSame_any an L0.length cn L0 ao0 n0 cap0 L0 W (by omega) h1 h2 rfl
      obtain ⟨K0, hK0⟩ : ∃ K, rdK a1 = K := ⟨_, rfl⟩
      simp only [hK0] at hr0
      clear hK0
      have hNo : Hid (L0.all goodB = false → prg L0 = ⟨#[]⟩) := fun h => by unfold prg; rw [h]; rfl
      have hYes : Hid (L0.all goodB = true → ∃ T, prg L0 = T ∧ T.size ≤ 65536 ∧ rdW T = L0 ∧ rdK T = 0 ∧ rdE T = 0) := fun h => prg_again h hokl hl60
      rcases rdE_cases a1 with hE | hE
      · have hOkM : Hid (Okl (rdW a1)) := rd_okl hE (by omega)
        have hMl : (rdW a1).length ≤ 600 := Nat.le_trans (rd_len hE).2 hs
        obtain ⟨T1, hT1, hT2, hT3, hT4, hT5⟩ := rd_again hE hs
        have hpM := fun ao cap W h hV => prg_any ao (rdW a1).length cap (rdW a1) W (by omega) h hOkM.out hV
        have hr1 := fun W hV => read_any T1 hT2 W hV
        simp only [hT1] at hpM
        simp only [hT3, hT4, hT5] at hr1
        simp only [hE] at hr0
        clear hT1 hT2 hT3 hT4 hT5 hOkM hE
        obtain ⟨M, hM⟩ : ∃ M, rdW a1 = M := ⟨_, rfl⟩
        simp only [hM] at hpM hr1 hr0 hMl
        clear hM
        have hsM := fun ak ck am cm W h1 h2 => rSame_any ak M.length ck M am M.length cm M W (by omega) h1 h2 rfl
        cases hg : L0.all goodB with
        | false =>
          have hp : prg L0 = ⟨#[]⟩ := hNo.out hg
          simp only [hg] at hgd
          simp only [hp] at hpL
          clear hNo hYes hg hp
          go_wp2_with (first | (go_at_call 8; (with_reducible refine hfe.mono ?_); rintro e w1 ⟨rfl, hb1⟩) | (go_at_call 19; (with_reducible refine (hr0 _ (hva _ hb1)).mono ?_); rintro e w2 ⟨hb2, v2, rfl, hrow2⟩; obtain ⟨am, cm, rfl, hM2⟩ := lns_of_row hrow2; have hB2 : Below w.heap.size w w2 := hb1.trans (hb2.mono hb1.size)) | (go_at_call 15; (with_reducible refine (hpM am cm w2 hM2 (hvl _ hB2)).mono ?_); rintro e w3 ⟨rfl, hb3⟩; have hB3 : Below w.heap.size w w3 := hB2.trans (hb3.mono hB2.size)) | (go_at_call 19; (with_reducible refine (hr1 _ (hva _ hB3)).mono ?_); rintro e w4 ⟨hb4, v4, rfl, hrow4⟩; obtain ⟨ak, ck, rfl, hK4⟩ := lns_of_row hrow4; have hB4 : Below w.heap.size w w4 := hB3.trans (hb4.mono hB3.size); have hM4 := (hM2.next hb3).next hb4) | (go_at_call 21; (with_reducible refine (hsM ak ck am cm w4 hK4 hM4).mono ?_); rintro e w5 ⟨rfl, hb5⟩; have hBG : Below w.heap.size w w5 := hB4.trans (hb5.mono hB4.size)) | (go_at_call 22; (with_reducible refine (hgd _ hBG).mono ?_); rintro e w6 ⟨rfl, hb6⟩; have hB6 : Below w.heap.size w w6 := hBG.trans (hb6.mono hBG.size)) | (go_at_call 15; (with_reducible refine (hpL _ hB6).mono ?_); rintro e w7 ⟨rfl, hb7⟩; have hB7 : Below w.heap.size w w7 := hB6.trans (hb7.mono hB6.size)) | (go_at_call 9; refine (awake_any _ (hva _ hB7)).mono ?_; rintro e wz ⟨rfl, hbz⟩))
          go_ret
          exact ⟨rfl, hB7.trans (hbz.mono hB7.size)⟩
        | true =>
          obtain ⟨T0, hU1, hU2, hU3, hU4, hU5⟩ := hYes.out hg
          have hr2 := fun W hV => read_any T0 hU2 W hV
          simp only [hg] at hgd
          simp only [hU1] at hpL
          simp only [hU3, hU4, hU5] at hr2
          clear hNo hYes hg hU1 hU2 hU3 hU4 hU5
          go_wp2_with (first | (go_at_call 8; (with_reducible refine hfe.mono ?_); rintro e w1 ⟨rfl, hb1⟩) | (go_at_call 19; (with_reducible refine (hr0 _ (hva _ hb1)).mono ?_); rintro e w2 ⟨hb2, v2, rfl, hrow2⟩; obtain ⟨am, cm, rfl, hM2⟩ := lns_of_row hrow2; have hB2 : Below w.heap.size w w2 := hb1.trans (hb2.mono hb1.size)) | (go_at_call 15; (with_reducible refine (hpM am cm w2 hM2 (hvl _ hB2)).mono ?_); rintro e w3 ⟨rfl, hb3⟩; have hB3 : Below w.heap.size w w3 := hB2.trans (hb3.mono hB2.size)) | (go_at_call 19; (with_reducible refine (hr1 _ (hva _ hB3)).mono ?_); rintro e w4 ⟨hb4, v4, rfl, hrow4⟩; obtain ⟨ak, ck, rfl, hK4⟩ := lns_of_row hrow4; have hB4 : Below w.heap.size w w4 := hB3.trans (hb4.mono hB3.size); have hM4 := (hM2.next hb3).next hb4) | (go_at_call 21; (with_reducible refine (hsM ak ck am cm w4 hK4 hM4).mono ?_); rintro e w5 ⟨rfl, hb5⟩; have hBG : Below w.heap.size w w5 := hB4.trans (hb5.mono hB4.size)) | (go_at_call 22; (with_reducible refine (hgd _ hBG).mono ?_); rintro e w6 ⟨rfl, hb6⟩; have hB6 : Below w.heap.size w w6 := hBG.trans (hb6.mono hBG.size)) | (go_at_call 15; (with_reducible refine (hpL _ hB6).mono ?_); rintro e w7 ⟨rfl, hb7⟩; have hB7 : Below w.heap.size w w7 := hB6.trans (hb7.mono hB6.size)) | (go_at_call 19; (with_reducible refine (hr2 _ (hva _ hB7)).mono ?_); rintro e w8 ⟨hb8, v8, rfl, hrow8⟩; obtain ⟨an, cn, rfl, hN8⟩ := lns_of_row hrow8; have hB8 : Below w.heap.size w w8 := hB7.trans (hb8.mono hB7.size); have hL8 := l0.1.next hB8) | (go_at_call 21; (with_reducible refine (hsL an cn w8 hN8 hL8).mono ?_); rintro e w9 ⟨rfl, hb9⟩; have hB9 : Below w.heap.size w w9 := hB8.trans (hb9.mono hB8.size)) | (go_at_call 9; refine (awake_any _ (hva _ hB9)).mono ?_; rintro e wz ⟨rfl, hbz⟩))
          go_ret
          exact ⟨rfl, hB9.trans (hbz.mono hB9.size)⟩
      · simp only [hE] at hr0
        clear hE
        obtain ⟨M, hM⟩ : ∃ M, rdW a1 = M := ⟨_, rfl⟩
        simp only [hM] at hr0
        clear hM
        cases hg : L0.all goodB with
        | false =>
          have hp : prg L0 = ⟨#[]⟩ := hNo.out hg
          simp only [hg] at hgd
          simp only [hp] at hpL
          clear hNo hYes hg hp
          go_wp2_with (first | (go_at_call 8; (with_reducible refine hfe.mono ?_); rintro e w1 ⟨rfl, hb1⟩) | (go_at_call 19; (with_reducible refine (hr0 _ (hva _ hb1)).mono ?_); rintro e w2 ⟨hb2, v2, rfl, hrow2⟩; obtain ⟨am, cm, rfl, hM2⟩ := lns_of_row hrow2; have hB2 : Below w.heap.size w w2 := hb1.trans (hb2.mono hb1.size); have hBG := hB2) | (go_at_call 22; (with_reducible refine (hgd _ hBG).mono ?_); rintro e w6 ⟨rfl, hb6⟩; have hB6 : Below w.heap.size w w6 := hBG.trans (hb6.mono hBG.size)) | (go_at_call 15; (with_reducible refine (hpL _ hB6).mono ?_); rintro e w7 ⟨rfl, hb7⟩; have hB7 : Below w.heap.size w w7 := hB6.trans (hb7.mono hB6.size)) | (go_at_call 9; refine (awake_any _ (hva _ hB7)).mono ?_; rintro e wz ⟨rfl, hbz⟩))
          go_ret
          exact ⟨rfl, hB7.trans (hbz.mono hB7.size)⟩
        | true =>
          obtain ⟨T0, hU1, hU2, hU3, hU4, hU5⟩ := hYes.out hg
          have hr2 := fun W hV => read_any T0 hU2 W hV
          simp only [hg] at hgd
          simp only [hU1] at hpL
          simp only [hU3, hU4, hU5] at hr2
          clear hNo hYes hg hU1 hU2 hU3 hU4 hU5
          go_wp2_with (first | (go_at_call 8; (with_reducible refine hfe.mono ?_); rintro e w1 ⟨rfl, hb1⟩) | (go_at_call 19; (with_reducible refine (hr0 _ (hva _ hb1)).mono ?_); rintro e w2 ⟨hb2, v2, rfl, hrow2⟩; obtain ⟨am, cm, rfl, hM2⟩ := lns_of_row hrow2; have hB2 : Below w.heap.size w w2 := hb1.trans (hb2.mono hb1.size); have hBG := hB2) | (go_at_call 22; (with_reducible refine (hgd _ hBG).mono ?_); rintro e w6 ⟨rfl, hb6⟩; have hB6 : Below w.heap.size w w6 := hBG.trans (hb6.mono hBG.size)) | (go_at_call 15; (with_reducible refine (hpL _ hB6).mono ?_); rintro e w7 ⟨rfl, hb7⟩; have hB7 : Below w.heap.size w w7 := hB6.trans (hb7.mono hB6.size)) | (go_at_call 19; (with_reducible refine (hr2 _ (hva _ hB7)).mono ?_); rintro e w8 ⟨hb8, v8, rfl, hrow8⟩; obtain ⟨an, cn, rfl, hN8⟩ := lns_of_row hrow8; have hB8 : Below w.heap.size w w8 := hB7.trans (hb8.mono hB7.size); have hL8 := l0.1.next hB8) | (go_at_call 21; (with_reducible refine (hsL an cn w8 hN8 hL8).mono ?_); rintro e w9 ⟨rfl, hb9⟩; have hB9 : Below w.heap.size w w9 := hB8.trans (hb9.mono hB8.size)) | (go_at_call 9; refine (awake_any _ (hva _ hB9)).mono ?_; rintro e wz ⟨rfl, hbz⟩))
          go_ret
          exact ⟨rfl, hB9.trans (hbz.mono hB9.size)⟩
    · have hs' : 600 < (a1.size : Int) := by omega
      go_wp2_with (first | (go_at_call 8; (with_reducible refine hfe.mono ?_); rintro e w1 ⟨rfl, hb1⟩) | (go_at_call 9; refine (awake_any _ (hva _ hb1)).mono ?_; rintro e wz ⟨rfl, hbz⟩))
      go_ret
      exact ⟨rfl, hb1.trans (hbz.mono hb1.size)⟩

set_option maxRecDepth 100000 in
theorem lifted (os : Os) (started : os.Started) (H : Type) (enc : TypeId × Value → H) :
    ReturnsInHanded {} Tryz.checked os 5 .any (fun w args => (Rows.asmBackSpec.pre enc Tryz.prog Tryz.f5 [] false w args ∧ laidMetH Tryz.prog laidL w) ∧ sizedMet enc Tryz.prog Tryz.f5 (OpenSpec.ofChange Rows.asmBackSpec) false w args) (Rows.asmBackSpec.post enc Tryz.prog Tryz.f5 false true false false) := by
  refine returns_laid started (by kernel_rfl) Tryz.func5
    (ChangeSpec.witness_shaped (enc := enc) (C := Tryz.checked) (os := os) (X := fun w _ => laidMetH Tryz.prog laidL w) false (World.laidAll Tryz.prog os laidL) #[.slice none 0 0, .string ⟨#[]⟩] 8 (World.laidAll_os _ _ _) (World.shaped_of_ZipB (by kernel_rfl) (by kernel_rfl)) (by kernel_rfl) (by kernel_rfl) (by kernel_rfl) (laid_met os _)) ?_
  intro W base args ds gs before hval0 hW hWt hVars
  have hval : ∀ (j : Nat) t v, Tryz.f5.params[j]? = some t → args[j]? = some v → Value.okWide Tryz.prog W .any base t v := hval0
  have hW' := hW
  obtain ⟨p, q, hA0, hV, rfl, hfz, hnd⟩ := hW
  have hA : DataW.TrodAll enc Tryz.prog W 0 (fun _ => true) true Tryz.f5.params.toList args.toList ds p := hA0
  rw [Tryz.params5] at hA hval
  obtain ⟨v0, vs0, d0, ds0, p0, q0, hargs, rfl, rfl, h0, r0⟩ := trodAll_cons hA
  obtain ⟨v1, vs1, d1, ds1, p1, q1, rfl, rfl, rfl, h1, r1⟩ := trodAll_cons r0
  obtain ⟨rfl, rfl, rfl⟩ := trodAll_nil r1
  obtain rfl : args = #[v0, v1] := by cases args; simp_all
  obtain ⟨rfl, rfl⟩ := trodVars_none hV
  obtain ⟨ao0, n0, cap0, rfl⟩ := okWide_slice Tryz.underlying22 (hval 0 22 v0 rfl rfl)
  have k0 := h0
  have lt0 : ∀ x ∈ p0, x.block < W.heap.size := by obtain ⟨m, hm⟩ := k0; exact DataW.trod_lt m _ _ _ hm
  obtain ⟨L0, l0⟩ := ln_of_trod h0 (hWt 0 _ _ rfl rfl)
  obtain ⟨a1, rfl, rfl, rfl, w1⟩ := open_string Tryz.underlying9 (hval 1 9 v1 rfl rfl) h1
  clear hA0 hval0
  refine (walk ao0 n0 cap0 L0 a1 W l0 w1 hVars).mono fun e W' ⟨he, bel⟩ => ?_
  subst he
  exact ⟨_, rfl, _, _, _, [], _, [], hW', trodAll_mk1 (shut_bool Tryz.underlying4 _), (trodAll_cons_mk (Below.trod laidOut (by kernel_rfl) (of_decide_eq_true (by kernel_rfl)) k0 bel lt0) (trodAll_cons_mk (shut_string Tryz.underlying9 w1) trodAll_mk0)), rfl, bel.frame _, fun h => by cases h⟩

theorem over : Rows.asmBackRow.holds Tryz.pinned (OpenSpec.ofChange Rows.asmBackSpec) :=
  OpenClaim.holds_of_wide 5 Tryz.f5 rfl rfl rfl rfl rfl rfl rfl ⟨rfl, rfl, rfl, rfl, rfl⟩ rfl rfl rfl rfl rfl (by kernel_rfl) Tryz.func5 (by kernel_rfl)
    (of_decide_eq_true (by kernel_rfl)) (by unfold Func.isWrapper; first | (rw [if_pos (by decide +kernel)]; kernel_rfl) | (rw [if_neg (by decide +kernel)]; exact ⟨rfl, rfl⟩))
    (fun os started H enc _ => lifted os started H enc)

end asmBack
/-- The statement: the tied card. -/
theorem asmBack_holds : Rows.AsmBackCardSaid :=
  Claim7.holds_tied_plain_at .later [] [.data, .data, .data, .data, .sentinel, .sentinel, .pinned] true (true, "4b6dbf2cb406ec6b52420c0876f7b3f3e599a0b95d9dd754324b4f866b9cccb4") true
    asmBack.over (fun _ h => by cases h) (by kernel_rfl) (fun _ h => by cases h) asmBack_row_tie rfl ⟨rfl, rfl⟩ (by kernel_rfl) rfl
    (fun f fn hf hfn => by
      obtain rfl : f = 5 := Option.some.inj ((show Tryz.prog.funcNamed "curtilage/curtilagelaw10.AsmBack" = some 5 by kernel_rfl).symm.trans hf) |>.symm
      obtain rfl : fn = Tryz.f5 := (Option.some.inj (Tryz.func5.symm.trans hfn)).symm
      exact ⟨by kernel_rfl, fun j t ht => by
        rw [Tryz.params5] at ht
        have hm : t ∈ [22, 9] := by simpa using Array.mem_of_getElem? ht
        have hall : ([22, 9].all fun u => !Tryz.prog.wantsStandIn u) = true := by kernel_rfl
        exact (show Tryz.prog.wantsStandIn t = false by simpa using List.all_eq_true.1 hall t hm)⟩)
    (by kernel_rfl)
#print axioms asmBack_holds
end Go.Proofs.YtagljcgfmdahhaaGreatDoor
