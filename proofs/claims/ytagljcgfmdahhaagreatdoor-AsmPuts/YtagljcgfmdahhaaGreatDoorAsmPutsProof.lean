/-
  PROVED HERE: 'AsmPuts': a program's words, marks' places, lines as texts, and words as a text, are the document's. No condition.
-/
import Derived.Test.YtagljcgfmdahhaaGreatDoorRows
import Derived.Test.YtagljcgfmdahhaaGreatDoorCards
import Derived.Test.YtagljcgfmdahhaaGreatDoorTie
import Derived.SevenTiedAt
import Derived.Test.YtagljcgfmdahhaaGreatDoorAsmR1
import Derived.Test.YtagljcgfmdahhaaGreatDoorAsmR3
import Derived.Test.YtagljcgfmdahhaaGreatDoorAsmR6
import Derived.WalkKit
import Derived.ProofKit
import Derived.OpenShut
import Derived.Below
import Derived.ShutString
import Derived.Deep.QuietTactic
namespace Go.Proofs.YtagljcgfmdahhaaGreatDoor
namespace asmPuts
open Go.ChangeShapes Go.WideShapes Go.ChangeAt Go.RowKit
open Go.ChangeMaps (open_string shut_string)
set_option linter.unusedVariables false

open Asm
set_option maxRecDepth 100000 in
set_option maxHeartbeats 8000000 in
theorem walk (ao0 : Option Addr) (n0 cap0 : Nat) (L0 : List Asm.Ln) (a1 : ByteArray) (ao2 : Option Addr) (n2 cap2 : Nat) (L2 : List Int) (w : World) (l0 : LnA w ao0 n0 cap0 L0) (w1 : a1.size ≤ maxLen) (l2 : WdA w ao2 n2 cap2 L2) (hv : AVars w) :
    Calls Tryz.prog 3 #[.slice ao0 n0 cap0, .string a1, .slice ao2 n2 cap2] w fun e w' => e = .returned (.bool true) ∧ Below w.heap.size w w' := by
  go_enter Tryz.func3, Tryz.ntmps3
  have hfe := few_any ao0 n0 cap0 L0 w l0
  have hvl : ∀ W, Below w.heap.size w W → Vars W := fun W hW => (hv.later hW).1
  have hva : ∀ W, Below w.heap.size w W → AVars W := fun W hW => hv.later hW
  cases hf : fewB L0 with
  | false =>
    rw [hf] at hfe
    go_wp2_with (first | (go_at_call 8; (with_reducible refine hfe.mono ?_); rintro e x1 ⟨rfl, hb1⟩) | (go_at_call 9; refine (awake_any _ (hva _ hb1)).mono ?_; rintro e wz ⟨rfl, hbz⟩))
    go_ret
    exact ⟨rfl, hb1.trans (hbz.mono hb1.size)⟩
  | true =>
    rw [hf] at hfe
    obtain ⟨hl60, hokl⟩ := few_facts hf l0.2
    have hn0 : n0 ≤ 60 := by rw [← l0.1.1]; exact hl60
    clear hf
    by_cases hs : a1.size ≤ 100
    · have hs' : ¬ 100 < (a1.size : Int) := by omega
      by_cases hn2 : n2 ≤ 60
      · have hn2' : ¬ 60 < (n2 : Int) := by omega
        have hpA := fun W (hW : Below w.heap.size w W) => put_any ao0 n0 cap0 L0 W (by omega) (l0.1.next hW) hokl
        have hpR := fun W (hW : Below w.heap.size w W) => rput_any ao0 n0 cap0 L0 W (by omega) (l0.1.next hW) hokl
        have hfA := fun W (hW : Below w.heap.size w W) => find_any ao0 n0 cap0 L0 a1 W (by omega) (l0.1.next hW)
        have hfR := fun W (hW : Below w.heap.size w W) => rfind_any ao0 n0 cap0 L0 a1 W (by omega) (l0.1.next hW)
        have hgA := fun W (hW : Below w.heap.size w W) => prg_any ao0 n0 cap0 L0 W (by omega) (l0.1.next hW) hokl (hvl _ hW)
        have hgR := fun W (hW : Below w.heap.size w W) => rprg_any ao0 n0 cap0 L0 W (by omega) (l0.1.next hW) hokl
        have hlA := fun W (hW : Below w.heap.size w W) => list_any ao2 n2 cap2 L2 W (by omega) (l2.1.next hW) l2.2 (hvl _ hW)
        have hlR := fun W (hW : Below w.heap.size w W) => rlist_any ao2 n2 cap2 L2 W (by omega) (l2.1.next hW) l2.2
        have hAl : (putW L0).length ≤ 60 := Nat.le_trans (putW_len L0) hl60
        have hE : putE L0 ≤ 13 := putE_le L0
        obtain ⟨A, hA⟩ : ∃ A, putW L0 = A := ⟨_, rfl⟩
        obtain ⟨K, hK⟩ : ∃ A, putK L0 = A := ⟨_, rfl⟩
        obtain ⟨E, hEe⟩ : ∃ A, putE L0 = A := ⟨_, rfl⟩
        obtain ⟨N, hN⟩ : ∃ A, (fnd a1 L0 0).getD 0 = A := ⟨_, rfl⟩
        obtain ⟨B, hBe⟩ : ∃ A, (fnd a1 L0 0).isSome = A := ⟨_, rfl⟩
        obtain ⟨T, hT⟩ : ∃ A, prg L0 = A := ⟨_, rfl⟩
        obtain ⟨S, hS⟩ : ∃ A, lstS L2 = A := ⟨_, rfl⟩
        simp only [hA, hK, hEe] at hpA hpR
        simp only [hN, hBe] at hfA hfR
        simp only [hT] at hgA hgR
        simp only [hS] at hlA hlR
        rw [hA] at hAl
        rw [hEe] at hE
        clear hA hK hEe hN hBe hT hS hokl
        have hTT : (T.toList == T.toList) = true := by rw [list_beq]; exact decide_eq_true rfl
        have hSS : (S.toList == S.toList) = true := by rw [list_beq]; exact decide_eq_true rfl
        have hsm := fun aa ca ab cb W h1 h2 => same_any aa A.length ca A ab A.length cb A W h1 h2 (by omega)
        simp only [decide_true] at hsm
        go_wp2_with (first | (go_at_call 8; (with_reducible refine hfe.mono ?_); rintro e x1 ⟨rfl, hb1⟩; have hB1 := hb1) | (go_at_call 10; (with_reducible refine (hpA _ hB1).mono ?_); rintro e x2 ⟨hb2, va, rfl, hra⟩; obtain ⟨aa, ca, rfl, hwa⟩ := wds_of_row hra rfl; have hB2 : Below w.heap.size w x2 := hB1.trans (hb2.mono hB1.size)) | (go_at_call 11; (with_reducible refine (hpR _ hB2).mono ?_); rintro e x3 ⟨hb3, vb, rfl, hrb⟩; obtain ⟨ab, cb, rfl, hwb⟩ := wds_of_row hrb rfl; have hB3 : Below w.heap.size w x3 := hB2.trans (hb3.mono hB2.size)) | (go_at_call 12; (with_reducible refine (hfA _ hB3).mono ?_); rintro e x4 ⟨rfl, hb4⟩; have hB4 : Below w.heap.size w x4 := hB3.trans (hb4.mono hB3.size)) | (go_at_call 13; (with_reducible refine (hfR _ hB4).mono ?_); rintro e x5 ⟨rfl, hb5⟩; have hB5 : Below w.heap.size w x5 := hB4.trans (hb5.mono hB4.size); have hwa5 := ((hwa.next hb3).next hb4).next hb5; have hwb5 := (hwb.next hb4).next hb5) | (go_at_call 14; (with_reducible refine (hsm aa ca ab cb x5 hwa5 hwb5).mono ?_); rintro e x6 ⟨rfl, hb6⟩; have hB6 : Below w.heap.size w x6 := hB5.trans (hb6.mono hB5.size)) | (go_at_call 15; (with_reducible refine (hgA _ hB6).mono ?_); rintro e x7 ⟨rfl, hb7⟩; have hB7 : Below w.heap.size w x7 := hB6.trans (hb7.mono hB6.size)) | (go_at_call 16; (with_reducible refine (hgR _ hB7).mono ?_); rintro e x8 ⟨rfl, hb8⟩; have hB8 : Below w.heap.size w x8 := hB7.trans (hb8.mono hB7.size)) | (go_at_call 17; (with_reducible refine (hlA _ hB8).mono ?_); rintro e x9 ⟨rfl, hb9⟩; have hB9 : Below w.heap.size w x9 := hB8.trans (hb9.mono hB8.size)) | (go_at_call 18; (with_reducible refine (hlR _ hB9).mono ?_); rintro e x10 ⟨rfl, hb10⟩; have hB10 : Below w.heap.size w x10 := hB9.trans (hb10.mono hB9.size)) | (go_at_call 9; refine (awake_any _ (hva _ hB10)).mono ?_; rintro e wz ⟨rfl, hbz⟩))
        go_ret
        exact ⟨rfl, hB10.trans (hbz.mono hB10.size)⟩
      · have hn2' : 60 < (n2 : Int) := by omega
        go_wp2_with (first | (go_at_call 8; (with_reducible refine hfe.mono ?_); rintro e x1 ⟨rfl, hb1⟩) | (go_at_call 9; refine (awake_any _ (hva _ hb1)).mono ?_; rintro e wz ⟨rfl, hbz⟩))
        go_ret
        exact ⟨rfl, hb1.trans (hbz.mono hb1.size)⟩
    · have hs' : 100 < (a1.size : Int) := by omega
      go_wp2_with (first | (go_at_call 8; (with_reducible refine hfe.mono ?_); rintro e x1 ⟨rfl, hb1⟩) | (go_at_call 9; refine (awake_any _ (hva _ hb1)).mono ?_; rintro e wz ⟨rfl, hbz⟩))
      go_ret
      exact ⟨rfl, hb1.trans (hbz.mono hb1.size)⟩

set_option maxRecDepth 100000 in
theorem lifted (os : Os) (started : os.Started) (H : Type) (enc : TypeId × Value → H) :
    ReturnsInHanded {} Tryz.checked os 3 .any (fun w args => (Rows.asmPutsSpec.pre enc Tryz.prog Tryz.f3 [] false w args ∧ laidMetH Tryz.prog laidL w) ∧ sizedMet enc Tryz.prog Tryz.f3 (OpenSpec.ofChange Rows.asmPutsSpec) false w args) (Rows.asmPutsSpec.post enc Tryz.prog Tryz.f3 false true false false) := by
  refine returns_laid started (by kernel_rfl) Tryz.func3
    (ChangeSpec.witness_shaped (enc := enc) (C := Tryz.checked) (os := os) (X := fun w _ => laidMetH Tryz.prog laidL w) false (World.laidAll Tryz.prog os laidL) #[.slice none 0 0, .string ⟨#[]⟩, .slice none 0 0] 8 (World.laidAll_os _ _ _) (World.shaped_of_ZipB (by kernel_rfl) (by kernel_rfl)) (by kernel_rfl) (by kernel_rfl) (by kernel_rfl) (laid_met os _)) ?_
  intro W base args ds gs before hval0 hW hWt hVars
  have hval : ∀ (j : Nat) t v, Tryz.f3.params[j]? = some t → args[j]? = some v → Value.okWide Tryz.prog W .any base t v := hval0
  have hW' := hW
  obtain ⟨p, q, hA0, hV, rfl, hfz, hnd⟩ := hW
  have hA : DataW.TrodAll enc Tryz.prog W 0 (fun _ => true) true Tryz.f3.params.toList args.toList ds p := hA0
  rw [Tryz.params3] at hA hval
  obtain ⟨v0, vs0, d0, ds0, p0, q0, hargs, rfl, rfl, h0, r0⟩ := trodAll_cons hA
  obtain ⟨v1, vs1, d1, ds1, p1, q1, rfl, rfl, rfl, h1, r1⟩ := trodAll_cons r0
  obtain ⟨v2, vs2, d2, ds2, p2, q2, rfl, rfl, rfl, h2, r2⟩ := trodAll_cons r1
  obtain ⟨rfl, rfl, rfl⟩ := trodAll_nil r2
  obtain rfl : args = #[v0, v1, v2] := by cases args; simp_all
  obtain ⟨rfl, rfl⟩ := trodVars_none hV
  obtain ⟨ao0, n0, cap0, rfl⟩ := okWide_slice Tryz.underlying22 (hval 0 22 v0 rfl rfl)
  have k0 := h0
  have lt0 : ∀ x ∈ p0, x.block < W.heap.size := by obtain ⟨m, hm⟩ := k0; exact DataW.trod_lt m _ _ _ hm
  obtain ⟨L0, l0⟩ := ln_of_trod h0 (hWt 0 _ _ rfl rfl)
  obtain ⟨a1, rfl, rfl, rfl, w1⟩ := open_string Tryz.underlying9 (hval 1 9 v1 rfl rfl) h1
  obtain ⟨ao2, n2, cap2, rfl⟩ := okWide_slice Tryz.underlying23 (hval 2 23 v2 rfl rfl)
  have k2 := h2
  have lt2 : ∀ x ∈ p2, x.block < W.heap.size := by obtain ⟨m, hm⟩ := k2; exact DataW.trod_lt m _ _ _ hm
  obtain ⟨L2, l2⟩ := wd_of_trod h2
  clear hA0 hval0
  refine (walk ao0 n0 cap0 L0 a1 ao2 n2 cap2 L2 W l0 w1 l2 hVars).mono fun e W' ⟨he, bel⟩ => ?_
  subst he
  exact ⟨_, rfl, _, _, _, [], _, [], hW', trodAll_mk1 (shut_bool Tryz.underlying4 _), (trodAll_cons_mk (Below.trod laidOut (by kernel_rfl) (of_decide_eq_true (by kernel_rfl)) k0 bel lt0) (trodAll_cons_mk (shut_string Tryz.underlying9 w1) (trodAll_cons_mk (Below.trod laidOut (by kernel_rfl) (of_decide_eq_true (by kernel_rfl)) k2 bel lt2) trodAll_mk0))), rfl, bel.frame _, fun h => by cases h⟩

theorem over : Rows.asmPutsRow.holds Tryz.pinned (OpenSpec.ofChange Rows.asmPutsSpec) :=
  OpenClaim.holds_of_wide 3 Tryz.f3 rfl rfl rfl rfl rfl rfl rfl ⟨rfl, rfl, rfl, rfl, rfl⟩ rfl rfl rfl rfl rfl (by kernel_rfl) Tryz.func3 (by kernel_rfl)
    (of_decide_eq_true (by kernel_rfl)) (by unfold Func.isWrapper; first | (rw [if_pos (by decide +kernel)]; kernel_rfl) | (rw [if_neg (by decide +kernel)]; exact ⟨rfl, rfl⟩))
    (fun os started H enc _ => lifted os started H enc)

end asmPuts
/-- The statement: the tied card. -/
theorem asmPuts_holds : Rows.AsmPutsCardSaid :=
  Claim7.holds_tied_plain_at .later [] [.data, .data, .data, .data, .sentinel, .sentinel, .pinned] true (true, "4b6dbf2cb406ec6b52420c0876f7b3f3e599a0b95d9dd754324b4f866b9cccb4") true
    asmPuts.over (fun _ h => by cases h) (by kernel_rfl) (fun _ h => by cases h) asmPuts_row_tie rfl ⟨rfl, rfl⟩ (by kernel_rfl) rfl
    (fun f fn hf hfn => by
      obtain rfl : f = 3 := Option.some.inj ((show Tryz.prog.funcNamed "curtilage/curtilagelaw10.AsmPuts" = some 3 by kernel_rfl).symm.trans hf) |>.symm
      obtain rfl : fn = Tryz.f3 := (Option.some.inj (Tryz.func3.symm.trans hfn)).symm
      exact ⟨by kernel_rfl, fun j t ht => by
        rw [Tryz.params3] at ht
        have hm : t ∈ [22, 9, 23] := by simpa using Array.mem_of_getElem? ht
        have hall : ([22, 9, 23].all fun u => !Tryz.prog.wantsStandIn u) = true := by kernel_rfl
        exact (show Tryz.prog.wantsStandIn t = false by simpa using List.all_eq_true.1 hall t hm)⟩)
    (by kernel_rfl)
#print axioms asmPuts_holds
end Go.Proofs.YtagljcgfmdahhaaGreatDoor
