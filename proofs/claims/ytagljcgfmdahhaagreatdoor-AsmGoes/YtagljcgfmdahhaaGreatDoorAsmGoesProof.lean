/-
  PROVED HERE: 'AsmGoes': each word of a program is its line's instruction's, but for the number of one that goes to a mark: from its place that comes to the mark's. No condition.
-/
import Derived.Test.YtagljcgfmdahhaaGreatDoorRows
import Derived.Test.YtagljcgfmdahhaaGreatDoorCards
import Derived.Test.YtagljcgfmdahhaaGreatDoorTie
import Derived.SevenTiedAt
import Derived.Test.YtagljcgfmdahhaaGreatDoorAsmFew
import Derived.WalkKit
import Derived.ProofKit
import Derived.OpenShut
import Derived.Below
import Derived.ShutString
import Derived.Deep.QuietTactic
namespace Go.Proofs.YtagljcgfmdahhaaGreatDoor
namespace asmGoes
open Go.ChangeShapes Go.WideShapes Go.ChangeAt Go.RowKit
open Go.ChangeMaps (open_string shut_string)
set_option linter.unusedVariables false

open Asm
set_option maxRecDepth 100000 in
set_option maxHeartbeats 8000000 in
theorem walk (ao0 : Option Addr) (n0 cap0 : Nat) (L0 : List Asm.Ln) (w : World) (l0 : LnA w ao0 n0 cap0 L0) (hv : AVars w) :
    Calls Tryz.prog 6 #[.slice ao0 n0 cap0] w fun e w' => e = .returned (.bool true) ∧ Below w.heap.size w w' := by
  go_enter Tryz.func6, Tryz.ntmps6
  have hfe := few_any ao0 n0 cap0 L0 w l0
  cases hf : fewB L0 with
  | false =>
    rw [hf] at hfe
    go_wp2_with (first | (go_at_call 8; refine hfe.mono ?_; rintro e w1 ⟨rfl, hb1⟩) | (go_at_call 9; refine (awake_any _ (hv.later hb1)).mono ?_; rintro e w2 ⟨rfl, hb2⟩))
    go_ret
    exact ⟨rfl, hb1.trans (hb2.mono hb1.size)⟩
  | true =>
    rw [hf] at hfe
    obtain ⟨hl60, hokl⟩ := few_facts hf l0.2
    have hn60 : n0 ≤ 60 := by rw [← l0.1.1]; exact hl60
    have hpu := fun W (hW : Below w.heap.size w W) => put_any ao0 n0 cap0 L0 W (by omega) (l0.1.next hW) hokl
    cases hE : putE L0 with
    | succ er =>
      have hW0 : Hid (putW L0 = []) := put_err (by omega)
      simp only [hE, hW0.out] at hpu
      clear hE
      go_wp2_with (first | (go_at_call 8; refine hfe.mono ?_; rintro e w1 ⟨rfl, hb1⟩) | (go_at_call 10; refine (hpu _ hb1).mono ?_; rintro e w2 ⟨hb2, v, rfl, hrow⟩; obtain ⟨aw, cw, rfl⟩ := row_slice hrow) | (go_at_call 9; refine (awake_any _ ((hv.later hb1).later hb2)).mono ?_; rintro e w3 ⟨rfl, hb3⟩))
      go_ret
      exact ⟨rfl, (hb1.trans (hb2.mono hb1.size)).trans (hb3.mono (Nat.le_trans hb1.size hb2.size))⟩
    | zero =>
      simp only [hE] at hpu
      go_wp2_with (first | (go_at_call 8; refine hfe.mono ?_; rintro e w1 ⟨rfl, hb1⟩) | (go_at_call 10; refine (hpu _ hb1).mono ?_; rintro e w2 ⟨hb2, v, rfl, hrow⟩; obtain ⟨aw, cw, rfl, hws⟩ := wds_of_row hrow rfl))
      have hlen : Hid (L0.length = n0) := l0.1.1
      have hLe : Hid (putE L0 = 0) := hE
      have hOk : Hid (Okl L0) := hokl
      have hnw : Hid ((putW L0).length = cnt L0) := by show _ = _; rw [(put_zero hE).2.2.1]; exact wds_length _ _ _
      have hcl : cnt L0 ≤ 60 := Nat.le_trans (cnt_le _) hl60
      have hL2 := (l0.1.next hb1).next hb2
      obtain ⟨nw, hnwv⟩ : ∃ nw, (putW L0).length = nw := ⟨_, rfl⟩
      rw [hnwv] at hws hrow hnw
      have hnwl : Hid ((putW L0).length = nw) := hnwv
      rw [hnwv]
      clear hnwv hE hpu hfe hf hrow
      go_loopw [6, 36] (fun va vi wr => ∃ k cc : Nat, k ≤ n0 ∧ cc ≤ 60 ∧ vi = .int .i64 k ∧ va = .int .i64 cc ∧ Hid (cnt (L0.take k) = cc) ∧ Below w2.heap.size w2 wr) (fun _ vi _ => n0 - (intOf vi).toNat)
      case atStart => exact ⟨0, 0, Nat.zero_le _, by omega, rfl, rfl, rfl, Below.refl _ _⟩
      case round =>
        obtain ⟨k, cc, hk, hcc, rfl, rfl, hct, hB⟩ := hrel
        by_cases hks : k < n0
        · have hLr := hL2.next hB
          obtain ⟨b, off, m', op, a, b', c, i', tt, rfl, hb, hx, c0, c1, c2, c3, c4, c5, c6⟩ := LnsD.at hLr hks
          have hkl : Hid (k < L0.length) := by show k < L0.length; rw [hlen.out]; exact hks
          obtain ⟨hxo, _, _⟩ := hOk.out.at hkl.out hx.out
          have hfi := fun m W (hW : Below wr.heap.size wr W) => find_any (some ⟨b, off, none⟩) n0 cap0 L0 m W (by omega) (hLr.next hW)
          have he := em_list m'
          have hcK := cntK_le L0 (k + 1)
          have hLn := Lb.new wr m' op a b' c i' tt
          have hBa : Below wr.heap.size wr (wr.alloc (.cells #[.string m', .int .i64 op, .int .i64 a, .int .i64 b', .int .i64 c, .int .i32 i', .string tt] 47)) := (Below.refl _ wr).alloc (Nat.le_refl _) _
          cases hem : emB m' with
          | false =>
            rw [hem] at he
            have hg := goes_mark hLe.out (split_at hkl.out) (by rw [hx.out]; exact hem)
            rw [hx.out, hct.out] at hg
            have hg : fnd m' L0 0 = some cc := hg
            have hfm := fun W hW => hfi m' W hW
            simp only [hg, Option.getD_some, Option.isSome_some] at hfm
            have hc2 : Hid (cnt (L0.take (k + 1)) = cc) := by show _ = _; rw [cnt_miss hkl.out (by rw [hx.out]; exact hem), hct.out]
            clear hg hem hcK
            go_wp2_with (first | (go_at_call 12; refine (hfm _ hBa).mono ?_; rintro e w4 ⟨rfl, hb4⟩))
            go_roundw
            case rel => exact ⟨k + 1, cc, by omega, hcc, by simp, rfl, hc2, (hB.trans (hBa.mono hB.size)).trans (hb4.mono (Nat.le_trans hB.size hBa.size))⟩
            case measure => simp [intOf]; omega
          | true =>
            rw [hem] at he
            have hg := goes_ins hLe.out (split_at hkl.out) (by rw [hx.out]; exact hem) (by rw [hx.out]; exact hxo)
            rw [hx.out, hct.out] at hg
            obtain ⟨hw1, hfit, hri, hto⟩ := hg
            have hc2 : Hid (cnt (L0.take (k + 1)) = cc + 1) := by show _ = _; rw [cnt_hit hkl.out (by rw [hx.out]; exact hem), hct.out]
            have hcw : cc < nw := by rw [← hnwl.out]; exact (List.getElem?_eq_some_iff.1 hw1).1
            have hcc2 : cc + 1 ≤ 60 := by rw [hc2.out] at hcK; omega
            obtain ⟨bw, offw, wd, rfl, hbw, hwd, cw0⟩ := Wds.at (hws.next (hB.trans (hBa.mono hB.size))) hcw
            have hwv : wd = Ins.wordI op a b' c (aim L0 cc ⟨m', op, a, b', c, i', tt⟩) := by
              rw [← hwd.out, List.getD_eq_getElem?_getD, hw1]; rfl
            have hde := fun W => rdecode_word hfit hri.1 hri.2 W
            rw [← hwv] at hde
            clear hw1 hwd hcK
            cases hemt : emB tt with
            | true =>
              have het := em_list tt
              rw [hemt] at het
              have hai : aim L0 cc ⟨m', op, a, b', c, i', tt⟩ = i' := (aim_em hemt).1
              simp only [hai] at hde
              clear hai hwv hto hfit hri hemt hem
              go_wp2_with (first | (go_at_call 23; refine (hde _).mono ?_; rintro e w4 ⟨rfl, hb4⟩; obtain ⟨d0, d1, d2, d3, d4, d5, d6⟩ := (hLn.next hb4).cells; obtain ⟨f0, f1, f2, f3, f4, f5, f6⟩ := ((hLn.next hb4).alloc (.cells #[.int .i64 op, .int .i64 a, .int .i64 b', .int .i64 c, .int .i32 i'] 45)).cells))
              go_roundw
              case rel => exact ⟨k + 1, cc + 1, by omega, hcc2, by simp, by simp, hc2, ((hB.trans (hBa.mono hB.size)).trans (hb4.mono (Nat.le_trans hB.size hBa.size))).alloc (Nat.le_trans hB.size (Nat.le_trans hBa.size hb4.size)) _⟩
              case measure => simp [intOf]; omega
            | false =>
              have het := em_list tt
              rw [hemt] at het
              obtain ⟨hft, hjmp⟩ := hto hemt
              have hft : fnd tt L0 0 = some (tgt L0 ⟨m', op, a, b', c, i', tt⟩) := hft
              have haim := (aim_to (l := L0) (p := cc) (x := ⟨m', op, a, b', c, i', tt⟩) hemt hft).1
              have htl := fnd_bounds hft
              obtain ⟨tg, htg⟩ : ∃ tg, tgt L0 ⟨m', op, a, b', c, i', tt⟩ = tg := ⟨_, rfl⟩
              rw [htg] at hft haim htl
              have haim : aim L0 cc ⟨m', op, a, b', c, i', tt⟩ = aimI op i' cc tg := haim
              have hjmp : op ≠ 1 → jmpB op = true ∧ i' = 0 := hjmp
              obtain ⟨im, him⟩ : ∃ im, aim L0 cc ⟨m', op, a, b', c, i', tt⟩ = im := ⟨_, rfl⟩
              rw [him] at haim hri
              simp only [him] at hde
              have hfm := fun W hW => hfi tt W hW
              simp only [hft, Option.getD_some, Option.isSome_some] at hfm
              obtain ⟨hr0, hr1⟩ := hri
              obtain ⟨_, _, _, _, hi0, hi1⟩ := hxo
              have hi0 : -2147483648 ≤ i' := hi0
              have hi1 : i' < 2147483648 := hi1
              have htg60 : tg ≤ 60 := by omega
              clear hft htl htg him hwv hto hfit hemt hem
              by_cases hop : op = 1
              · subst hop
                have hq : (im - i' == (tg : Int)) = true := by unfold aimI at haim; rw [if_pos rfl] at haim; rw [beq_iff_eq]; omega
                clear haim hjmp
                go_wp2_with (first | (go_at_call 23; refine (hde _).mono ?_; rintro e w4 ⟨rfl, hb4⟩; have hLn4 := (hLn.next hb4).alloc (.cells #[.int .i64 1, .int .i64 a, .int .i64 b', .int .i64 c, .int .i32 im] 45); obtain ⟨d0, d1, d2, d3, d4, d5, d6⟩ := hLn4.cells; have hIn4 := Ib.new w4 1 a b' c im; have hB4 : Below wr.heap.size wr (w4.alloc (.cells #[.int .i64 1, .int .i64 a, .int .i64 b', .int .i64 c, .int .i32 im] 45)) := (hBa.trans (hb4.mono hBa.size)).alloc (Nat.le_trans hBa.size hb4.size) _; have hne : wr.heap.size ≠ w4.heap.size := (by have := hb4.size; simp at this; omega)) | (go_at_call 12; refine (hfm _ hB4).mono ?_; rintro e w5 ⟨rfl, hb5⟩; have hI5 := hIn4.next hb5; obtain ⟨g0, g1, g2, g3, g4⟩ := hI5.cells; have gf := hI5.frozen; have hI6 := hI5.set4 i'; obtain ⟨k0, k1, k2, k3, k4⟩ := hI6.cells; have hL5 := hLn4.next hb5; obtain ⟨p0, p1, p2, p3, p4, p5, p6⟩ := hL5.cells; have hL6 := hL5.other (g := w4.heap.size) (j := 4) (x := .int .i32 i') hne; obtain ⟨q0, q1, q2, q3, q4, q5, q6⟩ := hL6.cells))
                go_roundw
                case rel => exact ⟨k + 1, cc + 1, by omega, hcc2, by simp, by simp, hc2, ((hB.trans (hB4.mono hB.size)).trans (hb5.mono (Nat.le_trans hB.size hB4.size))).setCell (p := ⟨w4.heap.size, 4, none⟩) (Nat.le_trans hB.size (Nat.le_trans hBa.size hb4.size)) _⟩
                case measure => simp [intOf]; omega
              · have hq : ((cc : Int) + 1 + im == (tg : Int)) = true := by unfold aimI at haim; rw [if_neg hop] at haim; rw [beq_iff_eq]; omega
                clear haim hjmp
                go_wp2_with (first | (go_at_call 23; refine (hde _).mono ?_; rintro e w4 ⟨rfl, hb4⟩; have hLn4 := (hLn.next hb4).alloc (.cells #[.int .i64 op, .int .i64 a, .int .i64 b', .int .i64 c, .int .i32 im] 45); obtain ⟨d0, d1, d2, d3, d4, d5, d6⟩ := hLn4.cells; have hIn4 := Ib.new w4 op a b' c im; have hB4 : Below wr.heap.size wr (w4.alloc (.cells #[.int .i64 op, .int .i64 a, .int .i64 b', .int .i64 c, .int .i32 im] 45)) := (hBa.trans (hb4.mono hBa.size)).alloc (Nat.le_trans hBa.size hb4.size) _; have hne : wr.heap.size ≠ w4.heap.size := (by have := hb4.size; simp at this; omega)) | (go_at_call 12; refine (hfm _ hB4).mono ?_; rintro e w5 ⟨rfl, hb5⟩; have hI5 := hIn4.next hb5; obtain ⟨g0, g1, g2, g3, g4⟩ := hI5.cells; have gf := hI5.frozen; have hI6 := hI5.set4 i'; obtain ⟨k0, k1, k2, k3, k4⟩ := hI6.cells; have hL5 := hLn4.next hb5; obtain ⟨p0, p1, p2, p3, p4, p5, p6⟩ := hL5.cells; have hL6 := hL5.other (g := w4.heap.size) (j := 4) (x := .int .i32 i') hne; obtain ⟨q0, q1, q2, q3, q4, q5, q6⟩ := hL6.cells))
                go_roundw
                case rel => exact ⟨k + 1, cc + 1, by omega, hcc2, by simp, by simp, hc2, ((hB.trans (hB4.mono hB.size)).trans (hb5.mono (Nat.le_trans hB.size hB4.size))).setCell (p := ⟨w4.heap.size, 4, none⟩) (Nat.le_trans hB.size (Nat.le_trans hBa.size hb4.size)) _⟩
                case measure => simp [intOf]; omega
        · obtain rfl : k = n0 := by omega
          obtain rfl : cc = nw := by have h3 := hct.out; rw [← hlen.out, List.take_length] at h3; rw [hnw.out, h3]
          go_wp2_with (go_at_call 9; refine (awake_any _ (((hv.later hb1).later hb2).later hB)).mono ?_; rintro e w4 ⟨rfl, hb4⟩)
          go_ret
          exact ⟨rfl, ((hb1.trans (hb2.mono hb1.size)).trans (hB.mono (Nat.le_trans hb1.size hb2.size))).trans (hb4.mono (Nat.le_trans (Nat.le_trans hb1.size hb2.size) hB.size))⟩

set_option maxRecDepth 100000 in
theorem lifted (os : Os) (started : os.Started) (H : Type) (enc : TypeId × Value → H) :
    ReturnsInHanded {} Tryz.checked os 6 .any (fun w args => (Rows.asmGoesSpec.pre enc Tryz.prog Tryz.f6 [] false w args ∧ laidMetH Tryz.prog laidL w) ∧ sizedMet enc Tryz.prog Tryz.f6 (OpenSpec.ofChange Rows.asmGoesSpec) false w args) (Rows.asmGoesSpec.post enc Tryz.prog Tryz.f6 false true false false) := by
  refine returns_laid started (by kernel_rfl) Tryz.func6
    (ChangeSpec.witness_shaped (enc := enc) (C := Tryz.checked) (os := os) (X := fun w _ => laidMetH Tryz.prog laidL w) false (World.laidAll Tryz.prog os laidL) #[.slice none 0 0] 8 (World.laidAll_os _ _ _) (World.shaped_of_ZipB (by kernel_rfl) (by kernel_rfl)) (by kernel_rfl) (by kernel_rfl) (by kernel_rfl) (laid_met os _)) ?_
  intro W base args ds gs before hval0 hW hWt hVars
  have hval : ∀ (j : Nat) t v, Tryz.f6.params[j]? = some t → args[j]? = some v → Value.okWide Tryz.prog W .any base t v := hval0
  have hW' := hW
  obtain ⟨p, q, hA0, hV, rfl, hfz, hnd⟩ := hW
  have hA : DataW.TrodAll enc Tryz.prog W 0 (fun _ => true) true Tryz.f6.params.toList args.toList ds p := hA0
  rw [Tryz.params6] at hA hval
  obtain ⟨v0, vs0, d0, ds0, p0, q0, hargs, rfl, rfl, h0, r0⟩ := trodAll_cons hA
  obtain ⟨rfl, rfl, rfl⟩ := trodAll_nil r0
  obtain rfl : args = #[v0] := by cases args; simp_all
  obtain ⟨rfl, rfl⟩ := trodVars_none hV
  obtain ⟨ao0, n0, cap0, rfl⟩ := okWide_slice Tryz.underlying22 (hval 0 22 v0 rfl rfl)
  have k0 := h0
  have lt0 : ∀ x ∈ p0, x.block < W.heap.size := by obtain ⟨m, hm⟩ := k0; exact DataW.trod_lt m _ _ _ hm
  obtain ⟨L0, l0⟩ := ln_of_trod h0 (hWt 0 _ _ rfl rfl)
  clear hA0 hval0
  refine (walk ao0 n0 cap0 L0 W l0 hVars).mono fun e W' ⟨he, bel⟩ => ?_
  subst he
  exact ⟨_, rfl, _, _, _, [], _, [], hW', trodAll_mk1 (shut_bool Tryz.underlying4 _), (trodAll_cons_mk (Below.trod laidOut (by kernel_rfl) (of_decide_eq_true (by kernel_rfl)) k0 bel lt0) trodAll_mk0), rfl, bel.frame _, fun h => by cases h⟩

theorem over : Rows.asmGoesRow.holds Tryz.pinned (OpenSpec.ofChange Rows.asmGoesSpec) :=
  OpenClaim.holds_of_wide 6 Tryz.f6 rfl rfl rfl rfl rfl rfl rfl ⟨rfl, rfl, rfl, rfl, rfl⟩ rfl rfl rfl rfl rfl (by kernel_rfl) Tryz.func6 (by kernel_rfl)
    (of_decide_eq_true (by kernel_rfl)) (by unfold Func.isWrapper; first | (rw [if_pos (by decide +kernel)]; kernel_rfl) | (rw [if_neg (by decide +kernel)]; exact ⟨rfl, rfl⟩))
    (fun os started H enc _ => lifted os started H enc)

end asmGoes
/-- The statement: the tied card. -/
theorem asmGoes_holds : Rows.AsmGoesCardSaid :=
  Claim7.holds_tied_plain_at .later [] [.data, .data, .data, .data, .sentinel, .sentinel, .pinned] true (true, "4b6dbf2cb406ec6b52420c0876f7b3f3e599a0b95d9dd754324b4f866b9cccb4") true
    asmGoes.over (fun _ h => by cases h) (by kernel_rfl) (fun _ h => by cases h) asmGoes_row_tie rfl ⟨rfl, rfl⟩ (by kernel_rfl) rfl
    (fun f fn hf hfn => by
      obtain rfl : f = 6 := Option.some.inj ((show Tryz.prog.funcNamed "curtilage/curtilagelaw10.AsmGoes" = some 6 by kernel_rfl).symm.trans hf) |>.symm
      obtain rfl : fn = Tryz.f6 := (Option.some.inj (Tryz.func6.symm.trans hfn)).symm
      exact ⟨by kernel_rfl, fun j t ht => by
        rw [Tryz.params6] at ht
        have hm : t ∈ [22] := by simpa using Array.mem_of_getElem? ht
        have hall : ([22].all fun u => !Tryz.prog.wantsStandIn u) = true := by kernel_rfl
        exact (show Tryz.prog.wantsStandIn t = false by simpa using List.all_eq_true.1 hall t hm)⟩)
    (by kernel_rfl)
#print axioms asmGoes_holds
end Go.Proofs.YtagljcgfmdahhaaGreatDoor
