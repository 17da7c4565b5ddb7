/-
  PROVED HERE: CodecBack (P4.3): there and back: a label's words and text are read as it, words and texts that are read are just the label's, unlike labels have unlike ones, at every labels, words and text. The tied card.
-/
import Derived.Test.YtpagpjidahaaeaaDoorRows
import Derived.Test.YtpagpjidahaaeaaDoorCards
import Derived.Test.YtpagpjidahaaeaaDoorTie
import Derived.SevenTiedAt
import Derived.Test.YtpagpjidahaaeaaDoorCod18
import Derived.Test.YtpagpjidahaaeaaDoorCod24
import Derived.WalkKit
import Derived.ProofKit
import Derived.OpenShut
import Derived.Below
import Derived.ShutString
import Derived.Deep.QuietTactic
import Derived.Deep.DeepCutAuto
namespace Go.Proofs.YtpagpjidahaaeaaDoor
namespace codecBack
open Go.ChangeShapes Go.WideShapes Go.ChangeAt Go.RowKit
open Go.ChangeMaps (open_string shut_string)
set_option linter.unusedVariables false

theorem own_cast {W : World} {b : Nat} {e : TypeId} {size : Nat} {v : Value} {k k' : Nat} {xs xs' : List Value} (h : W.ownsRow b e size v k xs) (hk : k = k') (hx : xs = xs') : W.ownsRow b e size v k' xs' := by
  subst hk; subst hx; exact h
theorem own_cts {W : World} {b : Nat} {v : Value} {k m : Nat} {xs : List Value} {C : List Int} (h : W.ownsRow b 45 1 v k xs) (hk : k = m) (hl : m = C.length) (hx : xs = C.map (Value.int .u64)) : ∃ ao cap, v = .slice ao m cap ∧ Cts W.heap.size W ao m cap C := by
  subst hl
  exact Cts.of_row (own_cast h hk hx)

set_option maxRecDepth 100000 in
set_option maxHeartbeats 8000000 in
theorem walk (ao0 : Option Addr) (n0 cap0 : Nat) (L0 : List (Int × Int)) (ao1 : Option Addr) (n1 cap1 : Nat) (L1 : List (Int × Int)) (ao2 : Option Addr) (n2 cap2 : Nat) (L2 : List Int) (a3 : ByteArray) (w : World) (l0 : LabU w ao0 n0 cap0 L0) (l1 : LabU w ao1 n1 cap1 L1) (l2 : CtsV w ao2 n2 cap2 L2) (w3 : a3.size ≤ maxLen) (hv : Vars w) :
    Calls Tryd.prog 5 #[.slice ao0 n0 cap0, .slice ao1 n1 cap1, .slice ao2 n2 cap2, .string a3] w fun e w' => e = .returned (.bool true) ∧ Below w.heap.size w w' := by
  obtain ⟨hL0, hU0⟩ := l0
  obtain ⟨hL1, hU1⟩ := l1
  obtain ⟨⟨hC2, hU2⟩, hnil⟩ := l2
  have HV : Hid (Vars w) := hv
  clear hv
  by_cases h0 : (40 : Int) < (n0 : Int)
  · go_enter Tryd.func5, Tryd.ntmps5
    go_wp2_with (go_at_call 7; refine (awake_any _ (HV.out)).mono ?_; rintro e w9 ⟨rfl, hb9⟩)
    go_ret
    exact ⟨rfl, hb9⟩
  have h0' : ¬ ((40 : Int) < (n0 : Int)) := h0
  by_cases h1 : (40 : Int) < (n1 : Int)
  · go_enter Tryd.func5, Tryd.ntmps5
    go_wp2_with (go_at_call 7; refine (awake_any _ (HV.out)).mono ?_; rintro e w9 ⟨rfl, hb9⟩)
    go_ret
    exact ⟨rfl, hb9⟩
  by_cases h2 : (100 : Int) < (n2 : Int)
  · go_enter Tryd.func5, Tryd.ntmps5
    go_wp2_with (go_at_call 7; refine (awake_any _ (HV.out)).mono ?_; rintro e w9 ⟨rfl, hb9⟩)
    go_ret
    exact ⟨rfl, hb9⟩
  by_cases h3 : (800 : Int) < (a3.size : Int)
  · go_enter Tryd.func5, Tryd.ntmps5
    go_wp2_with (go_at_call 7; refine (awake_any _ (HV.out)).mono ?_; rintro e w9 ⟨rfl, hb9⟩)
    go_ret
    exact ⟨rfl, hb9⟩
  clear h0'
  have hs : a3.size ≤ 60000 := by omega
  go_enter Tryd.func5, Tryd.ntmps5
  go_upto_region 4 with (go_at_call 14; refine (cread_any a3 hs HV.out).mono ?_; rintro e w1 ⟨aoR, capR, rfl, hl1, hb1⟩; have HB1 : Hid (Below w.heap.size w w1) := hb1)
  go_cut [52] (fun s wc => s = .bool false ∧ Below w.heap.size w wc)
  case first =>
    by_cases hE : readE a3 = 0
    · obtain ⟨ht, hut, hlt⟩ := rL_text hE
      have hq : (readE a3 == 0) = true := by rw [hE]; rfl
      clear hE
      go_wp2_with (go_at_call 16; refine (ctext_any hl1 hut (HV.out.later HB1.out) (by omega)).mono ?_; rintro e w2 ⟨rfl, hb2⟩; rw [ht]; have HB2 : Hid (Below w.heap.size w w2) := HB1.out.trans (hb2.mono HB1.out.size))
      go_meet
      case rel => exact ⟨rfl, HB2.out⟩
    · have hq : (readE a3 == 0) = false := by simpa using hE
      go_wp2
      go_meet
      case rel => exact ⟨rfl, HB1.out⟩
  case rest =>
    clear hl1 HB1 hb1
    obtain ⟨rfl, hbc⟩ := hcut
    have HBC : Hid (Below w.heap.size w wc) := hbc
    have hC2c := hC2.next hbc
    clear hbc
    go_upto_region 7 with (go_at_call 8; refine (cparse_any hC2c hU2).mono ?_; rintro e w1 ⟨aoP, capP, rfl, hl1, hb1⟩; have HB1 : Hid (Below w.heap.size w w1) := HBC.out.trans (hb1.mono HBC.out.size))
    go_cut [75] (fun s wc => s = .bool false ∧ Below w.heap.size w wc)
    case first =>
      by_cases hE : pE L2 = 0
      · obtain ⟨m, hm1, hm2, hm3, hm4, hm5⟩ := pL_words hU2 hE
        have hC2d := cts_take (hC2.next HB1.out) (l := m) (by have := hC2.1; omega)
        have hgt : ¬ ((n2 : Int) < pN L2) := by have := hC2.1; omega
        have hmn : pN L2 ≤ (n2 : Int) := by omega
        have hmt : (pN L2).toNat = m := by omega
        have hss : sameI (wordsOf (pL L2)) (L2.take m) = true := by unfold sameI; rw [hm3]; simp
        have hm0 : (0 : Int) ≤ pN L2 := by omega
        have hmc : pN L2 ≤ (cap2 : Int) := by have := hC2.2.1; omega
        have hl1d : Lab w1.drew.heap.size w1.drew aoP (pL L2).length capP (pL L2) := hl1
        have hC2e : Cts w1.drew.heap.size w1.drew ao2 m cap2 (L2.take m) := hC2d
        have hpl : (pL L2).length ≤ 65536 := by omega
        have hq : (pE L2 == 0) = true := by rw [hE]; rfl
        clear hE hm1 hm2 hm3 hm4 hC2d
        go_region_held3 (fun _ => True) (go_keep) (first | (go_at_call 11; refine (words_any hl1d hpl).mono ?_; rintro e w2 ⟨ao4, k4, cap4, rfl, hc2, hb2⟩) | (go_at_call 10; refine (sameW_any hc2 (hC2e.next hb2)).mono ?_; rintro e w3 ⟨rfl, hb3⟩; rw [hss]))
        go_wp2
        go_meet
        case rel => exact ⟨rfl, (HB1.out.drew.trans (hb2.mono HB1.out.size)).trans (hb3.mono (Nat.le_trans HB1.out.size hb2.size))⟩
      · have hE11 : pE L2 = 11 := by rcases pE_cases L2 with ⟨h, _⟩ | ⟨h, _⟩; exact absurd h hE; exact h
        have hq : (pE L2 == 0) = false := by rw [hE11]; rfl
        clear hE hE11
        go_quiet (fail)
        go_wp2
        go_meet
        case rel => exact ⟨rfl, below_drewN HB1.out _⟩
    case rest =>
      clear hl1 HB1 hb1 hC2c HBC
      obtain ⟨rfl, hbc⟩ := hcut
      have HBC : Hid (Below w.heap.size w wc) := hbc
      have hC2c := hC2.next hbc
      have hL0c := hL0.next hbc
      have hL1c := hL1.next hbc
      clear hbc
      cases hf0 : fitB L0 with
      | false =>
        go_wp2_with (first | (go_at_call 18; refine (rlfit_any hL0c (Nat.le_refl _)).mono ?_; rintro e w1 ⟨rfl, hb1⟩; rw [hf0]; have HB1 : Hid (Below w.heap.size w w1) := HBC.out.trans (hb1.mono HBC.out.size); have hL0d := hL0c.next hb1; have hL1d := hL1c.next hb1; have hC2d := hC2c.next hb1; clear hL0c) | (go_at_call 7; refine (awake_any _ (HV.out.later HB1.out)).mono ?_; rintro e w9 ⟨rfl, hb9⟩))
        go_ret
        exact ⟨rfl, HB1.out.trans (hb9.mono HB1.out.size)⟩
      | true =>
        cases hf1 : fitB L1 with
        | false =>
          go_wp2_with (first | (go_at_call 18; refine (rlfit_any hL0c (Nat.le_refl _)).mono ?_; rintro e w1 ⟨rfl, hb1⟩; rw [hf0]; have HB1 : Hid (Below w.heap.size w w1) := HBC.out.trans (hb1.mono HBC.out.size); have hL0d := hL0c.next hb1; have hL1d := hL1c.next hb1; have hC2d := hC2c.next hb1; clear hL0c) | (go_at_call 18; refine (rlfit_any hL1d (Nat.le_refl _)).mono ?_; rintro e w2 ⟨rfl, hb2⟩; rw [hf1]; have HB2 : Hid (Below w.heap.size w w2) := HB1.out.trans (hb2.mono HB1.out.size); have hL0e := hL0d.next hb2; have hL1e := hL1d.next hb2; have hC2e := hC2d.next hb2; clear hL1d) | (go_at_call 7; refine (awake_any _ (HV.out.later HB2.out)).mono ?_; rintro e w9 ⟨rfl, hb9⟩))
          go_ret
          exact ⟨rfl, HB2.out.trans (hb9.mono HB2.out.size)⟩
        | true =>
          by_cases h16 : (16 : Int) < (n0 : Int)
          · go_wp2_with (first | (go_at_call 18; refine (rlfit_any hL0c (Nat.le_refl _)).mono ?_; rintro e w1 ⟨rfl, hb1⟩; rw [hf0]; have HB1 : Hid (Below w.heap.size w w1) := HBC.out.trans (hb1.mono HBC.out.size); have hL0d := hL0c.next hb1; have hL1d := hL1c.next hb1; have hC2d := hC2c.next hb1; clear hL0c) | (go_at_call 18; refine (rlfit_any hL1d (Nat.le_refl _)).mono ?_; rintro e w2 ⟨rfl, hb2⟩; rw [hf1]; have HB2 : Hid (Below w.heap.size w w2) := HB1.out.trans (hb2.mono HB1.out.size); have hL0e := hL0d.next hb2; have hL1e := hL1d.next hb2; have hC2e := hC2d.next hb2; clear hL1d) | (go_at_call 7; refine (awake_any _ (HV.out.later HB2.out)).mono ?_; rintro e w9 ⟨rfl, hb9⟩))
            go_ret
            exact ⟨rfl, HB2.out.trans (hb9.mono HB2.out.size)⟩
          · have h16' : (n0 : Int) ≤ 16 := by omega
            go_upto_region 12 with (first | (go_at_call 18; refine (rlfit_any hL0c (Nat.le_refl _)).mono ?_; rintro e w1 ⟨rfl, hb1⟩; rw [hf0]; have HB1 : Hid (Below w.heap.size w w1) := HBC.out.trans (hb1.mono HBC.out.size); have hL0d := hL0c.next hb1; have hL1d := hL1c.next hb1; have hC2d := hC2c.next hb1; clear hL0c) | (go_at_call 18; refine (rlfit_any hL1d (Nat.le_refl _)).mono ?_; rintro e w2 ⟨rfl, hb2⟩; rw [hf1]; have HB2 : Hid (Below w.heap.size w w2) := HB1.out.trans (hb2.mono HB1.out.size); have hL0e := hL0d.next hb2; have hL1e := hL1d.next hb2; have hC2e := hC2d.next hb2; clear hL1d) | (go_at_call 11; refine (words_fit hL0e hf0 (by omega)).mono ?_; rintro e w3 ⟨ao3, cap3, rfl, hc3, hb3⟩; have HB3 : Hid (Below w.heap.size w w3) := HB2.out.trans (hb3.mono HB2.out.size); have hL0f := hL0e.next hb3; have hL1f := hL1e.next hb3; have hC2f := hC2e.next hb3))
            obtain ⟨i0, hi, hz0, hz1, hz2⟩ := info_parts infoU64
            have h16n : L0.length ≤ 16 := by have := hL0.1; omega
            have hpw : parseW (wordsOf L0 ++ L2) = some L0 := parseW_words hf0 h16n L2
            have hUw : U64s (wordsOf L0 ++ L2) := u64s_app hf0 h16n hU0 hU2
            have hLn : L0.length = n0 := hL0.1
            have HP : Hid (∀ (W : World) (a : Option Addr) (n c : Nat), Cts W.heap.size W a n c (wordsOf L0 ++ L2) → Calls Tryd.prog 8 #[.slice a n c] W fun e w' => ∃ ao1 cap1, e = .returned (.tuple #[.slice ao1 n0 cap1, .int .i64 (1 + 2 * (n0 : Int)), .int .i64 0]) ∧ Lab w'.heap.size w' ao1 n0 cap1 L0 ∧ Below W.heap.size W w') := fun W a n c h => (by
              have hq := parse_some h hUw hpw h16n
              rw [hLn] at hq
              exact hq)
            obtain ⟨g3, o3, rfl⟩ := cts_spot hc3 (by omega)
            have q3 : Hid ((wordsOf L0).length = 1 + 2 * n0) := hc3.1
            have hn2l : L2.length = n2 := hC2.1
            have hba : Below w3.heap.size w3 (w3.alloc (.cells #[] 45)) := (Below.refl _ w3).alloc (Nat.le_refl _) _
            have hrow0 := ownsRow_empty w3 45 1
            have hnw3 : Hid (∀ j u, ((wordsOf L0).map (Value.int .u64))[j]? = some u → (w3.alloc (.cells #[] 45)).cell? ((⟨g3, o3, none⟩ : Addr).add j) = some u) := cts_newsA (hc3.next hba)
            have HC2F : Hid (Cts w3.heap.size w3 ao2 n2 cap2 L2) := hC2f
            have HC3 : Hid (Cts w3.heap.size w3 (some ⟨g3, o3, none⟩) (1 + 2 * n0) cap3 (wordsOf L0)) := hc3
            have HL0F : Hid (Lab w3.heap.size w3 ao0 n0 cap0 L0) := hL0f
            have HL1F : Hid (Lab w3.heap.size w3 ao1 n1 cap1 L1) := hL1f
            clear hC2f hc3 hL0f hL1f hpw hUw
            obtain ⟨n6, hn6⟩ : ∃ n6, Hid (1 + 2 * n0 + n2 = n6) := ⟨_, rfl⟩
            go_cut [15, 16, 17] (fun s15 s16 s17 wc => ∃ ao5 cap5, s15 = .slice ao5 n0 cap5 ∧ s16 = .int .i64 (1 + 2 * (n0 : Int)) ∧ s17 = .int .i64 0 ∧ Lab wc.heap.size wc ao5 n0 cap5 L0 ∧ Below w3.heap.size w3 wc)
            case first =>
              cases ao2 with
              | none =>
                obtain ⟨rfl, rfl⟩ := hnil rfl
                have hL2n : Hid (L2 = []) := List.eq_nil_of_length_eq_zero hn2l
                go_wp2_with (first | (at_builtin; refine wpList_append_own _ rfl _ _ 24 rfl w3.heap.size 45 i0 (.int .u64 0) 1 8 Tryd.underlying24 hi hz0 hz1 hz2 rfl (by decide) _ _ _ rfl hrow0 ⟨g3, o3, none⟩ (1 + 2 * n0) cap3 ((wordsOf L0).map (Value.int .u64)) rfl (by rw [List.length_map, q3.out, Nat.mul_one]) hnw3.out (news_one _) (by unfold maxLen; omega) (by omega) hba.size ?_; intro v4 w4 hown4 hgrow4 _; have hb4 : Below w3.heap.size w3 w4 := hba.grown hgrow4 hba.size (fun j e => (hrow0.lt j e).1); clear hgrow4 hrow0) | (at_builtin; refine wpList_append_own_none rfl _ _ 24 rfl w3.heap.size 45 i0 1 Tryd.underlying24 hi _ _ _ rfl hown4 rfl ?_; have hb5 := hb4; obtain ⟨ao6, cap6, rfl, hc6⟩ := own_cts (m := n6) (C := wordsOf L0 ++ L2) hown4 (by rw [← hn6.out]; omega) (by have q4 := q3.out; have q5 := hn6.out; rw [hL2n.out, List.append_nil]; omega) (by rw [hL2n.out, List.append_nil, List.nil_append])) | (go_at_call 8; refine (HP.out _ _ _ _ hc6).mono ?_; rintro e w7 ⟨ao7, cap7, rfl, hl7, hb7⟩))
                go_meet
                case rel => exact ⟨ao7, cap7, rfl, rfl, rfl, hl7, hb5.trans (hb7.mono hb5.size)⟩
              | some ad =>
                go_wp2_with (first | (at_builtin; refine wpList_append_own _ rfl _ _ 24 rfl w3.heap.size 45 i0 (.int .u64 0) 1 8 Tryd.underlying24 hi hz0 hz1 hz2 rfl (by decide) _ _ _ rfl hrow0 ⟨g3, o3, none⟩ (1 + 2 * n0) cap3 ((wordsOf L0).map (Value.int .u64)) rfl (by rw [List.length_map, q3.out, Nat.mul_one]) hnw3.out (news_one _) (by unfold maxLen; omega) (by omega) hba.size ?_; intro v4 w4 hown4 hgrow4 _; have hb4 : Below w3.heap.size w3 w4 := hba.grown hgrow4 hba.size (fun j e => (hrow0.lt j e).1); clear hgrow4 hrow0) | (at_builtin; refine wpList_append_own _ rfl _ _ 24 rfl w3.heap.size 45 i0 (.int .u64 0) 1 8 Tryd.underlying24 hi hz0 hz1 hz2 rfl (by decide) _ _ _ rfl hown4 ad n2 cap2 (L2.map (Value.int .u64)) rfl (by rw [List.length_map, hn2l, Nat.mul_one]) (cts_newsA (HC2F.out.next hb4)) (news_one _) (by unfold maxLen; omega) (by omega) hb4.size ?_; intro v5 w5 hown5 hgrow5 _; have hb5 : Below w3.heap.size w3 w5 := hb4.grown hgrow5 hb4.size (fun j e => (hown4.lt j e).1); obtain ⟨ao6, cap6, rfl, hc6⟩ := own_cts (m := n6) (C := wordsOf L0 ++ L2) hown5 (by rw [← hn6.out]; omega) (by rw [List.length_append, q3.out, hn2l, ← hn6.out]) (by rw [List.map_append, List.nil_append])) | (go_at_call 8; refine (HP.out _ _ _ _ hc6).mono ?_; rintro e w7 ⟨ao7, cap7, rfl, hl7, hb7⟩))
                go_meet
                case rel => exact ⟨ao7, cap7, rfl, rfl, rfl, hl7, hb5.trans (hb7.mono hb5.size)⟩
            case rest =>
              obtain ⟨ao5, cap5, rfl, rfl, rfl, hl5, hbc⟩ := hcut
              have B0 : Hid (Below w.heap.size w wc) := HB3.out.trans (hbc.mono HB3.out.size)
              have T0 : Hid (Lab wc.heap.size wc ao0 n0 cap0 L0) := HL0F.out.next hbc
              have M0 : Hid (Lab wc.heap.size wc ao1 n1 cap1 L1) := HL1F.out.next hbc
              have W0 : Hid (Cts wc.heap.size wc (some ⟨g3, o3, none⟩) (1 + 2 * n0) cap3 (wordsOf L0)) := HC3.out.next hbc
              obtain ⟨hre, hrl⟩ := rL_of hf0 hU0 h16n
              have hts : Hid ((textOf L0).size ≤ 60000) := textOf_size hU0 h16n
              have hs00 : sameB L0 L0 = true := sameB_refl _
              obtain ⟨bb, hs01⟩ : ∃ bb, sameB L0 L1 = bb := ⟨_, rfl⟩
              have htt : ((textOf L0).toList == (textOf L1).toList) = bb := by rw [← hs01]; exact textOf_same hf0 hf1 hU0 hU1
              have hsw : sameI (wordsOf L0) (wordsOf L1) = bb := by rw [← hs01]; exact wordsOf_same hf0 hf1 h16n
              clear hbc hnw3 HC2F HP hba hrow0 HL0F HL1F HC3
              go_wp2_with (first | (go_at_call 16; refine (ctext_any T0.out hU0 (HV.out.later B0.out) (by omega)).mono ?_; rintro e w4 ⟨rfl, hb4⟩; have B1 : Hid (Below w.heap.size w w4) := B0.out.trans (hb4.mono B0.out.size); have S1 : Hid (Lab w4.heap.size w4 ao5 n0 cap5 L0) := hl5.next hb4; have T1 : Hid (Lab w4.heap.size w4 ao0 n0 cap0 L0) := T0.out.next hb4; have M1 : Hid (Lab w4.heap.size w4 ao1 n1 cap1 L1) := M0.out.next hb4; have W1 : Hid (Cts w4.heap.size w4 (some ⟨g3, o3, none⟩) (1 + 2 * n0) cap3 (wordsOf L0)) := W0.out.next hb4; clear T0) | (go_at_call 14; refine (cread_any (textOf L0) hts.out (HV.out.later B1.out)).mono ?_; rintro e w5 ⟨aoX, capX, rfl, hl6, hb5⟩; rw [hrl, hre] at *; rw [hLn] at hl6 ⊢; have B2 : Hid (Below w.heap.size w w5) := B1.out.trans (hb5.mono B1.out.size); have S2 : Hid (Lab w5.heap.size w5 ao5 n0 cap5 L0) := S1.out.next hb5; have T2 : Hid (Lab w5.heap.size w5 ao0 n0 cap0 L0) := T1.out.next hb5; have M2 : Hid (Lab w5.heap.size w5 ao1 n1 cap1 L1) := M1.out.next hb5; have W2 : Hid (Cts w5.heap.size w5 (some ⟨g3, o3, none⟩) (1 + 2 * n0) cap3 (wordsOf L0)) := W1.out.next hb5) | (go_at_call 13; refine (rsame_any S2.out (Nat.le_refl _) T2.out (Nat.le_refl _)).mono ?_; rintro e w6 ⟨rfl, hbs1⟩; rw [hs00]; have B3 : Hid (Below w.heap.size w w6) := B2.out.trans (hbs1.mono B2.out.size); have X3 : Hid (Lab w6.heap.size w6 aoX n0 capX L0) := hl6.next hbs1; have T3 : Hid (Lab w6.heap.size w6 ao0 n0 cap0 L0) := T2.out.next hbs1; have M3 : Hid (Lab w6.heap.size w6 ao1 n1 cap1 L1) := M2.out.next hbs1; have W3 : Hid (Cts w6.heap.size w6 (some ⟨g3, o3, none⟩) (1 + 2 * n0) cap3 (wordsOf L0)) := W2.out.next hbs1; clear S2) | (go_at_call 13; refine (rsame_any X3.out (Nat.le_refl _) T3.out (Nat.le_refl _)).mono ?_; rintro e w7 ⟨rfl, hbs2⟩; rw [hs00]; have B4 : Hid (Below w.heap.size w w7) := B3.out.trans (hbs2.mono B3.out.size); have T4 : Hid (Lab w7.heap.size w7 ao0 n0 cap0 L0) := T3.out.next hbs2; have M4 : Hid (Lab w7.heap.size w7 ao1 n1 cap1 L1) := M3.out.next hbs2; have W4 : Hid (Cts w7.heap.size w7 (some ⟨g3, o3, none⟩) (1 + 2 * n0) cap3 (wordsOf L0)) := W3.out.next hbs2; clear X3) | (go_at_call 13; refine (rsame_any T4.out (Nat.le_refl _) M4.out (Nat.le_refl _)).mono ?_; rintro e w8 ⟨rfl, hbs3⟩; rw [hs01]; have B5 : Hid (Below w.heap.size w w8) := B4.out.trans (hbs3.mono B4.out.size); have T5 : Hid (Lab w8.heap.size w8 ao0 n0 cap0 L0) := T4.out.next hbs3; have M5 : Hid (Lab w8.heap.size w8 ao1 n1 cap1 L1) := M4.out.next hbs3; have W5 : Hid (Cts w8.heap.size w8 (some ⟨g3, o3, none⟩) (1 + 2 * n0) cap3 (wordsOf L0)) := W4.out.next hbs3; clear T4) | (go_at_call 16; refine (ctext_any T5.out hU0 (HV.out.later B5.out) (by omega)).mono ?_; rintro e w10 ⟨rfl, hb10⟩; have B6 : Hid (Below w.heap.size w w10) := B5.out.trans (hb10.mono B5.out.size); have M6 : Hid (Lab w10.heap.size w10 ao1 n1 cap1 L1) := M5.out.next hb10; have W6 : Hid (Cts w10.heap.size w10 (some ⟨g3, o3, none⟩) (1 + 2 * n0) cap3 (wordsOf L0)) := W5.out.next hb10; clear T5) | (go_at_call 16; refine (ctext_any M6.out hU1 (HV.out.later B6.out) (by omega)).mono ?_; rintro e w11 ⟨rfl, hb11⟩; have B7 : Hid (Below w.heap.size w w11) := B6.out.trans (hb11.mono B6.out.size); have M7 : Hid (Lab w11.heap.size w11 ao1 n1 cap1 L1) := M6.out.next hb11; have W7 : Hid (Cts w11.heap.size w11 (some ⟨g3, o3, none⟩) (1 + 2 * n0) cap3 (wordsOf L0)) := W6.out.next hb11; clear M6) | (go_at_call 11; refine (words_any M7.out (by omega)).mono ?_; rintro e w12 ⟨ao12, n12, cap12, rfl, hc12, hb12⟩; have B8 : Hid (Below w.heap.size w w12) := B7.out.trans (hb12.mono B7.out.size); have W8 : Hid (Cts w12.heap.size w12 (some ⟨g3, o3, none⟩) (1 + 2 * n0) cap3 (wordsOf L0)) := W7.out.next hb12) | (go_at_call 10; refine (sameW_any W8.out hc12).mono ?_; rintro e w13 ⟨rfl, hb13⟩; rw [hsw]; have B9 : Hid (Below w.heap.size w w13) := B8.out.trans (hb13.mono B8.out.size)) | (go_at_call 7; refine (awake_any _ (HV.out.later B9.out)).mono ?_; rintro e w14 ⟨rfl, hb14⟩))
              go_ret
              exact ⟨rfl, B9.out.trans (hb14.mono B9.out.size)⟩

set_option maxRecDepth 100000 in
theorem lifted (os : Os) (started : os.Started) (H : Type) (enc : TypeId × Value → H) :
    ReturnsInHanded {} Tryd.checked os 5 .any (fun w args => (Rows.codecBackSpec.pre enc Tryd.prog Tryd.f5 [] false w args ∧ laidMetH Tryd.prog laidL w) ∧ sizedMet enc Tryd.prog Tryd.f5 (OpenSpec.ofChange Rows.codecBackSpec) false w args) (Rows.codecBackSpec.post enc Tryd.prog Tryd.f5 false true false false) := by
  refine returns_laid started (by kernel_rfl) Tryd.func5
    (ChangeSpec.witness_shaped (enc := enc) (C := Tryd.checked) (os := os) (X := fun w _ => laidMetH Tryd.prog laidL w) false (World.doorLaid Tryd.prog 2000 os) #[.slice none 0 0, .slice none 0 0, .slice none 0 0, .string ⟨#[]⟩] 8 rfl (World.shaped_of_RefB (by kernel_rfl) (by kernel_rfl)) (by kernel_rfl) (by kernel_rfl) (by kernel_rfl) (door_met os _)) ?_
  intro W base args ds gs before hval0 hW hVars
  have hval : ∀ (j : Nat) t v, Tryd.f5.params[j]? = some t → args[j]? = some v → Value.okWide Tryd.prog W .any base t v := hval0
  have hW' := hW
  obtain ⟨p, q, hA0, hV, rfl, hfz, hnd⟩ := hW
  have hA : DataW.TrodAll enc Tryd.prog W 0 (fun _ => true) true Tryd.f5.params.toList args.toList ds p := hA0
  rw [Tryd.params5] at hA hval
  obtain ⟨v0, vs0, d0, ds0, p0, q0, hargs, rfl, rfl, h0, r0⟩ := trodAll_cons hA
  obtain ⟨v1, vs1, d1, ds1, p1, q1, rfl, rfl, rfl, h1, r1⟩ := trodAll_cons r0
  obtain ⟨v2, vs2, d2, ds2, p2, q2, rfl, rfl, rfl, h2, r2⟩ := trodAll_cons r1
  obtain ⟨v3, vs3, d3, ds3, p3, q3, rfl, rfl, rfl, h3, r3⟩ := trodAll_cons r2
  obtain ⟨rfl, rfl, rfl⟩ := trodAll_nil r3
  obtain rfl : args = #[v0, v1, v2, v3] := by cases args; simp_all
  obtain ⟨rfl, rfl⟩ := trodVars_none hV
  obtain ⟨ao0, n0, cap0, rfl⟩ := okWide_slice Tryd.underlying23 (hval 0 23 v0 rfl rfl)
  have k0 := h0
  have lt0 : ∀ x ∈ p0, x.block < W.heap.size := by obtain ⟨m, hm⟩ := k0; exact DataW.trod_lt m _ _ _ hm
  obtain ⟨L0, l0⟩ := labU_of_trod h0
  obtain ⟨ao1, n1, cap1, rfl⟩ := okWide_slice Tryd.underlying23 (hval 1 23 v1 rfl rfl)
  have k1 := h1
  have lt1 : ∀ x ∈ p1, x.block < W.heap.size := by obtain ⟨m, hm⟩ := k1; exact DataW.trod_lt m _ _ _ hm
  obtain ⟨L1, l1⟩ := labU_of_trod h1
  obtain ⟨ao2, n2, cap2, rfl⟩ := okWide_slice Tryd.underlying24 (hval 2 24 v2 rfl rfl)
  have k2 := h2
  have lt2 : ∀ x ∈ p2, x.block < W.heap.size := by obtain ⟨m, hm⟩ := k2; exact DataW.trod_lt m _ _ _ hm
  obtain ⟨L2, l2⟩ := ctsV_of_trod h2
  obtain ⟨a3, rfl, rfl, rfl, w3⟩ := open_string Tryd.underlying9 (hval 3 9 v3 rfl rfl) h3
  clear hA0 hval0
  refine (walk ao0 n0 cap0 L0 ao1 n1 cap1 L1 ao2 n2 cap2 L2 a3 W l0 l1 l2 w3 hVars).mono fun e W' ⟨he, bel⟩ => ?_
  subst he
  exact ⟨_, rfl, _, _, _, [], _, [], hW', trodAll_mk1 (shut_bool Tryd.underlying4 _), (trodAll_cons_mk (Below.trod laidOut (by kernel_rfl) (of_decide_eq_true (by kernel_rfl)) k0 bel lt0) (trodAll_cons_mk (Below.trod laidOut (by kernel_rfl) (of_decide_eq_true (by kernel_rfl)) k1 bel lt1) (trodAll_cons_mk (Below.trod laidOut (by kernel_rfl) (of_decide_eq_true (by kernel_rfl)) k2 bel lt2) (trodAll_cons_mk (shut_string Tryd.underlying9 w3) trodAll_mk0)))), rfl, bel.frame _, fun h => by cases h⟩

theorem over : Rows.codecBackRow.holds Tryd.pinned (OpenSpec.ofChange Rows.codecBackSpec) :=
  OpenClaim.holds_of_wide 5 Tryd.f5 rfl rfl rfl rfl rfl rfl rfl ⟨rfl, rfl, rfl, rfl, rfl⟩ rfl rfl rfl rfl rfl (by kernel_rfl) Tryd.func5 (by kernel_rfl)
    (of_decide_eq_true (by kernel_rfl)) (by unfold Func.isWrapper; first | (rw [if_pos (by decide +kernel)]; kernel_rfl) | (rw [if_neg (by decide +kernel)]; exact ⟨rfl, rfl⟩))
    (fun os started H enc _ => lifted os started H enc)

end codecBack
/-- The statement: the tied card. -/
theorem codecBack_holds : Rows.CodecBackCardSaid :=
  Claim7.holds_tied_plain_at .later [] [.data, .data, .data, .sentinel, .sentinel] true (true, "8744e54bc1fc022701c93aaea29aa16f8f1d8a459e81c598f98091468f4c21c9") true
    codecBack.over (fun _ h => by cases h) (by kernel_rfl) (fun _ h => by cases h) codecBack_row_tie rfl ⟨rfl, rfl⟩ (by kernel_rfl) rfl
    (fun f fn hf hfn => by
      obtain rfl : f = 5 := Option.some.inj ((show Tryd.prog.funcNamed "curtilage/curtilagelaw04.CodecBack" = some 5 by kernel_rfl).symm.trans hf) |>.symm
      obtain rfl : fn = Tryd.f5 := (Option.some.inj (Tryd.func5.symm.trans hfn)).symm
      exact ⟨by kernel_rfl, fun j t ht => by
        rw [Tryd.params5] at ht
        have hm : t ∈ [23, 23, 24, 9] := by simpa using Array.mem_of_getElem? ht
        have hall : ([23, 23, 24, 9].all fun u => !Tryd.prog.wantsStandIn u) = true := by kernel_rfl
        exact (show Tryd.prog.wantsStandIn t = false by simpa using List.all_eq_true.1 hall t hm)⟩)
    (by kernel_rfl)
#print axioms codecBack_holds
end Go.Proofs.YtpagpjidahaaeaaDoor
