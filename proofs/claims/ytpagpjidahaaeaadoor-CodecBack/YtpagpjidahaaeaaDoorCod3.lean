/-
  PROVED HERE: codec's fromWords where the words are as many as the first says (a contract over this translation).
-/
import Derived.Test.YtpagpjidahaaeaaDoorCod2
import Derived.Deep.AppendLies
import Derived.Deep.RegionHeld3
import Derived.BigQuiet
import Derived.Deep.QuietTactic
namespace Go.Proofs.YtpagpjidahaaeaaDoor
open Go.RowKit Go.Shelf
set_option linter.unusedVariables false

set_option maxRecDepth 100000 in
set_option maxHeartbeats 4000000 in
theorem fromWords_main {w : World} {ao : Option Addr} {n cap : Nat} {W : List Int} (hC : Cts w.heap.size w ao n cap W) (hU : U64s W) (hn : 0 < n) (hg : W.getD 0 0 ≤ 16) (hs : 1 + 2 * wcount W ≤ n) :
    Calls Tryd.prog 21 #[.slice ao n cap] w (Told 11 w (parseW W)) := by
  obtain ⟨i0, hi, hz0, hz1, hz2⟩ := info_parts infoPair
  obtain ⟨b, off, hao, hbB, c0⟩ := hC.at' (Below.refl _ _) hn
  have hnc := hC.2.1
  have hcm := hC.2.2.1
  have hWl := hC.1
  rw [Nat.add_zero] at c0
  obtain ⟨x, hx⟩ : ∃ x : Nat, W.getD 0 0 = x := ⟨(W.getD 0 0).toNat, (Int.toNat_of_nonneg (hU 0).1).symm⟩
  have hwc : wcount W = x := by unfold wcount; rw [hx]; rfl
  have HX : Hid (W.getD 0 0 = x) := hx
  rw [hx] at c0 hg
  rw [hwc] at hs
  have hlt : (1 + 2 * (x : Int)) ≤ (n : Int) := by omega
  have hcx : wrap64 (x : Int) = x := by unfold wrap64; omega
  have HC : Hid (Cts w.heap.size w ao n cap W) := hC
  have HU : Hid (U64s W) := hU
  have HW : Hid (wcount W = x) := hwc
  subst hao
  clear hx hwc hC hU
  go_enter Tryd.func21, Tryd.ntmps21
  go_wp2_with (first | (go_at_call 34; refine (need_yes 11 _).mono ?_; rintro e w' ⟨rfl, rfl⟩) | (go_at_call 22; refine (size_any x _ (by omega) (by omega)).mono ?_; rintro e w' ⟨rfl, rfl⟩))
  go_loopw [4, 28] (fun v i wr => ∃ (k : Nat) (ao1 : Option Addr) (cap1 : Nat), k ≤ x ∧ i = .int .i64 k ∧ v = .slice ao1 k cap1 ∧ OwnL w.heap.size wr ao1 k cap1 (pairsK W k) ∧ Hid (∀ j, j < k → (pairAt W j).2 ≤ 5) ∧ Below w.heap.size w wr) (fun _ i _ => x - (intOf i).toNat)
  case atStart => exact ⟨0, none, 0, Nat.zero_le _, rfl, rfl, OwnL.nil _ _, fun j hj => absurd hj (by omega), Below.refl _ _⟩
  case round =>
    obtain ⟨k, ao1, cap1, hk, rfl, rfl, ⟨hOl, hrow⟩, hlev, hb⟩ := hrel
    have hbs := hb.size
    clear hcx
    by_cases hkx : k < x
    · obtain ⟨m, hm⟩ : ∃ m, 1 + 2 * k = m := ⟨_, rfl⟩
      obtain ⟨b1, off1, ha1, _, d1⟩ := HC.out.at' hb (i := 1 + 2 * k) (by omega)
      obtain ⟨b2, off2, ha2, _, d2⟩ := HC.out.at' hb (i := 2 + 2 * k) (by omega)
      simp only [Option.some.injEq, Addr.mk.injEq, and_true] at ha1 ha2
      obtain ⟨rfl, rfl⟩ := ha1
      obtain ⟨rfl, rfl⟩ := ha2
      have hbw : b < wr.heap.size := by omega
      have hkx' : (k : Int) < x := by omega
      have hsx : Hid (pairsK W (k + 1) = pairsK W k ++ [(W.getD (1 + 2 * k) 0, W.getD (2 + 2 * k) 0)]) := pairsK_succ W k
      have hp5 : Hid ((pairAt W k).2 = W.getD (2 + 2 * k) 0) := rfl
      have hu2 := (HU.out (2 + 2 * k)).1
      replace d2 : wr.cell? ⟨b, off + (m + 1), none⟩ = some (.int .u64 (W.getD (2 + 2 * k) 0)) := by rw [← hm, show 1 + 2 * k + 1 = 2 + 2 * k by omega]; exact d2
      rw [hm] at d1 hsx
      generalize W.getD m 0 = c at d1 hsx
      generalize W.getD (2 + 2 * k) 0 = l at d2 hsx hu2 hp5
      have HM : Hid (1 + 2 * k = m) := hm
      have hm0 : (0 : Int) ≤ m := by omega
      have hmm : m < 100 := by omega
      have hlt1 : (m : Int) < n := by omega
      have hlt2 : (m : Int) + 1 < n := by omega
      have hm1 : (0 : Int) ≤ (m : Int) + 1 := by omega
      clear hm
      by_cases hl5 : l ≤ 5
      · go_wp2_with (first | (go_at_call 34; refine (need_yes 11 _).mono ?_; rintro e w' ⟨rfl, rfl⟩) | (go_at_call 22; refine (size_nat k m _ HM.out (by omega)).mono ?_; rintro e w' ⟨rfl, rfl⟩))
        have hw1 : IntKind.i64.wrap ((m : Int) + 1) = (m : Int) + 1 := by rw [IntKind.wrap_i64]; omega
        have hwl : IntKind.i64.wrap l = l := by rw [IntKind.wrap_i64]; omega
        go_region_held3 (fun w' => w'.cell? ⟨b, off + m, none⟩ = some (.int .u64 c) ∧ w'.cell? ⟨b, off + (m + 1), none⟩ = some (.int .u64 l)) (go_keep) (first | (refine step_append_lies _ rfl _ _ 23 rfl w.heap.size 47 i0 (.agg #[.int .u64 0, .int .i64 0]) 2 16 Tryd.underlying23 hi hz0 hz1 hz2 rfl (by decide) _ _ _ rfl (hrow.drew.alloc _) ⟨wr.heap.size, 0, none⟩ 1 1 [.int .u64 c, .int .i64 l] rfl rfl (cell_two_new wr.drew _ _ _) (by simp [Value.oneCell']) (by omega) (by unfold maxLen; omega) (by omega) (by simp; omega) _ rfl ?_; intro g1 cp1 w1 hown1 hgrow1 hat hltg; have hb1 := app_below hb.drew hrow.drew hgrow1 hbs; have e0 := (hb1.cell (p := ⟨b, off + m, none⟩) hbB).trans ((hb.cell (p := ⟨b, off + m, none⟩) hbB).symm.trans d1); have e1 := (hb1.cell (p := ⟨b, off + (m + 1), none⟩) hbB).trans ((hb.cell (p := ⟨b, off + (m + 1), none⟩) hbB).symm.trans d2)))
        go_wp2
        go_roundw
        case rel => exact ⟨k + 1, some ⟨g1, 0, none⟩, cp1, by omega, by go_num, rfl, ⟨pairsK_len W _, by rw [hsx.out, cellsOf_append]; exact hown1⟩, fun j hj => (by rcases Nat.lt_succ_iff_lt_or_eq.1 hj with h | rfl; exact hlev.out j h; rw [hp5.out]; exact hl5), hb1⟩
        case measure => simp [intOf]; omega
      · have hr : Hid (parseW W = none) := parseW_none (fun h => absurd (h.2.2.2.1) (by rw [HW.out, levsOk_no hkx (by rw [hp5.out]; exact hl5)]; simp))
        go_wp2_with (first | (go_at_call 34; refine (need_no' (decide_eq_false (Int.not_le.2 hl5)) 11 _).mono ?_; rintro e w' ⟨rfl, rfl⟩) | (go_at_call 22; refine (size_nat k m _ HM.out (by omega)).mono ?_; rintro e w' ⟨rfl, rfl⟩))
        exact ⟨rfl, Told.no hr.out hb⟩
    · obtain rfl : k = x := by omega
      have hlo : Hid (levsOk W k = true) := levsOk_yes hlev.out
      have HL := (show OwnL w.heap.size wr ao1 k cap1 (pairsK W k) from ⟨hOl, hrow⟩).lab
      cases hf : fitB (pairsK W k) with
      | true =>
        have hr : Hid (parseW W = some (pairsK W k)) := (parseW_some (by rw [HW.out]; exact ⟨hWl.symm ▸ hn, by rw [HX.out]; exact hg, hWl.symm ▸ hs, hlo.out, hf⟩)).trans (by rw [HW.out])
        go_wp2_with (first | (go_at_call 34; refine (need_yes 11 _).mono ?_; rintro e w' ⟨rfl, rfl⟩) | (go_at_call 23; refine (lfit_any HL (Nat.le_refl _)).mono ?_; rintro e w1 ⟨rfl, hb1⟩; rw [hf]))
        go_ret
        exact Told.yes hr.out (OwnL.next ⟨hOl, hrow⟩ hb1) (hb.trans (hb1.mono hbs))
      | false =>
        have hr : Hid (parseW W = none) := parseW_none (fun h => absurd (h.2.2.2.2) (by rw [HW.out, hf]; simp))
        go_wp2_with (first | (go_at_call 34; refine (need_no 11 _).mono ?_; rintro e w' ⟨rfl, rfl⟩) | (go_at_call 23; refine (lfit_any HL (Nat.le_refl _)).mono ?_; rintro e w1 ⟨rfl, hb1⟩; rw [hf]))
        exact ⟨rfl, Told.no hr.out (hb.trans (hb1.mono hbs))⟩
end Go.Proofs.YtpagpjidahaaeaaDoor
