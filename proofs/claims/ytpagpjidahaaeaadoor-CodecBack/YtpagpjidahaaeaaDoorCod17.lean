/-
  PROVED HERE: the document's own Parse of layer 4 (a contract over this translation).
-/
import Derived.Test.YtpagpjidahaaeaaDoorCod13
import Derived.Test.YtpagpjidahaaeaaDoorLabCon2
import Derived.Deep.AppendLies
namespace Go.Proofs.YtpagpjidahaaeaaDoor
open Go.RowKit Go.Shelf
set_option linter.unusedVariables false

/-- What the document's reader tells. -/
def ToldR (w : World) (o : Option (List (Int × Int))) (e : Ending) (w' : World) : Prop :=
  (∀ L, o = some L → ∃ ao cap, e = .returned (.tuple #[.slice ao L.length cap, .int .i64 (1 + 2 * (L.length : Int)), .int .i64 0]) ∧ Lab w'.heap.size w' ao L.length cap L) ∧ (o = none → e = .returned (.tuple #[.slice none 0 0, .int .i64 0, .int .i64 11])) ∧ Below w.heap.size w w'
theorem ToldR.no {w w' : World} {o : Option (List (Int × Int))} (h : o = none) (hb : Below w.heap.size w w') : ToldR w o (.returned (.tuple #[.slice none 0 0, .int .i64 0, .int .i64 11])) w' := ⟨fun L e => (by rw [h] at e; cases e), fun _ => rfl, hb⟩

theorem rparse_empty {w : World} {ao : Option Addr} {cap : Nat} (W : List Int) (hW : W.length = 0) : Calls Tryd.prog 9 #[.slice ao 0 cap] w (ToldR w (parseW W)) := by
  have hr : Hid (parseW W = none) := parseW_none (fun h => by omega)
  go_enter Tryd.func9, Tryd.ntmps9
  go_wp2
  go_ret3
  exact ToldR.no hr.out (Below.refl _ _)

set_option maxRecDepth 100000 in
theorem rparse_great {w : World} {ao : Option Addr} {n cap : Nat} {W : List Int} (hC : Cts w.heap.size w ao n cap W) (hn : 0 < n) (hg : 16 < W.getD 0 0) :
    Calls Tryd.prog 9 #[.slice ao n cap] w (ToldR w (parseW W)) := by
  obtain ⟨b, off, rfl, hb, c0⟩ := hC.at' (Below.refl _ _) hn
  have hnc := hC.2.1
  have hcm := hC.2.2.1
  have hn0 : ((n : Int) == 0) = false := by simp; omega
  have hr : Hid (parseW W = none) := parseW_none (fun h => absurd hg (Int.not_lt.2 h.2.1))
  rw [Nat.add_zero] at c0
  generalize W.getD 0 0 = x at c0 hg
  clear hC
  go_enter Tryd.func9, Tryd.ntmps9
  go_wp2
  go_ret3
  exact ToldR.no hr.out (Below.refl _ _)

set_option maxRecDepth 100000 in
theorem rparse_short {w : World} {ao : Option Addr} {n cap : Nat} {W : List Int} (hC : Cts w.heap.size w ao n cap W) (hn : 0 < n) (h0 : 0 ≤ W.getD 0 0) (hg : W.getD 0 0 ≤ 16) (hs : n < 1 + 2 * wcount W) :
    Calls Tryd.prog 9 #[.slice ao n cap] w (ToldR w (parseW W)) := by
  obtain ⟨b, off, rfl, hb, c0⟩ := hC.at' (Below.refl _ _) hn
  have hnc := hC.2.1
  have hcm := hC.2.2.1
  have hn0 : ((n : Int) == 0) = false := by simp; omega
  have hr : Hid (parseW W = none) := parseW_none (fun h => absurd hs (Nat.not_lt.2 (hC.1 ▸ h.2.2.1)))
  rw [Nat.add_zero] at c0
  unfold wcount at hs
  generalize W.getD 0 0 = x at c0 hg hs h0
  have hlt : (n : Int) < 1 + 2 * x := by omega
  have hx16 : ¬ (16 < x) := by omega
  have hcx : IntKind.i64.wrap x = x := by rw [IntKind.wrap_i64]; omega
  have hcx2 : IntKind.i64.wrap (2 * x) = 2 * x := by rw [IntKind.wrap_i64]; omega
  have hcx3 : IntKind.i64.wrap (1 + 2 * x) = 1 + 2 * x := by rw [IntKind.wrap_i64]; omega
  clear hC hs
  go_enter Tryd.func9, Tryd.ntmps9
  go_wp2
  go_ret3
  exact ToldR.no hr.out (Below.refl _ _)

set_option maxRecDepth 100000 in
set_option maxHeartbeats 4000000 in
theorem rparse_main {w : World} {ao : Option Addr} {n cap : Nat} {W : List Int} (hC : Cts w.heap.size w ao n cap W) (hU : U64s W) (hn : 0 < n) (hg : W.getD 0 0 ≤ 16) (hs : 1 + 2 * wcount W ≤ n) :
    Calls Tryd.prog 9 #[.slice ao n cap] w (ToldR w (parseW W)) := by
  obtain ⟨i0, hi, hz0, hz1, hz2⟩ := info_parts infoPair
  obtain ⟨b, off, hao, hbB, c0⟩ := hC.at' (Below.refl _ _) hn
  have hnc := hC.2.1
  have hcm := hC.2.2.1
  have hWl := hC.1
  have hn0 : ((n : Int) == 0) = false := by simp; omega
  rw [Nat.add_zero] at c0
  obtain ⟨x, hx⟩ : ∃ x : Nat, W.getD 0 0 = x := ⟨(W.getD 0 0).toNat, (Int.toNat_of_nonneg (hU 0).1).symm⟩
  have hwc : wcount W = x := by unfold wcount; rw [hx]; rfl
  have HX : Hid (W.getD 0 0 = x) := hx
  rw [hx] at c0 hg
  rw [hwc] at hs
  have hlt : ¬ ((n : Int) < 1 + 2 * (x : Int)) := by omega
  have hx16 : ¬ ((16 : Int) < (x : Int)) := by omega
  have HC : Hid (Cts w.heap.size w ao n cap W) := hC
  have HU : Hid (U64s W) := hU
  have HW : Hid (wcount W = x) := hwc
  subst hao
  clear hx hwc hC hU
  have hcx : IntKind.i64.wrap (x : Int) = x := by rw [IntKind.wrap_i64]; omega
  have hcx2 : IntKind.i64.wrap (2 * (x : Int)) = 2 * x := by rw [IntKind.wrap_i64]; omega
  have hcx3 : IntKind.i64.wrap (1 + 2 * (x : Int)) = 1 + 2 * x := by rw [IntKind.wrap_i64]; omega
  go_enter Tryd.func9, Tryd.ntmps9
  go_wp2
  go_loopw [6, 7] (fun v i wr => ∃ (k : Nat) (ao1 : Option Addr) (cap1 : Nat), k ≤ x ∧ i = .int .i64 k ∧ v = .slice ao1 k cap1 ∧ OwnL w.heap.size wr ao1 k cap1 (pairsK W k) ∧ Hid (∀ j, j < k → (pairAt W j).2 ≤ 5) ∧ Below w.heap.size w wr) (fun _ i _ => x - (intOf i).toNat)
  case atStart => exact ⟨0, none, 0, Nat.zero_le _, rfl, rfl, OwnL.nil _ _, fun j hj => absurd hj (by omega), Below.refl _ _⟩
  case round =>
    obtain ⟨k, ao1, cap1, hk, rfl, rfl, ⟨hOl, hrow⟩, hlev, hb⟩ := hrel
    have hbs := hb.size
    by_cases hkx : k < x
    · obtain ⟨b1, off1, ha1, _, d1⟩ := HC.out.at' hb (i := 1 + 2 * k) (by omega)
      obtain ⟨b2, off2, ha2, _, d2⟩ := HC.out.at' hb (i := 2 + 2 * k) (by omega)
      simp only [Option.some.injEq, Addr.mk.injEq, and_true] at ha1 ha2
      obtain ⟨rfl, rfl⟩ := ha1
      obtain ⟨rfl, rfl⟩ := ha2
      have hbw : b < wr.heap.size := by omega
      have hkx' : (k : Int) < x := by omega
      have hsx : Hid (pairsK W (k + 1) = pairsK W k ++ [(W.getD (1 + 2 * k) 0, W.getD (2 + 2 * k) 0)]) := pairsK_succ W k
      have hp5 : Hid ((pairAt W k).2 = W.getD (2 + 2 * k) 0) := rfl
      have hu2 := (HU.out (2 + 2 * k)).1
      generalize W.getD (1 + 2 * k) 0 = c at d1 hsx
      generalize W.getD (2 + 2 * k) 0 = l at d2 hsx hu2 hp5
      have hlt1 : (1 + 2 * (k : Int)) < n := by omega
      have hlt2 : (2 + 2 * (k : Int)) < n := by omega
      clear hcx hcx2 hcx3
      have hw2 : IntKind.i64.wrap (2 * (k : Int)) = 2 * k := by rw [IntKind.wrap_i64]; omega
      have hw3 : IntKind.i64.wrap (1 + 2 * (k : Int)) = 1 + 2 * k := by rw [IntKind.wrap_i64]; omega
      have hw4 : IntKind.i64.wrap (2 + 2 * (k : Int)) = 2 + 2 * k := by rw [IntKind.wrap_i64]; omega
      by_cases hl5 : l ≤ 5
      · have hwl : IntKind.i64.wrap l = l := by rw [IntKind.wrap_i64]; omega
        have hl5' : ¬ (5 < l) := by omega
        go_wp2_with (at_builtin; refine wpList_append_own _ rfl _ _ 23 rfl w.heap.size 47 i0 (.agg #[.int .u64 0, .int .i64 0]) 2 16 Tryd.underlying23 hi hz0 hz1 hz2 rfl (by decide) _ _ _ rfl (hrow.alloc _) ⟨wr.heap.size, 0, none⟩ 1 1 [.int .u64 c, .int .i64 l] rfl rfl (cell_two_new _ _ _ _) (by simp [Value.oneCell']) (by unfold maxLen; omega) (by omega) (Nat.le_trans hbs (by simp)) ?_; intro v1 w1 hown1 hgrow1 _; obtain ⟨g1, cp1, rfl⟩ := ownsRow_two hown1; have hb1 := app_below hb hrow hgrow1 hbs)
        go_roundw
        case rel => exact ⟨k + 1, some ⟨g1, 0, none⟩, cp1, by omega, by go_num, rfl, ⟨pairsK_len W _, by rw [hsx.out, cellsOf_append]; exact hown1⟩, fun j hj => (by rcases Nat.lt_succ_iff_lt_or_eq.1 hj with h | rfl; exact hlev.out j h; rw [hp5.out]; exact hl5), hb1⟩
        case measure => simp [intOf]; omega
      · have hr : Hid (parseW W = none) := parseW_none (fun h => absurd (h.2.2.2.1) (by rw [HW.out, levsOk_no hkx (by rw [hp5.out]; exact hl5)]; simp))
        have hl6 : 5 < l := by omega
        go_wp2
        go_ret3
        exact ToldR.no hr.out hb
    · obtain rfl : k = x := by omega
      have hlo : Hid (levsOk W k = true) := levsOk_yes hlev.out
      have HL := (show OwnL w.heap.size wr ao1 k cap1 (pairsK W k) from ⟨hOl, hrow⟩).lab
      cases hf : fitB (pairsK W k) with
      | true =>
        have hr : Hid (parseW W = some (pairsK W k)) := (parseW_some (by rw [HW.out]; exact ⟨hWl.symm ▸ hn, by rw [HX.out]; exact hg, hWl.symm ▸ hs, hlo.out, hf⟩)).trans (by rw [HW.out])
        have hpk := pairsK_len W k
        go_wp2_with (go_at_call 18; refine (rlfit_any HL (Nat.le_refl _)).mono ?_; rintro e w1 ⟨rfl, hb1⟩; rw [hf])
        go_ret3
        refine ⟨fun L e => ?_, fun e => (by rw [hr.out] at e; cases e), hb.trans (hb1.mono hbs)⟩
        rw [hr.out] at e
        cases e
        rw [hpk]
        exact ⟨_, _, rfl, HL.next hb1⟩
      | false =>
        have hr : Hid (parseW W = none) := parseW_none (fun h => absurd (h.2.2.2.2) (by rw [HW.out, hf]; simp))
        go_wp2_with (go_at_call 18; refine (rlfit_any HL (Nat.le_refl _)).mono ?_; rintro e w1 ⟨rfl, hb1⟩; rw [hf])
        go_ret3
        exact ToldR.no hr.out (hb.trans (hb1.mono hbs))
theorem rparse_any {w : World} {ao : Option Addr} {n cap : Nat} {W : List Int} (hC : Cts w.heap.size w ao n cap W) (hU : U64s W) :
    Calls Tryd.prog 9 #[.slice ao n cap] w (ToldR w (parseW W)) := by
  have hl := hC.1
  by_cases h0 : n = 0
  · subst h0
    exact rparse_empty W hl
  · have hn : 0 < n := Nat.pos_of_ne_zero h0
    by_cases hg : W.getD 0 0 ≤ 16
    · by_cases hs : 1 + 2 * wcount W ≤ n
      · exact rparse_main hC hU hn hg hs
      · exact rparse_short hC hn (hU 0).1 hg (Nat.lt_of_not_le hs)
    · exact rparse_great hC hn (Int.lt_of_not_ge hg)
end Go.Proofs.YtpagpjidahaaeaaDoor
