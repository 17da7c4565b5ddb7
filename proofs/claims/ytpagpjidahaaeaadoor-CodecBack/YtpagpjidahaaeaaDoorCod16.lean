/-
  PROVED HERE: the document's own Words of layer 4 (a contract over this translation).
-/
import Derived.Test.YtpagpjidahaaeaaDoorCod13
import Derived.Test.YtpagpjidahaaeaaDoorLabCon2
import Derived.Deep.AppendLies
import Derived.Deep.RegionHeld3
namespace Go.Proofs.YtpagpjidahaaeaaDoor
open Go.RowKit Go.Shelf
set_option linter.unusedVariables false

set_option maxRecDepth 100000 in
theorem rwords_unfit {w : World} {ao : Option Addr} {n cap : Nat} {L : List (Int × Int)} (hL : Lab w.heap.size w ao n cap L) (hf : fitB L = false) :
    Calls Tryd.prog 12 #[.slice ao n cap] w fun e w' => e = .returned (.slice none 0 0) ∧ Below w.heap.size w w' := by
  go_enter Tryd.func12, Tryd.ntmps12
  go_wp2_with (go_at_call 18; refine (rlfit_any hL (Nat.le_refl _)).mono ?_; rintro e w1 ⟨rfl, hb1⟩; rw [hf])
  go_ret
  exact ⟨rfl, hb1⟩

set_option maxRecDepth 100000 in
set_option maxHeartbeats 4000000 in
theorem rwords_fit {w : World} {ao : Option Addr} {n cap : Nat} {L : List (Int × Int)} (hL : Lab w.heap.size w ao n cap L) (hf : fitB L = true) (hn2 : n ≤ 65536) :
    Calls Tryd.prog 12 #[.slice ao n cap] w fun e w' => ∃ ao1 cap1, e = .returned (.slice ao1 (1 + 2 * n) cap1) ∧ Cts w'.heap.size w' ao1 (1 + 2 * n) cap1 (wordsOf L) ∧ Below w.heap.size w w' := by
  obtain ⟨i0, hi, hz0, hz1, hz2⟩ := info_parts infoU64
  have hll := hL.1
  have hnc := hL.2.1
  have hcm := hL.2.2.1.1
  have HL : Hid (Lab w.heap.size w ao n cap L) := hL
  obtain ⟨m, hm⟩ : ∃ m, 1 + 2 * n = m := ⟨_, rfl⟩
  have HM : Hid (1 + 2 * n = m) := hm
  rw [hm]
  clear hm
  have hlev : Hid (∀ k, k < n → 0 ≤ (L.getD k (0, 0)).2 ∧ (L.getD k (0, 0)).2 ≤ 5) := fun k hk => by
    have h := (fit_iff hf).2 (L.getD k (0, 0)) (by rw [List.getD_eq_getElem?_getD, List.getElem?_eq_getElem (by omega)]; exact List.getElem_mem _)
    exact ⟨h.1, h.2.1⟩
  go_enter Tryd.func12, Tryd.ntmps12
  go_wp2_with (first | (go_at_call 18; refine (rlfit_any hL (Nat.le_refl _)).mono ?_; rintro e w1 ⟨rfl, hb1⟩; rw [hf]; have hown0 := World.ownsRow_nil w1 w.heap.size 45 1) | (at_builtin; refine wpList_append_own _ rfl _ _ 24 rfl w.heap.size 45 i0 (.int .u64 0) 1 8 Tryd.underlying24 hi hz0 hz1 hz2 rfl (by decide) _ _ _ rfl (hown0.alloc _) ⟨w1.heap.size, 0, none⟩ 1 1 [.int .u64 (n : Int)] rfl rfl (cell_one_new _ _ _) (by simp [Value.oneCell']) (by unfold maxLen; omega) (by omega) (Nat.le_trans hb1.size (by simp)) ?_; intro v3 w3 hown3 hgrow3 _; obtain ⟨g3, cap3, rfl⟩ := ownsRow_two hown3; have hb3 := app_below hb1 hown0 hgrow3 hb1.size))
  go_loopw [3, 4] (fun v i wr => ∃ k : Nat, k ≤ n ∧ i = .int .i64 k ∧ wr.ownsRow w.heap.size 45 1 v (1 + 2 * k) ((wordsK L k).map (Value.int .u64)) ∧ Below w.heap.size w wr) (fun _ i _ => n - (intOf i).toNat)
  case atStart => exact ⟨0, Nat.zero_le _, rfl, by simpa [wordsK, flatW, hll] using hown3, hb3⟩
  case round =>
    obtain ⟨k, hk, rfl, hrow, hb⟩ := hrel
    have hbs := hb.size
    by_cases hkn : k < n
    · have hlv := hlev.out k hkn
      obtain ⟨b, off, x, y, rfl, hbB, d0, d1, hxy⟩ := HL.out.at hb hkn
      rw [hxy.out] at hlv
      have hbw : b < wr.heap.size := by omega
      have hkn' : (k : Int) < n := by omega
      have hs : Hid (wordsK L (k + 1) = wordsK L k ++ [x, y]) := wordsK_succ (by omega) hxy.out
      have hwy : IntKind.u64.wrap y = y := by rw [IntKind.wrap_u64]; omega
      go_wp2
      go_region_held3 (fun w' => w'.cell? ⟨b, off + k * 2, none⟩ = some (.int .u64 x) ∧ w'.cell? ⟨b, off + k * 2 + 1, none⟩ = some (.int .i64 y)) (go_keep) (first | (refine step_append_lies _ rfl _ _ 24 rfl w.heap.size 45 i0 (.int .u64 0) 1 8 Tryd.underlying24 hi hz0 hz1 hz2 rfl (by decide) _ _ _ rfl (hrow.drew.alloc _) ⟨wr.heap.size, 0, none⟩ 2 2 [.int .u64 x, .int .u64 y] rfl rfl (cell_two_new wr.drew _ _ _) (by simp [Value.oneCell']) (by omega) (by unfold maxLen; omega) (by omega) (Nat.le_trans hbs (by simp)) _ rfl ?_; intro g1 cp1 w1 hown1 hgrow1 hat hlt1; have hb1 := app_below hb.drew hrow.drew hgrow1 hbs; have e0 := (hb1.cell (p := ⟨b, off + k * 2, none⟩) hbB).trans ((hb.cell (p := ⟨b, off + k * 2, none⟩) hbB).symm.trans d0); have e1 := (hb1.cell (p := ⟨b, off + k * 2 + 1, none⟩) hbB).trans ((hb.cell (p := ⟨b, off + k * 2 + 1, none⟩) hbB).symm.trans d1)))
      go_wp2
      go_roundw
      case rel => exact ⟨k + 1, by omega, by go_num, by rw [hs.out, List.map_append]; exact hown1, hb1⟩
      case measure => simp [intOf]; omega
    · obtain rfl : k = n := by omega
      have hwk : wordsK L k = wordsOf L := by unfold wordsK wordsOf; rw [hf, if_pos rfl, List.take_of_length_le (by omega)]
      have hwl : (wordsOf L).length = 1 + 2 * k := by rw [← hwk]; exact wordsK_len (by omega)
      rw [hwk, ← hwl] at hrow
      obtain ⟨aoL, capL, rfl, hcts⟩ := Cts.of_row hrow
      rw [hwl, HM.out] at hcts
      have HW : Hid ((wordsOf L).length = m) := hwl.trans HM.out
      clear hwl hwk hrow
      go_wp2
      go_ret
      exact ⟨_, _, by rw [← HW.out]; rfl, hcts, hb⟩
end Go.Proofs.YtpagpjidahaaeaaDoor
