/-
  PROVED HERE: codec.Text and codec.Words, whole (contracts over this translation).
-/
import Derived.Test.YtpagpjidahaaeaaDoorCod4
import Derived.Test.YtpagpjidahaaeaaDoorCod11
import Derived.Test.YtpagpjidahaaeaaDoorCod12
import Derived.Test.YtpagpjidahaaeaaDoorLabMath
namespace Go.Proofs.YtpagpjidahaaeaaDoor
open Go.RowKit Go.Shelf
set_option linter.unusedVariables false

def textOf (L : List (Int × Int)) : ByteArray := if fitB L = true then (if L.length = 0 then ⟨#[45]⟩ else joined L) else ⟨#[]⟩
set_option maxRecDepth 100000 in
theorem ctext_any {w : World} {ao : Option Addr} {n cap : Nat} {L : List (Int × Int)} (hL : Lab w.heap.size w ao n cap L) (hU : U64p L) (hv : Vars w) (hn2 : n ≤ 65536) :
    Calls Tryd.prog 16 #[.slice ao n cap] w fun e w' => e = .returned (.string (textOf L)) ∧ Below w.heap.size w w' := by
  have hll := hL.1
  cases hf : fitB L with
  | false =>
    have ht : textOf L = ⟨#[]⟩ := by unfold textOf; rw [hf]; rfl
    rw [ht]
    clear ht
    go_enter Tryd.func16, Tryd.ntmps16
    go_wp2_with (go_at_call 23; refine (lfit_any hL (Nat.le_refl _)).mono ?_; rintro e w1 ⟨rfl, hb1⟩; rw [hf])
    go_ret
    exact ⟨rfl, hb1⟩
  | true =>
    by_cases h0 : n = 0
    · have ht : textOf L = ⟨#[45]⟩ := by unfold textOf; rw [hf, if_pos rfl, if_pos (by omega)]
      rw [ht]
      clear ht
      subst h0
      go_enter Tryd.func16, Tryd.ntmps16
      go_wp2_with (go_at_call 23; refine (lfit_any hL (Nat.le_refl _)).mono ?_; rintro e w1 ⟨rfl, hb1⟩; rw [hf])
      go_ret
      exact ⟨rfl, hb1⟩
    · have ht : textOf L = joined L := by unfold textOf; rw [hf, if_pos rfl, if_neg (by omega)]
      rw [ht]
      exact text_main hL hU hv hf (Nat.pos_of_ne_zero h0) hn2

/-- A label's words. -/
def flatW : List (Int × Int) → List Int
  | [] => []
  | p :: r => p.1 :: p.2 :: flatW r
def wordsOf (L : List (Int × Int)) : List Int := if fitB L = true then (L.length : Int) :: flatW L else []
theorem flatW_append (A C : List (Int × Int)) : flatW (A ++ C) = flatW A ++ flatW C := by
  induction A with
  | nil => rfl
  | cons p r ih => simp [flatW, ih]
theorem flatW_len (A : List (Int × Int)) : (flatW A).length = 2 * A.length := by
  induction A with
  | nil => rfl
  | cons p r ih => simp [flatW, ih]; omega
def wordsK (L : List (Int × Int)) (k : Nat) : List Int := (L.length : Int) :: flatW (L.take k)
theorem wordsK_len {L : List (Int × Int)} {k : Nat} (h : k ≤ L.length) : (wordsK L k).length = 1 + 2 * k := by simp [wordsK, flatW_len]; omega
theorem wordsK_succ {L : List (Int × Int)} {k : Nat} {x y : Int} (h : k < L.length) (e : L.getD k (0, 0) = (x, y)) : wordsK L (k + 1) = wordsK L k ++ [x, y] := by
  have e' : L[k] = (x, y) := by simpa [List.getD_eq_getElem?_getD, List.getElem?_eq_getElem h] using e
  unfold wordsK
  rw [List.take_succ_eq_append_getElem h, e', flatW_append]
  rfl

set_option maxRecDepth 100000 in
theorem words_unfit {w : World} {ao : Option Addr} {n cap : Nat} {L : List (Int × Int)} (hL : Lab w.heap.size w ao n cap L) (hf : fitB L = false) :
    Calls Tryd.prog 11 #[.slice ao n cap] w fun e w' => e = .returned (.slice none 0 0) ∧ Below w.heap.size w w' := by
  go_enter Tryd.func11, Tryd.ntmps11
  go_wp2_with (go_at_call 23; refine (lfit_any hL (Nat.le_refl _)).mono ?_; rintro e w1 ⟨rfl, hb1⟩; rw [hf])
  go_ret
  exact ⟨rfl, hb1⟩

set_option maxRecDepth 100000 in
set_option maxHeartbeats 2000000 in
theorem words_fit {w : World} {ao : Option Addr} {n cap : Nat} {L : List (Int × Int)} (hL : Lab w.heap.size w ao n cap L) (hf : fitB L = true) (hn2 : n ≤ 65536) :
    Calls Tryd.prog 11 #[.slice ao n cap] w fun e w' => ∃ ao1 cap1, e = .returned (.slice ao1 (1 + 2 * n) cap1) ∧ Cts w'.heap.size w' ao1 (1 + 2 * n) cap1 (wordsOf L) ∧ Below w.heap.size w w' := by
  obtain ⟨i0, hi, hz0, hz1, hz2⟩ := info_parts infoU64
  have hll := hL.1
  have hnc := hL.2.1
  have hcm := hL.2.2.1.1
  have HL : Hid (Lab w.heap.size w ao n cap L) := hL
  obtain ⟨m, hm⟩ : ∃ m, 1 + 2 * n = m := ⟨_, rfl⟩
  have hmm : m ≤ 131073 := by omega
  have HM : Hid (1 + 2 * n = m) := hm
  rw [hm]
  clear hm
  go_enter Tryd.func11, Tryd.ntmps11
  go_wp2_with (first | (go_at_call 23; refine (lfit_any hL (Nat.le_refl _)).mono ?_; rintro e w1 ⟨rfl, hb1⟩; rw [hf]) | (go_at_call 22; refine (size_nat n m _ HM.out (by omega)).mono ?_; rintro e w' ⟨rfl, hw⟩; rw [← hw]; clear hw; obtain ⟨w2, hmk, hown0, hgr0⟩ := run_make_own w1 w.heap.size 24 45 i0 (.int .u64 0) 1 Tryd.underlying24 hi hz0 hz1 .i64 .i64 m (by rw [hz2]; omega) (by unfold maxLen; omega) hb1.size; have hb2 : Below w.heap.size w w2 := hb1.grown hgr0 hb1.size (fun k e => by cases e)) | (at_builtin; refine wpList_append_own _ rfl _ _ 24 rfl w.heap.size 45 i0 (.int .u64 0) 1 8 Tryd.underlying24 hi hz0 hz1 hz2 rfl (by decide) _ _ _ rfl (hown0.alloc _) ⟨w2.heap.size, 0, none⟩ 1 1 [.int .u64 (n : Int)] rfl rfl (cell_one_new _ _ _) (by simp [Value.oneCell']) (by unfold maxLen; omega) (by omega) (Nat.le_trans hb2.size (by simp)) ?_; intro v3 w3 hown3 hgrow3 _; obtain ⟨g3, cap3, rfl⟩ := ownsRow_two hown3; have hb3 := app_below hb2 hown0 hgrow3 hb2.size))
  have hlev : Hid (∀ k, k < n → 0 ≤ (L.getD k (0, 0)).2 ∧ (L.getD k (0, 0)).2 ≤ 5) := fun k hk => by
    have h := (fit_iff hf).2 (L.getD k (0, 0)) (by rw [List.getD_eq_getElem?_getD, List.getElem?_eq_getElem (by omega)]; exact List.getElem_mem _)
    exact ⟨h.1, h.2.1⟩
  go_loopw [3, 21] (fun v i wr => ∃ k : Nat, k ≤ n ∧ i = .int .i64 k ∧ wr.ownsRow w.heap.size 45 1 v (1 + 2 * k) ((wordsK L k).map (Value.int .u64)) ∧ Below w.heap.size w wr) (fun _ i _ => n - (intOf i).toNat)
  case atStart => exact ⟨0, Nat.zero_le _, rfl, by simpa [wordsK, flatW, hll] using hown3, hb3⟩
  case round =>
    obtain ⟨k, hk, rfl, hrow, hb⟩ := hrel
    have hbs := hb.size
    by_cases hkn : k < n
    · have hlv := hlev.out k hkn
      obtain ⟨b, off, x, y, rfl, hbB, d0, d1, hxy⟩ := HL.out.at hb hkn
      rw [hxy.out] at hlv
      have hbw : b < wr.heap.size := by omega
      have hkn' : (k : Int) < n := by omega
      have hs : Hid (wordsK L (k + 1) = wordsK L k ++ [x, y]) := wordsK_succ (by omega) hxy.out
      have hwy : IntKind.u64.wrap y = y := by rw [IntKind.wrap_u64]; omega
      have hb9 : Below w.heap.size w (wr.alloc (.cells #[.int .u64 x, .int .i64 y] 47)) := hb.alloc hbs _
      have hrow9 := hrow.alloc (.cells #[.int .u64 x, .int .i64 y] 47)
      have hc2 : ∀ j u, [Value.int .u64 x, .int .u64 y][j]? = some u → ((wr.alloc (.cells #[.int .u64 x, .int .i64 y] 47)).alloc (.cells #[.int .u64 x, .int .u64 y] 45)).cell? ((⟨wr.heap.size + 1, 0, none⟩ : Addr).add j) = some u := by
        have h := cell_two_new (wr.alloc (.cells #[.int .u64 x, .int .i64 y] 47)) (.int .u64 x) (.int .u64 y) 45
        simpa using h
      have HC2 : Hid (∀ j u, [Value.int .u64 x, .int .u64 y][j]? = some u → ((wr.alloc (.cells #[.int .u64 x, .int .i64 y] 47)).alloc (.cells #[.int .u64 x, .int .u64 y] 45)).cell? ((⟨wr.heap.size + 1, 0, none⟩ : Addr).add j) = some u) := hc2
      clear hc2
      go_wp2_with (at_builtin; refine wpList_append_own _ rfl _ _ 24 rfl w.heap.size 45 i0 (.int .u64 0) 1 8 Tryd.underlying24 hi hz0 hz1 hz2 rfl (by decide) _ _ _ rfl (hrow9.alloc _) ⟨wr.heap.size + 1, 0, none⟩ 2 2 [.int .u64 x, .int .u64 y] rfl rfl HC2.out (by simp [Value.oneCell']) (by unfold maxLen; omega) (by omega) (Nat.le_trans hb9.size (by simp)) ?_; intro v4 w4 hown4 hgrow4 _; obtain ⟨g4, cap4, rfl⟩ := ownsRow_two (k := 1 + 2 * k + 1) hown4; have hb4 := app_below hb9 hrow9 hgrow4 hb9.size)
      go_roundw
      case rel => exact ⟨k + 1, by omega, by go_num, by rw [hs.out, List.map_append]; exact hown4, hb4⟩
      case measure => simp [intOf]; omega
    · obtain rfl : k = n := by omega
      have hwk : wordsK L k = wordsOf L := by unfold wordsK wordsOf; rw [hf, if_pos rfl, List.take_of_length_le (by omega)]
      have hwl : (wordsOf L).length = 1 + 2 * k := by rw [← hwk]; exact wordsK_len (by omega)
      rw [hwk, ← hwl] at hrow
      obtain ⟨aoL, capL, rfl, hcts⟩ := Cts.of_row hrow
      rw [hwl, HM.out] at hcts
      have HW : Hid ((wordsOf L).length = m) := hwl.trans HM.out
      clear hwl hwk hrow
      go_wp2
      go_ret
      exact ⟨_, _, by rw [← HW.out]; rfl, hcts, hb⟩
end Go.Proofs.YtpagpjidahaaeaaDoor
