/-
  PROVED HERE: what the statements' own helpers of layer 3 (fit, owns, above, awake) return when they are called (contracts over this translation). Rows have fewer than 100 labels.
-/
import Derived.Test.YtkhnlgbebbhmbabChk5
import Derived.Test.YtkhnlgbebbhmbabChk8
import Derived.Test.YtkhnlgbebbhmbabLabMath3
import Derived.Test.YtkhnlgbebbhmbabLabRef2
namespace Go.Proofs.Ytkhnlgbebbhmbab
open Go.ChangeShapes Go.WideShapes Go.ChangeAt Go.RowKit
set_option linter.unusedVariables false

def okL (x : Option Addr × Nat × Nat × List (Int × Int)) : Bool := decide (x.2.1 ≤ 30) && fitB x.2.2.2
def okB (ls : List (Option Addr × Nat × Nat × List (Int × Int))) : Bool := ls.all okL
theorem okB_no {ls : List (Option Addr × Nat × Nat × List (Int × Int))} {k : Nat} (h : k < ls.length) (e : okL (ls.getD k (none, 0, 0, [])) = false) : okB ls = false := by
  unfold okB
  rw [List.all_eq_false]
  have e' : ls.getD k (none, 0, 0, []) = ls[k] := by simp [List.getD_eq_getElem?_getD, List.getElem?_eq_getElem h]
  exact ⟨ls[k], List.getElem_mem h, by rw [← e', e]; simp⟩
theorem okB_yes {ls : List (Option Addr × Nat × Nat × List (Int × Int))} (h : ∀ k, k < ls.length → okL (ls.getD k (none, 0, 0, [])) = true) : okB ls = true := by
  unfold okB
  rw [List.all_eq_true]
  intro x hx
  obtain ⟨k, hk, rfl⟩ := List.getElem_of_mem hx
  have := h k hk
  simpa [List.getD_eq_getElem?_getD, List.getElem?_eq_getElem hk] using this
theorem okB_get {ls : List (Option Addr × Nat × Nat × List (Int × Int))} (h : okB ls = true) {ao : Option Addr} {n cap : Nat} {L : List (Int × Int)} (hm : (ao, n, cap, L) ∈ ls) : n ≤ 30 ∧ Fit L := by
  unfold okB at h
  rw [List.all_eq_true] at h
  have := h _ hm
  simp only [okL, Bool.and_eq_true, decide_eq_true_eq] at this
  exact ⟨this.1, fit_iff this.2⟩

set_option maxHeartbeats 2000000 in
theorem fits_any {w : World} {b m : Nat} {ls : List (Option Addr × Nat × Nat × List (Int × Int))} (hm : ls.length = m) (hmm : m < 100) (hR : LRow w b ls) :
    Calls Try.prog 4 #[.slice (some ⟨b, 0, none⟩) m m] w fun e w' => e = .returned (.bool (okB ls)) ∧ Below w.heap.size w w' := by
  go_enter Try.func4, Try.ntmps4
  go_wp2
  go_loopw [7] (fun i wr => ∃ k : Nat, k ≤ m ∧ i = .int .i64 k ∧ (∀ j, j < k → okL (ls.getD j (none, 0, 0, [])) = true) ∧ Below w.heap.size w wr) (fun i _ => m - (intOf i).toNat)
  case atStart => exact ⟨0, Nat.zero_le _, rfl, fun j hj => absurd hj (by omega), Below.refl _ _⟩
  case round =>
    obtain ⟨k, hk, rfl, hg, hb⟩ := hrel
    have hG : Hid (∀ j, j < k → okL (ls.getD j (none, 0, 0, [])) = true) := hg
    clear hg
    have hbs := hb.size
    by_cases hkm : k < m
    · obtain ⟨ao, n, cap, L, d0, hL, e0⟩ := (hR.next hb).at (i := k) (by omega)
      clear hR
      by_cases hn : 30 < n
      · have hr : Hid (okB ls = false) := okB_no (k := k) (by omega) (by rw [e0.out]; simp [okL]; omega)
        clear hL
        go_wp2
        go_ret
        exact ⟨by rw [hr.out]; rfl, hb⟩
      · cases hq : fitB L with
        | false =>
          have hr : Hid (okB ls = false) := okB_no (k := k) (by omega) (by rw [e0.out]; simp [okL, hq])
          go_wp2_with (go_at_call 10; refine (rlfit_any hL (Nat.le_refl _)).mono ?_; rintro e w1 ⟨rfl, hb1⟩; rw [hq])
          go_ret
          exact ⟨by rw [hr.out]; rfl, hb.trans (hb1.mono hbs)⟩
        | true =>
          have hG' : Hid (∀ j, j < k + 1 → okL (ls.getD j (none, 0, 0, [])) = true) := by
            intro j hj
            rcases Nat.lt_or_ge j k with h | h
            · exact hG.out j h
            · have : j = k := by omega
              rw [this, e0.out]; simp [okL, hq]; omega
          go_wp2_with (go_at_call 10; refine (rlfit_any hL (Nat.le_refl _)).mono ?_; rintro e w1 ⟨rfl, hb1⟩; rw [hq])
          go_roundw
          case rel => exact ⟨k + 1, by omega, by go_num, hG'.out, hb.trans (hb1.mono hbs)⟩
          case measure => simp [intOf]; omega
    · have hr : Hid (okB ls = true) := okB_yes (fun j hj => hG.out j (by omega))
      clear hR
      go_wp2
      go_ret
      exact ⟨by rw [hr.out]; rfl, hb⟩
theorem fitRow (w : World) (ls : List (Option Addr × Nat × Nat × List (Int × Int))) (hm : ls.length < 100) (h : Labs w ls) :
    Calls Try.prog 4 #[.slice (some ⟨w.heap.size, 0, none⟩) ls.length ls.length] (w.alloc (.cells (ls.map fun x => Value.slice x.1 x.2.1 x.2.2.1).toArray 23)) fun e w' => e = .returned (.bool (okB ls)) ∧ Below w.heap.size w w' := by
  refine (fits_any rfl hm (lrow_new ls h)).mono ?_
  rintro e w' ⟨rfl, hb⟩
  exact ⟨rfl, below_new _ _ hb⟩

set_option maxHeartbeats 2000000 in
theorem above_any {w : World} {ao : Option Addr} {n cap : Nat} {L : List (Int × Int)} (hL : Lab w.heap.size w ao n cap L) :
    Calls Try.prog 8 #[.slice ao n cap] w fun e w' => e = .returned (.bool (abvB L)) ∧ Below w.heap.size w w' := by
  have hn := hL.1
  have hnc := hL.2.1
  have hcm := hL.2.2.1.1
  go_enter Try.func8, Try.ntmps8
  go_wp2
  go_loopw [7] (fun i wr => ∃ k : Nat, k ≤ n ∧ i = .int .i64 k ∧ (∀ j, j < k → (L.getD j (0, 0)).2 ≠ 5) ∧ Below w.heap.size w wr) (fun i _ => n - (intOf i).toNat)
  case atStart => exact ⟨0, Nat.zero_le _, rfl, fun j hj => absurd hj (by omega), Below.refl _ _⟩
  case round =>
    obtain ⟨k, hk, rfl, hg, hb⟩ := hrel
    have hG : Hid (∀ j, j < k → (L.getD j (0, 0)).2 ≠ 5) := hg
    clear hg
    have hbs := hb.size
    by_cases hkn : k < n
    · obtain ⟨b, off, x, y, rfl, hbB, d0, d1, hxy⟩ := hL.at hb hkn
      by_cases hy : y = 5
      · have hr : Hid (abvB L = true) := abvB_hit (by omega) hxy.out hy
        subst hy
        clear hL
        go_wp2
        go_ret
        exact ⟨by rw [hr.out]; rfl, hb.alloc hbs _⟩
      · have hy' : (y == 5) = false := by simpa using hy
        clear hL
        go_wp2
        go_roundw
        case rel => exact ⟨k + 1, by omega, by go_num, abv_succ hG.out hxy.out hy, hb.alloc hbs _⟩
        case measure => simp [intOf]; omega
    · have hr : Hid (abvB L = false) := abvB_no (fun j hj => hG.out j (by omega))
      clear hL
      go_wp2
      go_ret
      exact ⟨by rw [hr.out]; rfl, hb⟩


/-- Does one of two labels own each of some categories? -/
def ownsB (A B : List (Int × Int)) (C : List Int) : Bool := C.all fun c => decide (get A c = 0) || decide (get B c = 0)
theorem ownsB_no {A B : List (Int × Int)} {C : List Int} {k : Nat} {c : Int} (h : k < C.length) (e : C.getD k 0 = c) (hA : get A c ≠ 0) (hB : get B c ≠ 0) : ownsB A B C = false := by
  unfold ownsB
  rw [List.all_eq_false]
  have e' : C[k] = c := by simpa [List.getD_eq_getElem?_getD, List.getElem?_eq_getElem h] using e
  exact ⟨C[k], List.getElem_mem h, by rw [e']; simp [hA, hB]⟩
theorem ownsB_yes {A B : List (Int × Int)} {C : List Int} (h : ∀ k, k < C.length → get A (C.getD k 0) = 0 ∨ get B (C.getD k 0) = 0) : ownsB A B C = true := by
  unfold ownsB
  rw [List.all_eq_true]
  intro x hx
  obtain ⟨k, hk, rfl⟩ := List.getElem_of_mem hx
  have := h k hk
  simpa [List.getD_eq_getElem?_getD, List.getElem?_eq_getElem hk] using this
theorem Cts.at {w : World} {ao : Option Addr} {n cap : Nat} {C : List Int} {B : Nat} (h : Cts B w ao n cap C) {i : Nat} (hi : i < n) :
    ∃ (b off : Nat) (x : Int), ao = some ⟨b, off, none⟩ ∧ b < B ∧ w.cell? ⟨b, off + i, none⟩ = some (.int .u64 x) ∧ Hid (C.getD i 0 = x) := by
  obtain ⟨h1, h2, h3, h4⟩ := h
  obtain ⟨b, off, e, hb, hc⟩ := h4 (by omega)
  exact ⟨b, off, _, e, hb, hc i hi, rfl⟩
end Go.Proofs.Ytkhnlgbebbhmbab
