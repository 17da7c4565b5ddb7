/-
  PROVED HERE: what the statements' own helpers of layer 3 (fit, owns, above, awake) return when they are called (contracts over this translation). Rows have fewer than 100 labels.
-/
import Derived.Test.YtkhnlgbebbhmbaaChk5
import Derived.Test.YtkhnlgbebbhmbaaChk8
import Derived.Test.YtkhnlgbebbhmbaaLabMath3
import Derived.Test.YtkhnlgbebbhmbaaLabRef2
namespace Go.Proofs.Ytkhnlgbebbhmbaa
open Go.ChangeShapes Go.WideShapes Go.ChangeAt Go.RowKit
set_option linter.unusedVariables false

def okL (x : Option Addr × Nat × Nat × List (Int × Int)) : Bool := decide (x.2.1 ≤ 30) && fitB x.2.2.2
def okB (ls : List (Option Addr × Nat × Nat × List (Int × Int))) : Bool := ls.all okL
theorem okB_no {ls : List (Option Addr × Nat × Nat × List (Int × Int))} {k : Nat} (h : k < ls.length) (e : okL (ls.getD k (none, 0, 0, [])) = false) : okB ls = false := by
  unfold okB
  rw [List.all_eq_false]
  have e' : ls.getD k (none, 0, 0, []) = ls[k] := by simp [List.getD_eq_getElem?_getD, List.getElem?_eq_getElem h]
  exact ⟨ls[k], List.getElem_mem h, by rw [← e', e]; simp⟩
theorem okB_yes {ls : List (Option Addr × Nat × Nat × List (Int × Int))} (h : ∀ k, k < ls.length → okL (ls.getD k (none, 0, 0, [])) = true) : okB ls = true := by
  unfold okB
  rw [List.all_eq_true]
  intro x hx
  obtain ⟨k, hk, rfl⟩ := List.getElem_of_mem hx
  have := h k hk
  simpa [List.getD_eq_getElem?_getD, List.getElem?_eq_getElem hk] using this
theorem okB_get {ls : List (Option Addr × Nat × Nat × List (Int × Int))} (h : okB ls = true) {ao : Option Addr} {n cap : Nat} {L : List (Int × Int)} (hm : (ao, n, cap, L) ∈ ls) : n ≤ 30 ∧ Fit L := by
  unfold okB at h
  rw [List.all_eq_true] at h
  have := h _ hm
  simp only [okL, Bool.and_eq_true, decide_eq_true_eq] at this
  exact ⟨this.1, fit_iff this.2⟩

set_option maxHeartbeats 2000000 in
theorem fits_any {w : World} {b m : Nat} {ls : List (Option Addr × Nat × Nat × List (Int × Int))} (hm : ls.length = m) (hmm : m < 100) (hR : LRow w b ls) :
    Calls Try.prog 9 #[.slice (some ⟨b, 0, none⟩) m m] w fun e w' => e = .returned (.bool (okB ls)) ∧ Below w.heap.size w w' := by
  go_enter Try.func9, Try.ntmps9
  go_wp2
  go_loopw [7] (fun i wr => ∃ k : Nat, k ≤ m ∧ i = .int .i64 k ∧ (∀ j, j < k → okL (ls.getD j (none, 0, 0, [])) = true) ∧ Below w.heap.size w wr) (fun i _ => m - (intOf i).toNat)
  case atStart => exact ⟨0, Nat.zero_le _, rfl, fun j hj => absurd hj (by omega), Below.refl _ _⟩
  case round =>
    obtain ⟨k, hk, rfl, hg, hb⟩ := hrel
    have hG : Hid (∀ j, j < k → okL (ls.getD j (none, 0, 0, [])) = true) := hg
    clear hg
    have hbs := hb.size
    by_cases hkm : k < m
    · obtain ⟨ao, n, cap, L, d0, hL, e0⟩ := (hR.next hb).at (i := k) (by omega)
      clear hR
      by_cases hn : 30 < n
      · have hr : Hid (okB ls = false) := okB_no (k := k) (by omega) (by rw [e0.out]; simp [okL]; omega)
        clear hL
        go_wp2
        go_ret
        exact ⟨by rw [hr.out]; rfl, hb⟩
      · cases hq : fitB L with
        | false =>
          have hr : Hid (okB ls = false) := okB_no (k := k) (by omega) (by rw [e0.out]; simp [okL, hq])
          go_wp2_with (go_at_call 39; refine (rlfit_any hL (Nat.le_refl _)).mono ?_; rintro e w1 ⟨rfl, hb1⟩; rw [hq])
          go_ret
          exact ⟨by rw [hr.out]; rfl, hb.trans (hb1.mono hbs)⟩
        | true =>
          have hG' : Hid (∀ j, j < k + 1 → okL (ls.getD j (none, 0, 0, [])) = true) := by
            intro j hj
            rcases Nat.lt_or_ge j k with h | h
            · exact hG.out j h
            · have : j = k := by omega
              rw [this, e0.out]; simp [okL, hq]; omega
          go_wp2_with (go_at_call 39; refine (rlfit_any hL (Nat.le_refl _)).mono ?_; rintro e w1 ⟨rfl, hb1⟩; rw [hq])
          go_roundw
          case rel => exact ⟨k + 1, by omega, by go_num, hG'.out, hb.trans (hb1.mono hbs)⟩
          case measure => simp [intOf]; omega
    · have hr : Hid (okB ls = true) := okB_yes (fun j hj => hG.out j (by omega))
      clear hR
      go_wp2
      go_ret
      exact ⟨by rw [hr.out]; rfl, hb⟩
theorem fitRow (w : World) (ls : List (Option Addr × Nat × Nat × List (Int × Int))) (hm : ls.length < 100) (h : Labs w ls) :
    Calls Try.prog 9 #[.slice (some ⟨w.heap.size, 0, none⟩) ls.length ls.length] (w.alloc (.cells (ls.map fun x => Value.slice x.1 x.2.1 x.2.2.1).toArray 23)) fun e w' => e = .returned (.bool (okB ls)) ∧ Below w.heap.size w w' := by
  refine (fits_any rfl hm (lrow_new ls h)).mono ?_
  rintro e w' ⟨rfl, hb⟩
  exact ⟨rfl, below_new _ _ hb⟩

set_option maxHeartbeats 2000000 in
theorem above_any {w : World} {ao : Option Addr} {n cap : Nat} {L : List (Int × Int)} (hL : Lab w.heap.size w ao n cap L) :
    Calls Try.prog 33 #[.slice ao n cap] w fun e w' => e = .returned (.bool (abvB L)) ∧ Below w.heap.size w w' := by
  have hn := hL.1
  have hnc := hL.2.1
  have hcm := hL.2.2.1.1
  go_enter Try.func33, Try.ntmps33
  go_wp2
  go_loopw [7] (fun i wr => ∃ k : Nat, k ≤ n ∧ i = .int .i64 k ∧ (∀ j, j < k → (L.getD j (0, 0)).2 ≠ 5) ∧ Below w.heap.size w wr) (fun i _ => n - (intOf i).toNat)
  case atStart => exact ⟨0, Nat.zero_le _, rfl, fun j hj => absurd hj (by omega), Below.refl _ _⟩
  case round =>
    obtain ⟨k, hk, rfl, hg, hb⟩ := hrel
    have hG : Hid (∀ j, j < k → (L.getD j (0, 0)).2 ≠ 5) := hg
    clear hg
    have hbs := hb.size
    by_cases hkn : k < n
    · obtain ⟨b, off, x, y, rfl, hbB, d0, d1, hxy⟩ := hL.at hb hkn
      by_cases hy : y = 5
      · have hr : Hid (abvB L = true) := abvB_hit (by omega) hxy.out hy
        subst hy
        clear hL
        go_wp2
        go_ret
        exact ⟨by rw [hr.out]; rfl, hb.alloc hbs _⟩
      · have hy' : (y == 5) = false := by simpa using hy
        clear hL
        go_wp2
        go_roundw
        case rel => exact ⟨k + 1, by omega, by go_num, abv_succ hG.out hxy.out hy, hb.alloc hbs _⟩
        case measure => simp [intOf]; omega
    · have hr : Hid (abvB L = false) := abvB_no (fun j hj => hG.out j (by omega))
      clear hL
      go_wp2
      go_ret
      exact ⟨by rw [hr.out]; rfl, hb⟩

set_option maxHeartbeats 2000000 in
theorem plain_any {w : World} {ao : Option Addr} {n cap : Nat} {L : List (Int × Int)} (hL : Lab w.heap.size w ao n cap L) :
    Calls Try.prog 47 #[.slice ao n cap] w fun e w' => e = .returned (.bool (!abvB L)) ∧ w' = w := by
  have hn := hL.1
  have hnc := hL.2.1
  have hcm := hL.2.2.1.1
  go_enter Try.func47, Try.ntmps47
  go_wp2
  go_loop [3] (fun i => ∃ k : Nat, k ≤ n ∧ i = .int .i64 k ∧ (∀ j, j < k → (L.getD j (0, 0)).2 ≠ 5)) (fun i => n - (intOf i).toNat)
  case atStart => exact ⟨0, Nat.zero_le _, rfl, fun j hj => absurd hj (by omega)⟩
  case round =>
    obtain ⟨k, hk, rfl, hg⟩ := hrel
    have hG : Hid (∀ j, j < k → (L.getD j (0, 0)).2 ≠ 5) := hg
    clear hg
    by_cases hkn : k < n
    · obtain ⟨b, off, x, y, rfl, hbB, d0, d1, hxy⟩ := hL.at (Below.refl _ _) hkn
      by_cases hy : y = 5
      · have hr : Hid ((!abvB L) = false) := by show (!abvB L) = false; rw [abvB_hit (by omega) hxy.out hy]; rfl
        subst hy
        clear hL
        go_wp2
        go_ret
        exact ⟨by rw [hr.out]; rfl, rfl⟩
      · have hy' : (y == 5) = false := by simpa using hy
        clear hL
        go_wp2
        go_round
        case rel => exact ⟨k + 1, by omega, by go_num, abv_succ hG.out hxy.out hy⟩
        case measure => simp [intOf]; omega
    · have hr : Hid ((!abvB L) = true) := by show (!abvB L) = true; rw [abvB_no (fun j hj => hG.out j (by omega))]; rfl
      clear hL
      go_wp2
      go_ret
      exact ⟨by rw [hr.out]; rfl, rfl⟩

/-- Does one of two labels own each of some categories? -/
def ownsB (A B : List (Int × Int)) (C : List Int) : Bool := C.all fun c => decide (get A c = 0) || decide (get B c = 0)
theorem ownsB_no {A B : List (Int × Int)} {C : List Int} {k : Nat} {c : Int} (h : k < C.length) (e : C.getD k 0 = c) (hA : get A c ≠ 0) (hB : get B c ≠ 0) : ownsB A B C = false := by
  unfold ownsB
  rw [List.all_eq_false]
  have e' : C[k] = c := by simpa [List.getD_eq_getElem?_getD, List.getElem?_eq_getElem h] using e
  exact ⟨C[k], List.getElem_mem h, by rw [e']; simp [hA, hB]⟩
theorem ownsB_yes {A B : List (Int × Int)} {C : List Int} (h : ∀ k, k < C.length → get A (C.getD k 0) = 0 ∨ get B (C.getD k 0) = 0) : ownsB A B C = true := by
  unfold ownsB
  rw [List.all_eq_true]
  intro x hx
  obtain ⟨k, hk, rfl⟩ := List.getElem_of_mem hx
  have := h k hk
  simpa [List.getD_eq_getElem?_getD, List.getElem?_eq_getElem hk] using this
theorem Cts.at {w : World} {ao : Option Addr} {n cap : Nat} {C : List Int} {B : Nat} (h : Cts B w ao n cap C) {i : Nat} (hi : i < n) :
    ∃ (b off : Nat) (x : Int), ao = some ⟨b, off, none⟩ ∧ b < B ∧ w.cell? ⟨b, off + i, none⟩ = some (.int .u64 x) ∧ Hid (C.getD i 0 = x) := by
  obtain ⟨h1, h2, h3, h4⟩ := h
  obtain ⟨b, off, e, hb, hc⟩ := h4 (by omega)
  exact ⟨b, off, _, e, hb, hc i hi, rfl⟩
set_option maxHeartbeats 2000000 in
theorem owns_any {w : World} {a1 a2 a3 : Option Addr} {n1 n2 n3 c1 c2 c3 : Nat} {A B : List (Int × Int)} {C : List Int} (hA : Lab w.heap.size w a1 n1 c1 A) (hB : Lab w.heap.size w a2 n2 c2 B) (hC : Cts w.heap.size w a3 n3 c3 C) :
    Calls Try.prog 32 #[.slice a1 n1 c1, .slice a2 n2 c2, .slice a3 n3 c3] w fun e w' => e = .returned (.bool (ownsB A B C)) ∧ w' = w := by
  have hn := hC.1
  have hnc := hC.2.1
  have hcm := hC.2.2.1
  have hBn := hB.1
  go_enter Try.func32, Try.ntmps32
  go_wp2
  go_loop [11] (fun i => ∃ k : Nat, k ≤ n3 ∧ i = .int .i64 k ∧ (∀ j, j < k → get A (C.getD j 0) = 0 ∨ get B (C.getD j 0) = 0)) (fun i => n3 - (intOf i).toNat)
  case atStart => exact ⟨0, Nat.zero_le _, rfl, fun j hj => absurd hj (by omega)⟩
  case round =>
    obtain ⟨k, hk, rfl, hg⟩ := hrel
    have hG : Hid (∀ j, j < k → get A (C.getD j 0) = 0 ∨ get B (C.getD j 0) = 0) := hg
    clear hg
    by_cases hkn : k < n3
    · obtain ⟨b, off, x, rfl, hbB, d0, hx⟩ := hC.at hkn
      by_cases ha : get A x = 0
      · have hG' : Hid (∀ j, j < k + 1 → get A (C.getD j 0) = 0 ∨ get B (C.getD j 0) = 0) := by
          intro j hj
          rcases Nat.lt_or_ge j k with h | h
          · exact hG.out j h
          · have : j = k := by omega
            rw [this, hx.out]; exact .inl ha
        clear hC
        go_wp2_with (go_at_call 35; refine (rget_any _ hA).mono ?_; rintro e w1 ⟨rfl, rfl⟩; rw [ha])
        go_round
        case rel => exact ⟨k + 1, by omega, by go_num, hG'.out⟩
        case measure => simp [intOf]; omega
      · have ha' : (get A x == 0) = false := by simpa using ha
        by_cases hz : n2 = 0
        · have hBe : B = [] := by cases B with | nil => rfl | cons p r => simp at hBn; omega
          have hr : Hid (ownsB A B C = false) := ownsB_no (k := k) (by omega) hx.out ha (by rw [hBe]; simp [get])
          subst hz
          clear hC
          go_wp2_with (go_at_call 35; refine (rget_any _ hA).mono ?_; rintro e w1 ⟨rfl, rfl⟩)
          go_ret
          exact ⟨by rw [hr.out]; rfl, rfl⟩
        · have hz' : ((n2 : Int) == 0) = false := by rw [beq_eq_false_iff_ne]; omega
          by_cases hb : get B x = 0
          · have hG' : Hid (∀ j, j < k + 1 → get A (C.getD j 0) = 0 ∨ get B (C.getD j 0) = 0) := by
              intro j hj
              rcases Nat.lt_or_ge j k with h | h
              · exact hG.out j h
              · have : j = k := by omega
                rw [this, hx.out]; exact .inr hb
            clear hC
            go_wp2_with (first | (go_at_call 35; refine (rget_any _ hA).mono ?_; clear hA; rintro e w1 ⟨rfl, rfl⟩) | (go_at_call 35; refine (rget_any _ hB).mono ?_; rintro e w1 ⟨rfl, rfl⟩; rw [hb]))
            go_round
            case rel => exact ⟨k + 1, by omega, by go_num, hG'.out⟩
            case measure => simp [intOf]; omega
          · have hb' : (get B x == 0) = false := by simpa using hb
            have ha2 : (get A x != 0) = true := by simpa using ha
            have hb2 : (get B x != 0) = true := by simpa using hb
            have hr : Hid (ownsB A B C = false) := ownsB_no (k := k) (by omega) hx.out ha hb
            clear hC
            go_wp2_with (first | (go_at_call 35; refine (rget_any _ hA).mono ?_; clear hA; rintro e w1 ⟨rfl, rfl⟩) | (go_at_call 35; refine (rget_any _ hB).mono ?_; rintro e w1 ⟨rfl, rfl⟩))
            go_ret
            exact ⟨by rw [hr.out]; rfl, rfl⟩
    · have hr : Hid (ownsB A B C = true) := ownsB_yes (fun j hj => hG.out j (by omega))
      clear hC
      go_wp2
      go_ret
      exact ⟨by rw [hr.out]; rfl, rfl⟩
end Go.Proofs.Ytkhnlgbebbhmbaa
