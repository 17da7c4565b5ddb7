/-
  PROVED HERE: what check's question 'is nothing above all' answers when it is asked (contracts over this translation). A row of labels has fewer than 100 of them.
-/
import Derived.Test.YtkhnlgbebbhmbaaChk1
namespace Go.Proofs.Ytkhnlgbebbhmbaa
open Go.ChangeShapes Go.WideShapes Go.ChangeAt Go.RowKit
set_option linter.unusedVariables false

def abvB (L : List (Int × Int)) : Bool := L.any fun p => decide (p.2 = 5)
theorem abvB_hit {L : List (Int × Int)} {k : Nat} {x y : Int} (h : k < L.length) (e : L.getD k (0, 0) = (x, y)) (hy : y = 5) : abvB L = true := by
  have e' : L[k] = (x, y) := by simpa [List.getD_eq_getElem?_getD, List.getElem?_eq_getElem h] using e
  unfold abvB
  rw [List.any_eq_true]
  exact ⟨L[k], List.getElem_mem h, by rw [e']; simp [hy]⟩
theorem abvB_no {L : List (Int × Int)} (h : ∀ k, k < L.length → (L.getD k (0, 0)).2 ≠ 5) : abvB L = false := by
  unfold abvB
  rw [List.any_eq_false]
  intro p hp
  obtain ⟨k, hk, rfl⟩ := List.getElem_of_mem hp
  have := h k hk
  rw [List.getD_eq_getElem?_getD, List.getElem?_eq_getElem hk] at this
  simpa using this
theorem abv_succ {L : List (Int × Int)} {k : Nat} {x y : Int} (g : ∀ j, j < k → (L.getD j (0, 0)).2 ≠ 5) (e : L.getD k (0, 0) = (x, y)) (hy : y ≠ 5) : ∀ j, j < k + 1 → (L.getD j (0, 0)).2 ≠ 5 := fun j hj => by
  rcases Nat.lt_or_ge j k with h | h
  · exact g j h
  · have : j = k := by omega
    rw [this, e]; exact hy

theorem na1_any (c v : Int) (w : World) : Calls Try.prog 66 #[.agg #[.int .u64 c, .int .i64 v]] w fun e w' => e = .returned (.bool (v == 5)) ∧ Below w.heap.size w w' := by
  have hB := (Below.refl w.heap.size w).alloc (Nat.le_refl _) (.cells #[.int .u64 c, .int .i64 v] 43)
  go_enter Try.func66, Try.ntmps66
  go_wp2
  go_ret
  exact ⟨rfl, hB⟩

set_option maxHeartbeats 2000000 in
theorem idx2_any {w : World} {ao : Option Addr} {n cap : Nat} {L : List (Int × Int)} (hL : Lab w.heap.size w ao n cap L) :
    Calls Try.prog 84 #[.slice ao n cap, .func (.func 66) #[] #[]] w fun e w' => ∃ r : Int, e = .returned (.int .i64 r) ∧ (abvB L = true → 0 ≤ r) ∧ (abvB L = false → r = -1) ∧ Below w.heap.size w w' := by
  have hn := hL.1
  have hnc := hL.2.1
  have hcm := hL.2.2.1.1
  go_enter Try.func84, Try.ntmps84
  go_wp2
  go_loopw [8] (fun i wr => ∃ k : Nat, k ≤ n ∧ i = .int .i64 k ∧ (∀ j, j < k → (L.getD j (0, 0)).2 ≠ 5) ∧ Below w.heap.size w wr) (fun i _ => n - (intOf i).toNat)
  case atStart => exact ⟨0, Nat.zero_le _, rfl, fun j hj => absurd hj (by omega), Below.refl _ _⟩
  case round =>
    obtain ⟨k, hk, rfl, hg, hb⟩ := hrel
    have hG : Hid (∀ j, j < k → (L.getD j (0, 0)).2 ≠ 5) := hg
    clear hg
    have hbs := hb.size
    by_cases hkn : k < n
    · obtain ⟨b, off, x, y, rfl, hbB, d0, d1, hxy⟩ := hL.at hb hkn
      by_cases hy : y = 5
      · have hr : Hid (abvB L = true) := abvB_hit (by omega) hxy.out hy
        subst hy
        clear hL
        go_wp2_with (go_at_call 66; refine (na1_any _ _ _).mono ?_; rintro e w1 ⟨rfl, hb1⟩)
        go_ret
        exact ⟨_, rfl, fun _ => by omega, fun h => absurd (hr.out.symm.trans h) (by simp), hb.trans (hb1.mono hbs)⟩
      · have hy' : (y == 5) = false := by simpa using hy
        clear hL
        go_wp2_with (go_at_call 66; refine (na1_any _ _ _).mono ?_; rintro e w1 ⟨rfl, hb1⟩)
        go_roundw
        case rel => exact ⟨k + 1, by omega, by go_num, abv_succ hG.out hxy.out hy, hb.trans (hb1.mono hbs)⟩
        case measure => simp [intOf]; omega
    · have hr : Hid (abvB L = false) := abvB_no (fun j hj => hG.out j (by omega))
      clear hL
      go_wp2
      go_ret
      exact ⟨_, rfl, fun h => absurd (hr.out.symm.trans h) (by simp), fun _ => rfl, hb⟩

theorem con2_any {w : World} {ao : Option Addr} {n cap : Nat} {L : List (Int × Int)} (hL : Lab w.heap.size w ao n cap L) :
    Calls Try.prog 70 #[.slice ao n cap, .func (.func 66) #[] #[]] w fun e w' => e = .returned (.bool (abvB L)) ∧ Below w.heap.size w w' := by
  cases hq : abvB L with
  | false =>
    go_enter Try.func70, Try.ntmps70
    go_wp2_with (go_at_call 84; refine (idx2_any hL).mono ?_; rintro e w1 ⟨r, rfl, _, hr, hb1⟩; obtain rfl := hr hq)
    go_ret
    exact ⟨rfl, hb1⟩
  | true =>
    go_enter Try.func70, Try.ntmps70
    go_wp2_with (go_at_call 84; refine (idx2_any hL).mono ?_; rintro e w1 ⟨r, rfl, hr, _, hb1⟩; have hr0 := hr hq)
    go_ret
    exact ⟨by simp, hb1⟩

theorem na21_any {w : World} {ao : Option Addr} {n cap : Nat} {L : List (Int × Int)} {Ba : Nat} (hL : Lab w.heap.size w ao n cap L) (hc : w.cell? ⟨Ba, 0, none⟩ = some (.func (.func 66) #[] #[])) :
    Calls Try.prog 69 #[.slice ao n cap, .pointer (some ⟨Ba, 0, none⟩)] w fun e w' => e = .returned (.bool (abvB L)) ∧ Below w.heap.size w w' := by
  go_enter Try.func69, Try.ntmps69
  go_wp2_with (go_at_call 70; refine (con2_any hL).mono ?_; rintro e w1 ⟨rfl, hb1⟩)
  go_ret
  exact ⟨rfl, hb1⟩

/-- Has one of a row of labels something above all? -/
def abvsB (ls : List (Option Addr × Nat × Nat × List (Int × Int))) : Bool := (List.range ls.length).any fun j => abvB (labOf ls j)
theorem abvsB_hit {ls : List (Option Addr × Nat × Nat × List (Int × Int))} {j : Nat} (hj : j < ls.length) (h : abvB (labOf ls j) = true) : abvsB ls = true := by
  unfold abvsB
  rw [List.any_eq_true]
  exact ⟨j, List.mem_range.2 hj, h⟩
theorem abvsB_no {ls : List (Option Addr × Nat × Nat × List (Int × Int))} (h : ∀ j, j < ls.length → abvB (labOf ls j) = false) : abvsB ls = false := by
  unfold abvsB
  rw [List.any_eq_false]
  intro j hj
  rw [h j (List.mem_range.1 hj)]
  simp

set_option maxHeartbeats 2000000 in
theorem idx1_any {w : World} {b m Ba : Nat} {ls : List (Option Addr × Nat × Nat × List (Int × Int))} (hm : ls.length = m) (hmm : m < 100) (hR : LRow w b ls) (hba : Ba < w.heap.size) (hc : w.cell? ⟨Ba, 0, none⟩ = some (.func (.func 66) #[] #[])) :
    Calls Try.prog 83 #[.slice (some ⟨b, 0, none⟩) m m, .func (.func 69) #[] #[.pointer (some ⟨Ba, 0, none⟩)]] w fun e w' => ∃ r : Int, e = .returned (.int .i64 r) ∧ (abvsB ls = true → 0 ≤ r) ∧ (abvsB ls = false → r = -1) ∧ Below w.heap.size w w' := by
  go_enter Try.func83, Try.ntmps83
  go_wp2
  go_loopw [8] (fun i wr => ∃ k : Nat, k ≤ m ∧ i = .int .i64 k ∧ (∀ j, j < k → abvB (labOf ls j) = false) ∧ Below w.heap.size w wr) (fun i _ => m - (intOf i).toNat)
  case atStart => exact ⟨0, Nat.zero_le _, rfl, fun j hj => absurd hj (by omega), Below.refl _ _⟩
  case round =>
    obtain ⟨k, hk, rfl, hg, hb⟩ := hrel
    have hG : Hid (∀ j, j < k → abvB (labOf ls j) = false) := hg
    clear hg
    have hbs := hb.size
    have cb := (hb.cell (p := ⟨Ba, 0, none⟩) hba).trans hc
    by_cases hkm : k < m
    · obtain ⟨ao, n, cap, L, d0, hL, e0⟩ := (hR.next hb).at (i := k) (by omega)
      have hl : Hid (labOf ls k = L) := by show (ls.getD k _).2.2.2 = L; rw [e0.out]
      clear hR hc
      cases hq : abvB L with
      | true =>
        have hr : Hid (abvsB ls = true) := abvsB_hit (j := k) (by omega) (by rw [hl.out, hq])
        go_wp2_with (go_at_call 69; refine (na21_any hL cb).mono ?_; rintro e w1 ⟨rfl, hb1⟩; rw [hq])
        go_ret
        exact ⟨_, rfl, fun _ => by omega, fun h => absurd (hr.out.symm.trans h) (by simp), hb.trans (hb1.mono hbs)⟩
      | false =>
        have hG' : Hid (∀ j, j < k + 1 → abvB (labOf ls j) = false) := by
          intro j hj
          rcases Nat.lt_or_ge j k with h | h
          · exact hG.out j h
          · have : j = k := by omega
            rw [this, hl.out, hq]
        go_wp2_with (go_at_call 69; refine (na21_any hL cb).mono ?_; rintro e w1 ⟨rfl, hb1⟩; rw [hq])
        go_roundw
        case rel => exact ⟨k + 1, by omega, by go_num, hG'.out, hb.trans (hb1.mono hbs)⟩
        case measure => simp [intOf]; omega
    · have hr : Hid (abvsB ls = false) := abvsB_no (fun j hj => hG.out j (by omega))
      clear hR hc
      go_wp2
      go_ret
      exact ⟨_, rfl, fun h => absurd (hr.out.symm.trans h) (by simp), fun _ => rfl, hb⟩

theorem con1_any {w : World} {b m Ba : Nat} {ls : List (Option Addr × Nat × Nat × List (Int × Int))} (hm : ls.length = m) (hmm : m < 100) (hR : LRow w b ls) (hba : Ba < w.heap.size) (hc : w.cell? ⟨Ba, 0, none⟩ = some (.func (.func 66) #[] #[])) :
    Calls Try.prog 68 #[.slice (some ⟨b, 0, none⟩) m m, .func (.func 69) #[] #[.pointer (some ⟨Ba, 0, none⟩)]] w fun e w' => e = .returned (.bool (abvsB ls)) ∧ Below w.heap.size w w' := by
  cases hq : abvsB ls with
  | false =>
    go_enter Try.func68, Try.ntmps68
    go_wp2_with (go_at_call 83; refine (idx1_any hm hmm hR hba hc).mono ?_; rintro e w1 ⟨r, rfl, _, hr, hb1⟩; obtain rfl := hr hq)
    go_ret
    exact ⟨rfl, hb1⟩
  | true =>
    go_enter Try.func68, Try.ntmps68
    go_wp2_with (go_at_call 83; refine (idx1_any hm hmm hR hba hc).mono ?_; rintro e w1 ⟨r, rfl, hr, _, hb1⟩; have hr0 := hr hq)
    go_ret
    exact ⟨by simp, hb1⟩

theorem na2_any {w : World} {Bx b m Ba : Nat} {ls : List (Option Addr × Nat × Nat × List (Int × Int))} (hm : ls.length = m) (hmm : m < 100) (hbx : w.cell? ⟨Bx, 0, none⟩ = some (.slice (some ⟨b, 0, none⟩) m m)) (hR : LRow w b ls) (hba : Ba < w.heap.size) (hc : w.cell? ⟨Ba, 0, none⟩ = some (.func (.func 66) #[] #[])) :
    Calls Try.prog 67 #[.pointer (some ⟨Bx, 0, none⟩), .pointer (some ⟨Ba, 0, none⟩)] w fun e w' => e = .returned (.bool (!abvsB ls)) ∧ Below w.heap.size w w' := by
  go_enter Try.func67, Try.ntmps67
  go_wp2_with (go_at_call 68; refine (con1_any hm hmm hR hba hc).mono ?_; rintro e w1 ⟨rfl, hb1⟩)
  go_ret
  exact ⟨rfl, hb1⟩
end Go.Proofs.Ytkhnlgbebbhmbaa
