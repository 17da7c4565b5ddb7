/-
  PROVED HERE: what package pages' Same and the document's Same return when they are called (contracts over this translation). No condition.
-/
import Derived.Test.YtfpmkihlfhpgdaaPo6
namespace Go.Proofs.Ytfpmkihlfhpgdaa.PgM
open Go.RowKit Go.Shelf
set_option linter.unusedVariables false
attribute [local go_sem] Oper.semAt_some
open Pg

theorem eqB_no {x y : Mp} (h : ¬ x = y) : eqB x y = false := by
  cases hq : eqB x y with
  | false => rfl
  | true => exact absurd (eqB_iff.1 hq) h
/-- The first field in which two maps differ. -/
theorem diff {a0 a1 a2 a3 a4 : Int} {a5 : Bool} {b0 b1 b2 b3 b4 : Int} {b5 : Bool} (h : ¬ (⟨a0, a1, a2, a3, a4, a5⟩ : Mp) = ⟨b0, b1, b2, b3, b4, b5⟩) :
    (a0 == b0) = false ∨ (a0 = b0 ∧ (a1 == b1) = false) ∨ (a0 = b0 ∧ a1 = b1 ∧ (a2 == b2) = false) ∨ (a0 = b0 ∧ a1 = b1 ∧ a2 = b2 ∧ (a3 == b3) = false) ∨ (a0 = b0 ∧ a1 = b1 ∧ a2 = b2 ∧ a3 = b3 ∧ (a4 == b4) = false) ∨ (a0 = b0 ∧ a1 = b1 ∧ a2 = b2 ∧ a3 = b3 ∧ a4 = b4 ∧ (a5 == b5) = false) := by
  by_cases h0 : a0 = b0
  · by_cases h1 : a1 = b1
    · by_cases h2 : a2 = b2
      · by_cases h3 : a3 = b3
        · by_cases h4 : a4 = b4
          · by_cases h5 : a5 = b5
            · exact absurd (by rw [h0, h1, h2, h3, h4, h5]) h
            · exact .inr (.inr (.inr (.inr (.inr ⟨h0, h1, h2, h3, h4, by rw [beq_eq_false_iff_ne]; exact h5⟩))))
          · exact .inr (.inr (.inr (.inr (.inl ⟨h0, h1, h2, h3, by rw [beq_eq_false_iff_ne]; exact h4⟩))))
        · exact .inr (.inr (.inr (.inl ⟨h0, h1, h2, by rw [beq_eq_false_iff_ne]; exact h3⟩)))
      · exact .inr (.inr (.inl ⟨h0, h1, by rw [beq_eq_false_iff_ne]; exact h2⟩))
    · exact .inr (.inl ⟨h0, by rw [beq_eq_false_iff_ne]; exact h1⟩)
  · exact .inl (by rw [beq_eq_false_iff_ne]; exact h0)
theorem eqs_succ {p q : Nat → Mp} {k : Nat} (h : ∀ i, i < k → eqB (p i) (q i) = true) (hk : eqB (p k) (q k) = true) : ∀ i, i < k + 1 → eqB (p i) (q i) = true := fun i hi => by
  rcases Nat.lt_or_ge i k with h' | h'
  · exact h i h'
  · have : i = k := by omega
    rw [this]; exact hk
set_option maxRecDepth 100000 in
set_option maxHeartbeats 2000000 in
theorem equal_any {w : World} {a a' : Option Addr} {n c n' c' : Nat} {L M : List Mp} (h : Mps w.heap.size w a n c L) (h' : Mps w.heap.size w a' n' c' M) :
    Calls Try.prog 78 #[.slice a n c, .slice a' n' c'] w fun e w' => e = .returned (.bool (sameB L M)) ∧ Below w.heap.size w w' := by
  have hn : Hid (L.length = n) := h.1
  have hn' : Hid (M.length = n') := h'.1
  have hnc := h.2.1
  have hcm := h.2.2.1.1
  have hnc' := h'.2.1
  have hcm' := h'.2.2.1.1
  by_cases hnn : n = n'
  · subst hnn
    go_enter Try.func78, Try.ntmps78
    go_wp2
    go_loopw [13] (fun i wr => ∃ k : Nat, k ≤ n ∧ i = .int .i64 k ∧ Hid (∀ j, j < k → eqB (mat L j) (mat M j) = true) ∧ Below w.heap.size w wr) (fun i _ => n - (intOf i).toNat)
    case atStart => exact ⟨0, Nat.zero_le _, rfl, fun j hj => absurd hj (by omega), Below.refl _ _⟩
    case round =>
      obtain ⟨k, hk, rfl, hal, hb⟩ := hrel
      by_cases hkn : k < n
      · obtain ⟨b, off, va, nn, cont, seg, of, wrt, rfl, hB, hx, c0, c1, c2, c3, c4, c5⟩ := MpsD.at (h.later hb) hkn
        obtain ⟨b', off', va', nn', cont', seg', of', wrt', rfl, hB', hx', d0, d1, d2, d3, d4, d5⟩ := MpsD.at (h'.later hb) hkn
        have hkn' : (k : Int) < n := by omega
        by_cases hxx : (⟨va, nn, cont, seg, of, wrt⟩ : Mp) = ⟨va', nn', cont', seg', of', wrt'⟩
        · have hal2 : Hid (∀ j, j < k + 1 → eqB (mat L j) (mat M j) = true) := eqs_succ hal.out (by rw [hx.out, hx'.out, hxx]; exact eqB_refl _)
          simp only [Mp.mk.injEq] at hxx
          obtain ⟨rfl, rfl, rfl, rfl, rfl, rfl⟩ := hxx
          go_wp2
          go_quiet (fail)
          go_wp2
          go_roundw
          case rel => exact ⟨k + 1, by omega, by go_num, hal2, below_drewN hb _⟩
          case measure => simp [intOf]; omega
        · have hf : Hid (sameB L M = false) := sameB_at (k := k) (by rw [hn.out]; exact hkn) (by rw [hx.out, hx'.out]; exact eqB_no hxx)
          rcases diff hxx with hd | ⟨rfl, hd⟩ | ⟨rfl, rfl, hd⟩ | ⟨rfl, rfl, rfl, hd⟩ | ⟨rfl, rfl, rfl, rfl, hd⟩ | ⟨rfl, rfl, rfl, rfl, rfl, hd⟩
          · clear hxx
            go_wp2
            go_quiet (fail)
            go_wp2
            go_ret
            exact ⟨(by rw [hf.out]; rfl), below_drewN hb _⟩
          · clear hxx
            go_wp2
            go_quiet (fail)
            go_wp2
            go_ret
            exact ⟨(by rw [hf.out]; rfl), below_drewN hb _⟩
          · clear hxx
            go_wp2
            go_quiet (fail)
            go_wp2
            go_ret
            exact ⟨(by rw [hf.out]; rfl), below_drewN hb _⟩
          · clear hxx
            go_wp2
            go_quiet (fail)
            go_wp2
            go_ret
            exact ⟨(by rw [hf.out]; rfl), below_drewN hb _⟩
          · clear hxx
            go_wp2
            go_quiet (fail)
            go_wp2
            go_ret
            exact ⟨(by rw [hf.out]; rfl), below_drewN hb _⟩
          · clear hxx
            go_wp2
            go_quiet (fail)
            go_wp2
            go_ret
            exact ⟨(by rw [hf.out]; rfl), below_drewN hb _⟩
      · obtain rfl : k = n := by omega
        have hf : Hid (sameB L M = true) := sameB_all (by rw [hn.out, hn'.out]) (fun i hi => hal.out i (by rw [hn.out] at hi; exact hi))
        go_wp2
        go_ret
        exact ⟨(by rw [hf.out]; rfl), hb⟩
  · have hf : Hid (sameB L M = false) := sameB_len (by rw [hn.out, hn'.out]; exact hnn)
    have hne : ((n : Int) == (n' : Int)) = false := by simp; omega
    go_enter Try.func78, Try.ntmps78
    go_wp2
    go_ret
    exact ⟨(by rw [hf.out]; rfl), Below.refl _ _⟩
theorem same_any {w : World} {a a' : Option Addr} {n c n' c' : Nat} {L M : List Mp} (h : Mps w.heap.size w a n c L) (h' : Mps w.heap.size w a' n' c' M) :
    Calls Try.prog 48 #[.slice a n c, .slice a' n' c'] w fun e w' => e = .returned (.bool (sameB L M)) ∧ Below w.heap.size w w' := by
  have hc := equal_any h h'
  go_enter Try.func48, Try.ntmps48
  go_wp2_with (go_at_call 78; refine hc.mono ?_; rintro e w' ⟨rfl, hb⟩)
  go_ret
  exact ⟨rfl, hb⟩
set_option maxRecDepth 100000 in
set_option maxHeartbeats 2000000 in
theorem rsame_any {w : World} {a a' : Option Addr} {n c n' c' : Nat} {L M : List Mp} (h : Mps w.heap.size w a n c L) (h' : Mps w.heap.size w a' n' c' M) :
    Calls Try.prog 53 #[.slice a n c, .slice a' n' c'] w fun e w' => e = .returned (.bool (sameB L M)) ∧ Below w.heap.size w w' := by
  have hn : Hid (L.length = n) := h.1
  have hn' : Hid (M.length = n') := h'.1
  have hnc := h.2.1
  have hcm := h.2.2.1.1
  have hnc' := h'.2.1
  have hcm' := h'.2.2.1.1
  by_cases hnn : n = n'
  · subst hnn
    go_enter Try.func53, Try.ntmps53
    go_wp2
    go_loopw [5] (fun i wr => ∃ k : Nat, k ≤ n ∧ i = .int .i64 k ∧ Hid (∀ j, j < k → eqB (mat L j) (mat M j) = true) ∧ Below w.heap.size w wr) (fun i _ => n - (intOf i).toNat)
    case atStart => exact ⟨0, Nat.zero_le _, rfl, fun j hj => absurd hj (by omega), Below.refl _ _⟩
    case round =>
      obtain ⟨k, hk, rfl, hal, hb⟩ := hrel
      by_cases hkn : k < n
      · obtain ⟨b, off, va, nn, cont, seg, of, wrt, rfl, hB, hx, c0, c1, c2, c3, c4, c5⟩ := MpsD.at (h.later hb) hkn
        obtain ⟨b', off', va', nn', cont', seg', of', wrt', rfl, hB', hx', d0, d1, d2, d3, d4, d5⟩ := MpsD.at (h'.later hb) hkn
        have hkn' : (k : Int) < n := by omega
        by_cases hxx : (⟨va, nn, cont, seg, of, wrt⟩ : Mp) = ⟨va', nn', cont', seg', of', wrt'⟩
        · have hal2 : Hid (∀ j, j < k + 1 → eqB (mat L j) (mat M j) = true) := eqs_succ hal.out (by rw [hx.out, hx'.out, hxx]; exact eqB_refl _)
          simp only [Mp.mk.injEq] at hxx
          obtain ⟨rfl, rfl, rfl, rfl, rfl, rfl⟩ := hxx
          go_wp2
          go_quiet (fail)
          go_wp2
          go_roundw
          case rel => exact ⟨k + 1, by omega, by go_num, hal2, below_drewN hb _⟩
          case measure => simp [intOf]; omega
        · have hf : Hid (sameB L M = false) := sameB_at (k := k) (by rw [hn.out]; exact hkn) (by rw [hx.out, hx'.out]; exact eqB_no hxx)
          rcases diff hxx with hd | ⟨rfl, hd⟩ | ⟨rfl, rfl, hd⟩ | ⟨rfl, rfl, rfl, hd⟩ | ⟨rfl, rfl, rfl, rfl, hd⟩ | ⟨rfl, rfl, rfl, rfl, rfl, hd⟩
          · clear hxx
            go_wp2
            go_quiet (fail)
            go_wp2
            go_ret
            exact ⟨(by rw [hf.out]; rfl), below_drewN hb _⟩
          · clear hxx
            go_wp2
            go_quiet (fail)
            go_wp2
            go_ret
            exact ⟨(by rw [hf.out]; rfl), below_drewN hb _⟩
          · clear hxx
            go_wp2
            go_quiet (fail)
            go_wp2
            go_ret
            exact ⟨(by rw [hf.out]; rfl), below_drewN hb _⟩
          · clear hxx
            go_wp2
            go_quiet (fail)
            go_wp2
            go_ret
            exact ⟨(by rw [hf.out]; rfl), below_drewN hb _⟩
          · clear hxx
            go_wp2
            go_quiet (fail)
            go_wp2
            go_ret
            exact ⟨(by rw [hf.out]; rfl), below_drewN hb _⟩
          · clear hxx
            go_wp2
            go_quiet (fail)
            go_wp2
            go_ret
            exact ⟨(by rw [hf.out]; rfl), below_drewN hb _⟩
      · obtain rfl : k = n := by omega
        have hf : Hid (sameB L M = true) := sameB_all (by rw [hn.out, hn'.out]) (fun i hi => hal.out i (by rw [hn.out] at hi; exact hi))
        go_wp2
        go_ret
        exact ⟨(by rw [hf.out]; rfl), hb⟩
  · have hf : Hid (sameB L M = false) := sameB_len (by rw [hn.out, hn'.out]; exact hnn)
    have hne : ((n : Int) == (n' : Int)) = false := by simp; omega
    go_enter Try.func53, Try.ntmps53
    go_wp2
    go_ret
    exact ⟨(by rw [hf.out]; rfl), Below.refl _ _⟩
end Go.Proofs.Ytfpmkihlfhpgdaa.PgM
