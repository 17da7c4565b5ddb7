/-
  PROVED HERE: what each function of package level, and of the document's answer to it, returns when it is called (contracts over this translation). No condition.
-/
import Derived.Test.YtkhnlgbebbhmbaaRows
import Derived.Test.YtkhnlgbebbhmbaaLv
import Derived.WalkKit
import Derived.ProofKit
import Derived.OpenShut
import Derived.Below
namespace Go.Proofs.Ytkhnlgbebbhmbaa
open Go.ChangeShapes Go.WideShapes Go.ChangeAt Go.RowKit
set_option linter.unusedVariables false

/-- Two steps of which each leaves what was there. -/
theorem next {w a b : World} (h : Below w.heap.size w a) (k : Below a.heap.size a b) : Below w.heap.size w b := h.trans (k.mono h.size)



theorem fit_any (n : Int) (w : World) : Calls Try.prog 89 #[.int .i64 n] w fun e w' => e = .returned (.bool (Lv.fit n)) ∧ w' = w := by
  by_cases h0 : 0 ≤ n
  · by_cases h5 : n ≤ 5
    · have hf : Lv.fit n = true := by simp [Lv.fit, h0, h5]
      rw [hf]
      go_enter Try.func89, Try.ntmps89
      go_wp2
      go_ret
      exact ⟨rfl, rfl⟩
    · have hf : Lv.fit n = false := by simp [Lv.fit, h0, h5]
      rw [hf]
      go_enter Try.func89, Try.ntmps89
      go_wp2
      go_ret
      exact ⟨rfl, rfl⟩
  · have hf : Lv.fit n = false := by simp [Lv.fit, h0]
    rw [hf]
    go_enter Try.func89, Try.ntmps89
    go_wp2
    go_ret
    exact ⟨rfl, rfl⟩

theorem meant_any (n : Int) (w : World) : Calls Try.prog 82 #[.int .i64 n] w fun e w' => e = .returned (.int .i64 (Lv.lv n)) ∧ w' = w := by
  by_cases h : 0 ≤ n ∧ n ≤ 5
  · have hf : Lv.fit n = true := by simp [Lv.fit, h]
    have hl : Lv.lv n = n := Lv.lv_of h.1 h.2
    rw [hl]
    clear h hl
    go_enter Try.func82, Try.ntmps82
    go_wp2_with (go_at_call 89; refine (fit_any _ _).mono ?_; rintro e w' ⟨rfl, rfl⟩)
    go_ret
    exact ⟨rfl, rfl⟩
  · have hf : Lv.fit n = false := by simp [Lv.fit, h]
    have hl : Lv.lv n = 2 := Lv.lv_no h
    rw [hl]
    clear h hl
    go_enter Try.func82, Try.ntmps82
    go_wp2_with (go_at_call 89; refine (fit_any _ _).mono ?_; rintro e w' ⟨rfl, rfl⟩)
    go_ret
    exact ⟨rfl, rfl⟩

theorem leq_any (a b : Int) (w : World) : Calls Try.prog 78 #[.int .i64 a, .int .i64 b] w fun e w' => e = .returned (.bool (Lv.leq a b)) ∧ w' = w := by
  unfold Lv.leq
  go_enter Try.func78, Try.ntmps78
  go_wp2_with (go_at_call 82; refine (meant_any _ _).mono ?_; rintro e w' ⟨rfl, rfl⟩)
  go_ret
  exact ⟨rfl, rfl⟩

set_option maxHeartbeats 400000 in
theorem greatest_two (b : Nat) (x y : Int) (w : World) (c0 : w.cell? ⟨b, 0, none⟩ = some (.int .i64 x)) (c1 : w.cell? ⟨b, 1, none⟩ = some (.int .i64 y)) :
    Calls Try.prog 80 #[.slice (some ⟨b, 0, none⟩) 2 2] w fun e w' => e = .returned (.int .i64 (Lv.join x y)) ∧ w' = w := by
  have x0 := Lv.lv_lo x
  go_enter Try.func80, Try.ntmps80
  go_wp2
  go_loop [3, 8] (fun t i => (i = .int .i64 0 ∧ t = .int .i64 0) ∨ (i = .int .i64 1 ∧ t = .int .i64 (Lv.lv x)) ∨ (i = .int .i64 2 ∧ t = .int .i64 (Lv.join x y))) (fun _ i => (2 - intOf i).toNat)
  case atStart => exact .inl ⟨rfl, rfl⟩
  case round =>
    rcases hrel with ⟨rfl, rfl⟩ | ⟨rfl, rfl⟩ | ⟨rfl, rfl⟩
    · by_cases h : 0 < Lv.lv x
      · go_wp2_with (go_at_call 82; refine (meant_any _ _).mono ?_; rintro e w' ⟨rfl, rfl⟩)
        go_round
        case rel => exact .inr (.inl ⟨rfl, rfl⟩)
        case measure => simp [intOf]
      · have hx : Hid (Lv.lv x = 0) := by show Lv.lv x = 0; omega
        go_wp2_with (go_at_call 82; refine (meant_any _ _).mono ?_; rintro e w' ⟨rfl, rfl⟩)
        go_round
        case rel => exact .inr (.inl ⟨rfl, by rw [hx.out]⟩)
        case measure => simp [intOf]
    · by_cases h : Lv.lv x < Lv.lv y
      · have hj : Hid (Lv.join x y = Lv.lv y) := by show Lv.join x y = Lv.lv y; unfold Lv.join; rw [if_pos h]
        go_wp2_with (go_at_call 82; refine (meant_any _ _).mono ?_; rintro e w' ⟨rfl, rfl⟩)
        go_round
        case rel => exact .inr (.inr ⟨rfl, by rw [hj.out]⟩)
        case measure => simp [intOf]
      · have hj : Hid (Lv.join x y = Lv.lv x) := by show Lv.join x y = Lv.lv x; unfold Lv.join; rw [if_neg h]
        go_wp2_with (go_at_call 82; refine (meant_any _ _).mono ?_; rintro e w' ⟨rfl, rfl⟩)
        go_round
        case rel => exact .inr (.inr ⟨rfl, by rw [hj.out]⟩)
        case measure => simp [intOf]
    · go_wp2
      go_ret
      exact ⟨rfl, rfl⟩

theorem raise_any (n : Int) (w : World) : Calls Try.prog 63 #[.int .i64 n] w fun e w' => e = .returned (.int .i64 (Lv.raise n)) ∧ w' = w := by
  by_cases h : n = 0
  · subst h
    have hr : Lv.raise 0 = 5 := by decide
    rw [hr]
    go_enter Try.func63, Try.ntmps63
    go_wp2
    go_ret
    exact ⟨rfl, rfl⟩
  · have hn : (n == 0) = false := by simpa using h
    have hr : Lv.raise n = Lv.lv n := by unfold Lv.raise Lv.lv; split <;> simp_all
    rw [hr]
    clear h hr
    go_enter Try.func63, Try.ntmps63
    go_wp2_with (go_at_call 82; refine (meant_any _ _).mono ?_; rintro e w' ⟨rfl, rfl⟩)
    go_ret
    exact ⟨rfl, rfl⟩

theorem lower_any (n : Int) (w : World) : Calls Try.prog 85 #[.int .i64 n] w fun e w' => e = .returned (.int .i64 (Lv.lower n)) ∧ w' = w := by
  by_cases h : n = 5
  · subst h
    have hr : Lv.lower 5 = 0 := by decide
    rw [hr]
    go_enter Try.func85, Try.ntmps85
    go_wp2
    go_ret
    exact ⟨rfl, rfl⟩
  · have hn : (n == 5) = false := by simpa using h
    have hr : Lv.lower n = Lv.lv n := by unfold Lv.lower Lv.lv; split <;> simp_all
    rw [hr]
    clear h hr
    go_enter Try.func85, Try.ntmps85
    go_wp2_with (go_at_call 82; refine (meant_any _ _).mono ?_; rintro e w' ⟨rfl, rfl⟩)
    go_ret
    exact ⟨rfl, rfl⟩

theorem join_any (a b : Int) (w : World) : Calls Try.prog 61 #[.int .i64 a, .int .i64 b] w fun e w' => e = .returned (.int .i64 (Lv.join a b)) ∧ Below w.heap.size w w' := by
  go_enter Try.func61, Try.ntmps61
  go_wp2_with (go_at_call 80; refine (greatest_two _ a b _ (by go_simp) (by go_simp)).mono ?_; rintro e w' ⟨rfl, rfl⟩)
  go_ret
  exact ⟨rfl, (Below.refl _ _).alloc (Nat.le_refl _) _⟩

theorem of_any (n : Int) (w : World) : Calls Try.prog 76 #[.int .i64 n] w fun e w' => e = .returned (.int .i64 (Lv.lv n)) ∧ w' = w := by
  by_cases h0 : n < 0
  · have hl : Lv.lv n = 2 := Lv.lv_no (by omega)
    rw [hl]
    clear hl
    go_enter Try.func76, Try.ntmps76
    go_wp2
    go_ret
    exact ⟨rfl, rfl⟩
  · by_cases h5 : 5 < n
    · have hl : Lv.lv n = 2 := Lv.lv_no (by omega)
      rw [hl]
      clear hl
      go_enter Try.func76, Try.ntmps76
      go_wp2
      go_ret
      exact ⟨rfl, rfl⟩
    · have hl : Lv.lv n = n := Lv.lv_of (by omega) (by omega)
      rw [hl]
      clear hl
      go_enter Try.func76, Try.ntmps76
      go_wp2
      go_ret
      exact ⟨rfl, rfl⟩

theorem rfit_any (n : Int) (w : World) : Calls Try.prog 57 #[.int .i64 n] w fun e w' => e = .returned (.bool (Lv.fit n)) ∧ w' = w := by
  by_cases h0 : 0 ≤ n
  · by_cases h5 : n ≤ 5
    · have hf : Lv.fit n = true := by simp [Lv.fit, h0, h5]
      rw [hf]
      go_enter Try.func57, Try.ntmps57
      go_wp2
      go_ret
      exact ⟨rfl, rfl⟩
    · have hf : Lv.fit n = false := by simp [Lv.fit, h0, h5]
      rw [hf]
      go_enter Try.func57, Try.ntmps57
      go_wp2
      go_ret
      exact ⟨rfl, rfl⟩
  · have hf : Lv.fit n = false := by simp [Lv.fit, h0]
    rw [hf]
    go_enter Try.func57, Try.ntmps57
    go_wp2
    go_ret
    exact ⟨rfl, rfl⟩

theorem rleq_any (a b : Int) (w : World) : Calls Try.prog 52 #[.int .i64 a, .int .i64 b] w fun e w' => e = .returned (.bool (Lv.leq a b)) ∧ w' = w := by
  unfold Lv.leq
  go_enter Try.func52, Try.ntmps52
  go_wp2_with (go_at_call 76; refine (of_any _ _).mono ?_; rintro e w' ⟨rfl, rfl⟩)
  go_ret
  exact ⟨rfl, rfl⟩

theorem rjoin_any (a b : Int) (w : World) : Calls Try.prog 55 #[.int .i64 a, .int .i64 b] w fun e w' => e = .returned (.int .i64 (Lv.join a b)) ∧ w' = w := by
  by_cases h : Lv.lv b < Lv.lv a
  · have hj : Lv.join a b = Lv.lv a := by unfold Lv.join; rw [if_neg (by omega)]
    rw [hj]
    clear hj
    go_enter Try.func55, Try.ntmps55
    go_wp2_with (go_at_call 76; refine (of_any _ _).mono ?_; rintro e w' ⟨rfl, rfl⟩)
    go_ret
    exact ⟨rfl, rfl⟩
  · have hj : Lv.join a b = Lv.lv b := by unfold Lv.join; split <;> omega
    rw [hj]
    clear hj
    go_enter Try.func55, Try.ntmps55
    go_wp2_with (go_at_call 76; refine (of_any _ _).mono ?_; rintro e w' ⟨rfl, rfl⟩)
    go_ret
    exact ⟨rfl, rfl⟩

theorem rmeet_any (a b : Int) (w : World) : Calls Try.prog 56 #[.int .i64 a, .int .i64 b] w fun e w' => e = .returned (.int .i64 (Lv.meet a b)) ∧ w' = w := by
  by_cases h : Lv.lv a < Lv.lv b
  · have hj : Lv.meet a b = Lv.lv a := by unfold Lv.meet; rw [if_pos h]
    rw [hj]
    clear hj
    go_enter Try.func56, Try.ntmps56
    go_wp2_with (go_at_call 76; refine (of_any _ _).mono ?_; rintro e w' ⟨rfl, rfl⟩)
    go_ret
    exact ⟨rfl, rfl⟩
  · have hj : Lv.meet a b = Lv.lv b := by unfold Lv.meet; rw [if_neg h]
    rw [hj]
    clear hj
    go_enter Try.func56, Try.ntmps56
    go_wp2_with (go_at_call 76; refine (of_any _ _).mono ?_; rintro e w' ⟨rfl, rfl⟩)
    go_ret
    exact ⟨rfl, rfl⟩

theorem rraise_any (n : Int) (w : World) : Calls Try.prog 53 #[.int .i64 n] w fun e w' => e = .returned (.int .i64 (Lv.raise n)) ∧ w' = w := by
  by_cases h : Lv.lv n = 0
  · have hr : Lv.raise n = 5 := by unfold Lv.raise; rw [if_pos h]
    have hn : (Lv.lv n == 0) = true := by simpa using h
    rw [hr]
    clear h hr
    go_enter Try.func53, Try.ntmps53
    go_wp2_with (go_at_call 76; refine (of_any _ _).mono ?_; rintro e w' ⟨rfl, rfl⟩)
    go_ret
    exact ⟨rfl, rfl⟩
  · have hr : Lv.raise n = Lv.lv n := by unfold Lv.raise; rw [if_neg h]
    have hn : (Lv.lv n == 0) = false := by simpa using h
    rw [hr]
    clear h hr
    go_enter Try.func53, Try.ntmps53
    go_wp2_with (go_at_call 76; refine (of_any _ _).mono ?_; rintro e w' ⟨rfl, rfl⟩)
    go_ret
    exact ⟨rfl, rfl⟩

theorem rlower_any (n : Int) (w : World) : Calls Try.prog 72 #[.int .i64 n] w fun e w' => e = .returned (.int .i64 (Lv.lower n)) ∧ w' = w := by
  by_cases h : Lv.lv n = 5
  · have hr : Lv.lower n = 0 := by unfold Lv.lower; rw [if_pos h]
    have hn : (Lv.lv n == 5) = true := by simpa using h
    rw [hr]
    clear h hr
    go_enter Try.func72, Try.ntmps72
    go_wp2_with (go_at_call 76; refine (of_any _ _).mono ?_; rintro e w' ⟨rfl, rfl⟩)
    go_ret
    exact ⟨rfl, rfl⟩
  · have hr : Lv.lower n = Lv.lv n := by unfold Lv.lower; rw [if_neg h]
    have hn : (Lv.lv n == 5) = false := by simpa using h
    rw [hr]
    clear h hr
    go_enter Try.func72, Try.ntmps72
    go_wp2_with (go_at_call 76; refine (of_any _ _).mono ?_; rintro e w' ⟨rfl, rfl⟩)
    go_ret
    exact ⟨rfl, rfl⟩

end Go.Proofs.Ytkhnlgbebbhmbaa
