/-
  PROVED HERE: what each function of package level, and of the document's answer to it, returns when it is called (contracts over this translation). No condition.
-/
import Derived.Test.YtkhnlgbebbhmbabRows
import Derived.Test.YtkhnlgbebbhmbabLv
import Derived.WalkKit
import Derived.ProofKit
import Derived.OpenShut
import Derived.Below
namespace Go.Proofs.Ytkhnlgbebbhmbab
open Go.ChangeShapes Go.WideShapes Go.ChangeAt Go.RowKit
set_option linter.unusedVariables false

/-- Two steps of which each leaves what was there. -/
theorem next {w a b : World} (h : Below w.heap.size w a) (k : Below a.heap.size a b) : Below w.heap.size w b := h.trans (k.mono h.size)



theorem fit_any (n : Int) (w : World) : Calls Try.prog 47 #[.int .i64 n] w fun e w' => e = .returned (.bool (Lv.fit n)) ∧ w' = w := by
  by_cases h0 : 0 ≤ n
  · by_cases h5 : n ≤ 5
    · have hf : Lv.fit n = true := by simp [Lv.fit, h0, h5]
      rw [hf]
      go_enter Try.func47, Try.ntmps47
      go_wp2
      go_ret
      exact ⟨rfl, rfl⟩
    · have hf : Lv.fit n = false := by simp [Lv.fit, h0, h5]
      rw [hf]
      go_enter Try.func47, Try.ntmps47
      go_wp2
      go_ret
      exact ⟨rfl, rfl⟩
  · have hf : Lv.fit n = false := by simp [Lv.fit, h0]
    rw [hf]
    go_enter Try.func47, Try.ntmps47
    go_wp2
    go_ret
    exact ⟨rfl, rfl⟩

theorem meant_any (n : Int) (w : World) : Calls Try.prog 42 #[.int .i64 n] w fun e w' => e = .returned (.int .i64 (Lv.lv n)) ∧ w' = w := by
  by_cases h : 0 ≤ n ∧ n ≤ 5
  · have hf : Lv.fit n = true := by simp [Lv.fit, h]
    have hl : Lv.lv n = n := Lv.lv_of h.1 h.2
    rw [hl]
    clear h hl
    go_enter Try.func42, Try.ntmps42
    go_wp2_with (go_at_call 47; refine (fit_any _ _).mono ?_; rintro e w' ⟨rfl, rfl⟩)
    go_ret
    exact ⟨rfl, rfl⟩
  · have hf : Lv.fit n = false := by simp [Lv.fit, h]
    have hl : Lv.lv n = 2 := Lv.lv_no h
    rw [hl]
    clear h hl
    go_enter Try.func42, Try.ntmps42
    go_wp2_with (go_at_call 47; refine (fit_any _ _).mono ?_; rintro e w' ⟨rfl, rfl⟩)
    go_ret
    exact ⟨rfl, rfl⟩

theorem leq_any (a b : Int) (w : World) : Calls Try.prog 39 #[.int .i64 a, .int .i64 b] w fun e w' => e = .returned (.bool (Lv.leq a b)) ∧ w' = w := by
  unfold Lv.leq
  go_enter Try.func39, Try.ntmps39
  go_wp2_with (go_at_call 42; refine (meant_any _ _).mono ?_; rintro e w' ⟨rfl, rfl⟩)
  go_ret
  exact ⟨rfl, rfl⟩

theorem raise_any (n : Int) (w : World) : Calls Try.prog 35 #[.int .i64 n] w fun e w' => e = .returned (.int .i64 (Lv.raise n)) ∧ w' = w := by
  by_cases h : n = 0
  · subst h
    have hr : Lv.raise 0 = 5 := by decide
    rw [hr]
    go_enter Try.func35, Try.ntmps35
    go_wp2
    go_ret
    exact ⟨rfl, rfl⟩
  · have hn : (n == 0) = false := by simpa using h
    have hr : Lv.raise n = Lv.lv n := by unfold Lv.raise Lv.lv; split <;> simp_all
    rw [hr]
    clear h hr
    go_enter Try.func35, Try.ntmps35
    go_wp2_with (go_at_call 42; refine (meant_any _ _).mono ?_; rintro e w' ⟨rfl, rfl⟩)
    go_ret
    exact ⟨rfl, rfl⟩

theorem of_any (n : Int) (w : World) : Calls Try.prog 30 #[.int .i64 n] w fun e w' => e = .returned (.int .i64 (Lv.lv n)) ∧ w' = w := by
  by_cases h0 : n < 0
  · have hl : Lv.lv n = 2 := Lv.lv_no (by omega)
    rw [hl]
    clear hl
    go_enter Try.func30, Try.ntmps30
    go_wp2
    go_ret
    exact ⟨rfl, rfl⟩
  · by_cases h5 : 5 < n
    · have hl : Lv.lv n = 2 := Lv.lv_no (by omega)
      rw [hl]
      clear hl
      go_enter Try.func30, Try.ntmps30
      go_wp2
      go_ret
      exact ⟨rfl, rfl⟩
    · have hl : Lv.lv n = n := Lv.lv_of (by omega) (by omega)
      rw [hl]
      clear hl
      go_enter Try.func30, Try.ntmps30
      go_wp2
      go_ret
      exact ⟨rfl, rfl⟩

theorem rfit_any (n : Int) (w : World) : Calls Try.prog 19 #[.int .i64 n] w fun e w' => e = .returned (.bool (Lv.fit n)) ∧ w' = w := by
  by_cases h0 : 0 ≤ n
  · by_cases h5 : n ≤ 5
    · have hf : Lv.fit n = true := by simp [Lv.fit, h0, h5]
      rw [hf]
      go_enter Try.func19, Try.ntmps19
      go_wp2
      go_ret
      exact ⟨rfl, rfl⟩
    · have hf : Lv.fit n = false := by simp [Lv.fit, h0, h5]
      rw [hf]
      go_enter Try.func19, Try.ntmps19
      go_wp2
      go_ret
      exact ⟨rfl, rfl⟩
  · have hf : Lv.fit n = false := by simp [Lv.fit, h0]
    rw [hf]
    go_enter Try.func19, Try.ntmps19
    go_wp2
    go_ret
    exact ⟨rfl, rfl⟩

theorem rleq_any (a b : Int) (w : World) : Calls Try.prog 17 #[.int .i64 a, .int .i64 b] w fun e w' => e = .returned (.bool (Lv.leq a b)) ∧ w' = w := by
  unfold Lv.leq
  go_enter Try.func17, Try.ntmps17
  go_wp2_with (go_at_call 30; refine (of_any _ _).mono ?_; rintro e w' ⟨rfl, rfl⟩)
  go_ret
  exact ⟨rfl, rfl⟩

end Go.Proofs.Ytkhnlgbebbhmbab
