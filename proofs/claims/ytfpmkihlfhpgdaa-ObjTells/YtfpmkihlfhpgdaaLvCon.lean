/-
  PROVED HERE: what each function of package level, and of the document's answer to it, returns when it is called (contracts over this translation). No condition.
-/
import Derived.Test.YtfpmkihlfhpgdaaRows
import Derived.Test.YtfpmkihlfhpgdaaLv
import Derived.WalkKit
import Derived.ProofKit
import Derived.OpenShut
import Derived.Below
namespace Go.Proofs.Ytfpmkihlfhpgdaa
open Go.ChangeShapes Go.WideShapes Go.ChangeAt Go.RowKit
set_option linter.unusedVariables false

/-- Two steps of which each leaves what was there. -/
theorem next {w a b : World} (h : Below w.heap.size w a) (k : Below a.heap.size a b) : Below w.heap.size w b := h.trans (k.mono h.size)



theorem fit_any (n : Int) (w : World) : Calls Try.prog 103 #[.int .i64 n] w fun e w' => e = .returned (.bool (Lv.fit n)) ∧ w' = w := by
  by_cases h0 : 0 ≤ n
  · by_cases h5 : n ≤ 5
    · have hf : Lv.fit n = true := by simp [Lv.fit, h0, h5]
      rw [hf]
      go_enter Try.func103, Try.ntmps103
      go_wp2
      go_ret
      exact ⟨rfl, rfl⟩
    · have hf : Lv.fit n = false := by simp [Lv.fit, h0, h5]
      rw [hf]
      go_enter Try.func103, Try.ntmps103
      go_wp2
      go_ret
      exact ⟨rfl, rfl⟩
  · have hf : Lv.fit n = false := by simp [Lv.fit, h0]
    rw [hf]
    go_enter Try.func103, Try.ntmps103
    go_wp2
    go_ret
    exact ⟨rfl, rfl⟩

theorem meant_any (n : Int) (w : World) : Calls Try.prog 101 #[.int .i64 n] w fun e w' => e = .returned (.int .i64 (Lv.lv n)) ∧ w' = w := by
  by_cases h : 0 ≤ n ∧ n ≤ 5
  · have hf : Lv.fit n = true := by simp [Lv.fit, h]
    have hl : Lv.lv n = n := Lv.lv_of h.1 h.2
    rw [hl]
    clear h hl
    go_enter Try.func101, Try.ntmps101
    go_wp2_with (go_at_call 103; refine (fit_any _ _).mono ?_; rintro e w' ⟨rfl, rfl⟩)
    go_ret
    exact ⟨rfl, rfl⟩
  · have hf : Lv.fit n = false := by simp [Lv.fit, h]
    have hl : Lv.lv n = 2 := Lv.lv_no h
    rw [hl]
    clear h hl
    go_enter Try.func101, Try.ntmps101
    go_wp2_with (go_at_call 103; refine (fit_any _ _).mono ?_; rintro e w' ⟨rfl, rfl⟩)
    go_ret
    exact ⟨rfl, rfl⟩

theorem leq_any (a b : Int) (w : World) : Calls Try.prog 108 #[.int .i64 a, .int .i64 b] w fun e w' => e = .returned (.bool (Lv.leq a b)) ∧ w' = w := by
  unfold Lv.leq
  go_enter Try.func108, Try.ntmps108
  go_wp2_with (go_at_call 101; refine (meant_any _ _).mono ?_; rintro e w' ⟨rfl, rfl⟩)
  go_ret
  exact ⟨rfl, rfl⟩

theorem raise_any (n : Int) (w : World) : Calls Try.prog 81 #[.int .i64 n] w fun e w' => e = .returned (.int .i64 (Lv.raise n)) ∧ w' = w := by
  by_cases h : n = 0
  · subst h
    have hr : Lv.raise 0 = 5 := by decide
    rw [hr]
    go_enter Try.func81, Try.ntmps81
    go_wp2
    go_ret
    exact ⟨rfl, rfl⟩
  · have hn : (n == 0) = false := by simpa using h
    have hr : Lv.raise n = Lv.lv n := by unfold Lv.raise Lv.lv; split <;> simp_all
    rw [hr]
    clear h hr
    go_enter Try.func81, Try.ntmps81
    go_wp2_with (go_at_call 101; refine (meant_any _ _).mono ?_; rintro e w' ⟨rfl, rfl⟩)
    go_ret
    exact ⟨rfl, rfl⟩

theorem of_any (n : Int) (w : World) : Calls Try.prog 98 #[.int .i64 n] w fun e w' => e = .returned (.int .i64 (Lv.lv n)) ∧ w' = w := by
  by_cases h0 : n < 0
  · have hl : Lv.lv n = 2 := Lv.lv_no (by omega)
    rw [hl]
    clear hl
    go_enter Try.func98, Try.ntmps98
    go_wp2
    go_ret
    exact ⟨rfl, rfl⟩
  · by_cases h5 : 5 < n
    · have hl : Lv.lv n = 2 := Lv.lv_no (by omega)
      rw [hl]
      clear hl
      go_enter Try.func98, Try.ntmps98
      go_wp2
      go_ret
      exact ⟨rfl, rfl⟩
    · have hl : Lv.lv n = n := Lv.lv_of (by omega) (by omega)
      rw [hl]
      clear hl
      go_enter Try.func98, Try.ntmps98
      go_wp2
      go_ret
      exact ⟨rfl, rfl⟩

theorem rfit_any (n : Int) (w : World) : Calls Try.prog 97 #[.int .i64 n] w fun e w' => e = .returned (.bool (Lv.fit n)) ∧ w' = w := by
  by_cases h0 : 0 ≤ n
  · by_cases h5 : n ≤ 5
    · have hf : Lv.fit n = true := by simp [Lv.fit, h0, h5]
      rw [hf]
      go_enter Try.func97, Try.ntmps97
      go_wp2
      go_ret
      exact ⟨rfl, rfl⟩
    · have hf : Lv.fit n = false := by simp [Lv.fit, h0, h5]
      rw [hf]
      go_enter Try.func97, Try.ntmps97
      go_wp2
      go_ret
      exact ⟨rfl, rfl⟩
  · have hf : Lv.fit n = false := by simp [Lv.fit, h0]
    rw [hf]
    go_enter Try.func97, Try.ntmps97
    go_wp2
    go_ret
    exact ⟨rfl, rfl⟩

theorem rleq_any (a b : Int) (w : World) : Calls Try.prog 75 #[.int .i64 a, .int .i64 b] w fun e w' => e = .returned (.bool (Lv.leq a b)) ∧ w' = w := by
  unfold Lv.leq
  go_enter Try.func75, Try.ntmps75
  go_wp2_with (go_at_call 98; refine (of_any _ _).mono ?_; rintro e w' ⟨rfl, rfl⟩)
  go_ret
  exact ⟨rfl, rfl⟩

theorem rraise_any (n : Int) (w : World) : Calls Try.prog 82 #[.int .i64 n] w fun e w' => e = .returned (.int .i64 (Lv.raise n)) ∧ w' = w := by
  by_cases h : Lv.lv n = 0
  · have hr : Lv.raise n = 5 := by unfold Lv.raise; rw [if_pos h]
    have hn : (Lv.lv n == 0) = true := by simpa using h
    rw [hr]
    clear h hr
    go_enter Try.func82, Try.ntmps82
    go_wp2_with (go_at_call 98; refine (of_any _ _).mono ?_; rintro e w' ⟨rfl, rfl⟩)
    go_ret
    exact ⟨rfl, rfl⟩
  · have hr : Lv.raise n = Lv.lv n := by unfold Lv.raise; rw [if_neg h]
    have hn : (Lv.lv n == 0) = false := by simpa using h
    rw [hr]
    clear h hr
    go_enter Try.func82, Try.ntmps82
    go_wp2_with (go_at_call 98; refine (of_any _ _).mono ?_; rintro e w' ⟨rfl, rfl⟩)
    go_ret
    exact ⟨rfl, rfl⟩

end Go.Proofs.Ytfpmkihlfhpgdaa
