/-
  PROVED HERE: what each function of package level, and of the document's answer to it, returns when it is called (contracts over this translation). No condition.
-/
import Derived.Test.YtjkncajcmdlmgaaRows
import Derived.Test.YtjkncajcmdlmgaaLv
import Derived.WalkKit
import Derived.ProofKit
import Derived.OpenShut
import Derived.Below
namespace Go.Proofs.Ytjkncajcmdlmgaa
open Go.ChangeShapes Go.WideShapes Go.ChangeAt Go.RowKit
set_option linter.unusedVariables false

/-- Two steps of which each leaves what was there. -/
theorem next {w a b : World} (h : Below w.heap.size w a) (k : Below a.heap.size a b) : Below w.heap.size w b := h.trans (k.mono h.size)



theorem fit_any (n : Int) (w : World) : Calls Try.prog 29 #[.int .i64 n] w fun e w' => e = .returned (.bool (Lv.fit n)) ∧ w' = w := by
  by_cases h0 : 0 ≤ n
  · by_cases h5 : n ≤ 5
    · have hf : Lv.fit n = true := by simp [Lv.fit, h0, h5]
      rw [hf]
      go_enter Try.func29, Try.ntmps29
      go_wp2
      go_ret
      exact ⟨rfl, rfl⟩
    · have hf : Lv.fit n = false := by simp [Lv.fit, h0, h5]
      rw [hf]
      go_enter Try.func29, Try.ntmps29
      go_wp2
      go_ret
      exact ⟨rfl, rfl⟩
  · have hf : Lv.fit n = false := by simp [Lv.fit, h0]
    rw [hf]
    go_enter Try.func29, Try.ntmps29
    go_wp2
    go_ret
    exact ⟨rfl, rfl⟩

theorem rfit_any (n : Int) (w : World) : Calls Try.prog 9 #[.int .i64 n] w fun e w' => e = .returned (.bool (Lv.fit n)) ∧ w' = w := by
  by_cases h0 : 0 ≤ n
  · by_cases h5 : n ≤ 5
    · have hf : Lv.fit n = true := by simp [Lv.fit, h0, h5]
      rw [hf]
      go_enter Try.func9, Try.ntmps9
      go_wp2
      go_ret
      exact ⟨rfl, rfl⟩
    · have hf : Lv.fit n = false := by simp [Lv.fit, h0, h5]
      rw [hf]
      go_enter Try.func9, Try.ntmps9
      go_wp2
      go_ret
      exact ⟨rfl, rfl⟩
  · have hf : Lv.fit n = false := by simp [Lv.fit, h0]
    rw [hf]
    go_enter Try.func9, Try.ntmps9
    go_wp2
    go_ret
    exact ⟨rfl, rfl⟩

end Go.Proofs.Ytjkncajcmdlmgaa
