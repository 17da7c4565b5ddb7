/-
  PROVED HERE: what Fit, Same and Get of package intern return when they are called (contracts over this translation). Labels have fewer than 2^38 pairs.
-/
import Derived.Test.YtjkncajcmdlmgaaItn5
namespace Go.Proofs.Ytjkncajcmdlmgaa
open Go.ChangeShapes Go.WideShapes Go.ChangeAt Go.RowKit
set_option linter.unusedVariables false

theorem fitZ_stand {Z : Zt} {i : Nat} (hi : i < Z.length) (h : standB (zat Z i) = false) : fitZ Z = false := by
  have : Z.all standB = false := by rw [List.all_eq_false]; exact ⟨_, List.mem_of_getElem? (zat_lt hi), by simp [h]⟩
  unfold fitZ; simp [this]
theorem fitZ_all {Z : Zt} (h0 : Z.length ≤ 64) (h1 : lastB Z = true) (h2 : ∀ i, i < Z.length → standB (zat Z i) = true) : fitZ Z = onceB Z := by
  have : Z.all standB = true := by
    rw [List.all_eq_true]; intro x hx
    obtain ⟨j, hj, e⟩ := List.getElem_of_mem hx
    have e' : Z[j] = zat Z j := by have := zat_lt hj; rw [List.getElem?_eq_getElem hj] at this; exact Option.some.inj this
    rw [← e, e']; exact h2 j hj
  unfold fitZ; rw [this, h1, decide_eq_true h0]; simp
theorem lastB_no {Z : Zt} {n : Nat} (hl : Z.length = n + 1) (h : (zat Z n).2 = 0) : lastB Z = false := by unfold lastB; rw [hl]; simp [h]
theorem lastB_yes {Z : Zt} {n : Nat} (hl : Z.length = n + 1) (h : ¬ (zat Z n).2 = 0) : lastB Z = true := by unfold lastB; rw [hl]; simp [h]
theorem lastB_nil {Z : Zt} (hl : Z.length = 0) : lastB Z = true := by unfold lastB; rw [hl]; simp

end Go.Proofs.Ytjkncajcmdlmgaa
