/-
  PROVED HERE: what Used and once of package intern return when they are called (contracts over this translation). No condition.
-/
import Derived.Test.YtjkncajcmdlmgaaItn4
namespace Go.Proofs.Ytjkncajcmdlmgaa
open Go.RowKit Go.Shelf
set_option linter.unusedVariables false
attribute [local go_sem] Oper.semAt_some

theorem askK_len {Z : Zt} {k : Nat} (h : k ≤ Z.length) : (askK Z k).length = (Z.take k).countP fun x => !decide (x.2 = 0) := by
  induction k with
  | zero => simp [askK]
  | succ k ih =>
    have e : Z.take (k + 1) = Z.take k ++ [zat Z k] := by
      rw [List.take_add_one, zat_lt (show k < Z.length by omega)]; rfl
    rw [e, List.countP_append, ← ih (by omega)]
    by_cases hz : (zat Z k).2 = 0
    · rw [askK_miss hz]; simp [hz]
    · rw [askK_hit hz]; simp [hz]
theorem askd_len (Z : Zt) : (askd Z).length = usd Z := by
  unfold askd usd; rw [askK_len (Nat.le_refl _), List.take_length]
theorem usd_le (Z : Zt) : usd Z ≤ Z.length := List.countP_le_length

/-- A place that is asked for finds some place. -/
theorem fnd_self {Z : Zt} {i : Nat} (hi : i < Z.length) (h : (zat Z i).2 ≠ 0) : ∃ j, fnd Z (zat Z i).1 = some j := by
  cases hf : fnd Z (zat Z i).1 with
  | some j => exact ⟨j, rfl⟩
  | none => exact absurd ⟨h, rfl⟩ (fnd_none.1 hf i hi)
theorem onceAt_iff {Z : Zt} {i : Nat} (hi : i < Z.length) (h : (zat Z i).2 ≠ 0) : onceAt Z i = decide (fN Z (zat Z i).1 = (i : Nat)) := by
  obtain ⟨j, hj⟩ := fnd_self hi h
  unfold onceAt fN
  rw [hj]
  simp [h]
  omega
theorem once_yes {Z : Zt} (h : ((askd Z).all fun i => decide (fN Z (zat Z i).1 = (i : Nat))) = true) : onceB Z = true := by
  unfold onceB
  rw [List.all_eq_true] at h ⊢
  intro i hi
  have hi := List.mem_range.1 hi
  by_cases hz : (zat Z i).2 = 0
  · unfold onceAt; simp [hz]
  · rw [onceAt_iff hi hz]; exact h i (askd_mem.2 ⟨hi, hz⟩)
theorem once_no {Z : Zt} {pre : List Nat} (hp : pre <+: askd Z) (h : (pre.all fun i => decide (fN Z (zat Z i).1 = (i : Nat))) = false) : onceB Z = false := by
  unfold onceB
  rw [List.all_eq_false] at h ⊢
  obtain ⟨x, hx, hy⟩ := h
  obtain ⟨h1, h2⟩ := askd_mem.1 (hp.subset hx)
  exact ⟨x, List.mem_range.2 h1, by rw [onceAt_iff h1 h2]; exact hy⟩

end Go.Proofs.Ytjkncajcmdlmgaa
