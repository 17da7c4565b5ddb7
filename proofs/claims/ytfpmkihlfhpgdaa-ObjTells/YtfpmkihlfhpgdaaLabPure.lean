/-
  PROVED HERE: plain facts on labels as lists of pairs of integers (no Go text), the second part: the categories of two labels. No condition.
-/
import Derived.Test.YtfpmkihlfhpgdaaLab
namespace Go.Proofs.Ytfpmkihlfhpgdaa

theorem takeR_len (L : List (Int × Int)) (c : Int) : (takeR L c).length ≤ L.length := by
  cases L with
  | nil => simp [takeR]
  | cons p r => simp only [takeR]; split <;> simp
theorem take_less {A C : List (Int × Int)} (h : 0 < A.length + C.length) : (takeR A (fore A C)).length + (takeR C (fore A C)).length < A.length + C.length := by
  have hA := takeR_len A (fore A C)
  have hC := takeR_len C (fore A C)
  cases A with
  | nil =>
    cases C with
    | nil => simp at h
    | cons q s => simp [fore, takeR]
  | cons p r =>
    cases C with
    | nil => simp [fore, takeR]
    | cons q s =>
      by_cases hpq : p.1 < q.1
      · have hf : fore (p :: r) (q :: s) = p.1 := by simp [fore, hpq]
        rw [hf] at hC ⊢
        have : takeR (p :: r) p.1 = r := by simp [takeR]
        rw [this]; simp at hC ⊢; omega
      · have hf : fore (p :: r) (q :: s) = q.1 := by simp [fore, hpq]
        rw [hf] at hA ⊢
        have : takeR (q :: s) q.1 = s := by simp [takeR]
        rw [this]; simp at hA ⊢; omega

/-- The categories that two labels name, each with both levels. -/
def bothN : Nat → List (Int × Int) → List (Int × Int) → List (Int × (Int × Int))
  | 0, _, _ => []
  | k + 1, A, C => if A.length + C.length = 0 then [] else (fore A C, (takeV A (fore A C), takeV C (fore A C))) :: bothN k (takeR A (fore A C)) (takeR C (fore A C))
def both (A C : List (Int × Int)) : List (Int × (Int × Int)) := bothN (A.length + C.length) A C
theorem bothN_fuel : ∀ (k m : Nat) (A C : List (Int × Int)), A.length + C.length ≤ k → A.length + C.length ≤ m → bothN k A C = bothN m A C := by
  intro k
  induction k with
  | zero =>
    intro m A C h _
    have h0 : A.length + C.length = 0 := by omega
    cases m with
    | zero => rfl
    | succ m => simp only [bothN]; rw [if_pos h0]
  | succ k ih =>
    intro m A C h hm
    by_cases h0 : A.length + C.length = 0
    · cases m with
      | zero => simp only [bothN]; rw [if_pos h0]
      | succ m => simp only [bothN]; rw [if_pos h0, if_pos h0]
    · cases m with
      | zero => omega
      | succ m =>
        have hl := take_less (A := A) (C := C) (by omega)
        simp only [bothN]
        rw [if_neg h0, if_neg h0, ih m _ _ (by omega) (by omega)]
theorem both_nil {A C : List (Int × Int)} (h : A.length + C.length = 0) : both A C = [] := by unfold both; rw [h]; rfl
theorem both_cons {A C : List (Int × Int)} (h : 0 < A.length + C.length) : both A C = (fore A C, (takeV A (fore A C), takeV C (fore A C))) :: both (takeR A (fore A C)) (takeR C (fore A C)) := by
  have hl := take_less h
  unfold both
  obtain ⟨j, hj⟩ : ∃ j, A.length + C.length = j + 1 := ⟨A.length + C.length - 1, by omega⟩
  rw [hj]
  simp only [bothN]
  rw [if_neg (by omega), bothN_fuel j _ _ _ (by omega) (Nat.le_refl _)]
end Go.Proofs.Ytfpmkihlfhpgdaa
