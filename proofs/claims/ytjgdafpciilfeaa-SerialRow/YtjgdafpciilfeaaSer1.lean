/-
  PROVED HERE: plain facts on rows of spans (no Go text): whoever takes and parts numbers, all that have some have none in common, and no number is taken twice. No condition.
-/
import Derived.WalkKit
namespace Go.Proofs.Ytjgdafpciilfeaa.Sr
set_option linter.unusedVariables false

abbrev Sp := Nat × Nat
def inS (p : Sp) (x : Nat) : Prop := p.1 ≤ x ∧ x < p.2
abbrev nth (H : List Sp) (i : Nat) : Sp := H.getD i (0, 0)
abbrev nthN (T : List Nat) (i : Nat) : Nat := T.getD i 0
theorem nth_set {H : List Sp} {i : Nat} (p : Sp) (hi : i < H.length) (j : Nat) : nth (H.set i p) j = if j = i then p else nth H j := by
  unfold nth
  rw [List.getD_eq_getElem?_getD, List.getD_eq_getElem?_getD, List.getElem?_set]
  by_cases h : i = j
  · subst h; simp [hi]
  · rw [if_neg h, if_neg (fun e => h e.symm)]
theorem nth_snoc (H : List Sp) (p : Sp) (j : Nat) (hj : j < H.length + 1) : nth (H ++ [p]) j = if j = H.length then p else nth H j := by
  unfold nth
  rw [List.getD_eq_getElem?_getD, List.getD_eq_getElem?_getD]
  by_cases h : j = H.length
  · subst h; simp
  · rw [if_neg h, List.getElem?_append_left (by omega)]
theorem nthN_snoc (T : List Nat) (p : Nat) (j : Nat) (hj : j < T.length + 1) : nthN (T ++ [p]) j = if j = T.length then p else nthN T j := by
  unfold nthN
  rw [List.getD_eq_getElem?_getD, List.getD_eq_getElem?_getD]
  by_cases h : j = T.length
  · subst h; simp
  · rw [if_neg h, List.getElem?_append_left (by omega)]

/-- Of the numbers s these spans are had and these numbers are taken. -/
structure Inv (s : Sp) (H : List Sp) (T : List Nat) : Prop where
  fit : ∀ i, i < H.length → s.1 ≤ (nth H i).1 ∧ (nth H i).1 ≤ (nth H i).2 ∧ (nth H i).2 ≤ s.2
  apart : ∀ i j, i < H.length → j < H.length → i ≠ j → ∀ x, inS (nth H i) x → ¬ inS (nth H j) x
  tin : ∀ k, k < T.length → inS s (nthN T k)
  tout : ∀ k i, k < T.length → i < H.length → ¬ inS (nth H i) (nthN T k)
  tne : ∀ k l, k < T.length → l < T.length → k ≠ l → nthN T k ≠ nthN T l
theorem Inv.new {s : Sp} (h : s.1 ≤ s.2) : Inv s [s] [] where
  fit := fun i hi => by
    obtain rfl : i = 0 := by simpa using hi
    exact ⟨Nat.le_refl _, h, Nat.le_refl _⟩
  apart := fun i j hi hj hij => by simp at hi hj; omega
  tin := fun k hk => by simp at hk
  tout := fun k i hk => by simp at hk
  tne := fun k l hk => by simp at hk
section
variable {s : Sp} {H : List Sp} {T : List Nat} {i : Nat}
theorem Inv.take (h : Inv s H T) (hi : i < H.length) {a b : Nat} (e : nth H i = (a, b)) (hab : a < b) : Inv s (H.set i (a + 1, b)) (T ++ [a]) := by
  have f := h.fit i hi
  rw [e] at f
  simp only at f
  have sub : ∀ j x, inS (nth (H.set i (a + 1, b)) j) x → inS (nth H j) x := by
    intro j x hx
    rw [nth_set _ hi] at hx
    by_cases hj : j = i
    · subst hj; rw [if_pos rfl] at hx; rw [e]; unfold inS at hx ⊢; simp only at hx ⊢; omega
    · rwa [if_neg hj] at hx
  have ha : inS (nth H i) a := by rw [e]; exact ⟨Nat.le_refl _, hab⟩
  refine ⟨fun j hj => ?_, fun j k hj hk hjk x h1 h2 => ?_, fun k hk => ?_, fun k j hk hj hx => ?_, fun k l hk hl hkl => ?_⟩
  · rw [List.length_set] at hj
    rw [nth_set _ hi]
    by_cases hji : j = i
    · rw [if_pos hji]; simp only; omega
    · rw [if_neg hji]; exact h.fit j hj
  · rw [List.length_set] at hj hk
    exact h.apart j k hj hk hjk x (sub _ _ h1) (sub _ _ h2)
  · simp only [List.length_append, List.length_singleton] at hk
    rw [nthN_snoc _ _ _ hk]
    split
    · exact ⟨by omega, by omega⟩
    · exact h.tin k (by omega)
  · simp only [List.length_append, List.length_singleton] at hk
    rw [List.length_set] at hj
    rw [nthN_snoc _ _ _ hk] at hx
    by_cases hkT : k = T.length
    · rw [if_pos hkT] at hx
      by_cases hji : j = i
      · rw [nth_set _ hi, if_pos hji] at hx; unfold inS at hx; simp only at hx; omega
      · exact h.apart i j hi hj (fun q => hji q.symm) a ha (sub _ _ hx)
    · rw [if_neg hkT] at hx
      exact h.tout k j (by omega) hj (sub _ _ hx)
  · simp only [List.length_append, List.length_singleton] at hk hl
    rw [nthN_snoc _ _ _ hk, nthN_snoc _ _ _ hl]
    by_cases hkT : k = T.length
    · rw [if_pos hkT, if_neg (by omega)]
      intro q
      exact h.tout l i (by omega) hi (q ▸ ha)
    · rw [if_neg hkT]
      by_cases hlT : l = T.length
      · rw [if_pos hlT]
        intro q
        exact h.tout k i (by omega) hi (q ▸ ha)
      · rw [if_neg hlT]
        exact h.tne k l (by omega) (by omega) hkl
theorem Inv.part (h : Inv s H T) (hi : i < H.length) {a b q : Nat} (e : nth H i = (a, b)) (hq : q ≤ b - a) : Inv s (H.set i (a, b - q) ++ [(b - q, b)]) T := by
  have f := h.fit i hi
  rw [e] at f
  simp only at f
  have len : (H.set i (a, b - q)).length = H.length := List.length_set
  have at' : ∀ j, j < H.length + 1 → nth (H.set i (a, b - q) ++ [(b - q, b)]) j = if j = H.length then (b - q, b) else if j = i then (a, b - q) else nth H j := by
    intro j hj
    rw [nth_snoc _ _ _ (by rw [len]; exact hj), len, nth_set _ hi]
  -- where a number of j was
  have sub : ∀ j x, j < H.length + 1 → inS (nth (H.set i (a, b - q) ++ [(b - q, b)]) j) x → inS (nth H (if j = H.length then i else j)) x := by
    intro j x hj hx
    rw [at' j hj] at hx
    by_cases h1 : j = H.length
    · rw [if_pos h1] at hx ⊢; rw [e]; unfold inS at hx ⊢; simp only at hx ⊢; omega
    · rw [if_neg h1] at hx ⊢
      by_cases h2 : j = i
      · rw [if_pos h2] at hx; rw [h2, e]; unfold inS at hx ⊢; simp only at hx ⊢; omega
      · rwa [if_neg h2] at hx
  refine ⟨fun j hj => ?_, fun j k hj hk hjk x h1 h2 => ?_, h.tin, fun k j hk hj hx => ?_, h.tne⟩
  · simp only [List.length_append, List.length_set, List.length_singleton] at hj
    rw [at' j hj]
    split
    · simp only; omega
    · split
      · simp only; omega
      · exact h.fit j (by omega)
  · simp only [List.length_append, List.length_set, List.length_singleton] at hj hk
    by_cases hw : (if j = H.length then i else j) = (if k = H.length then i else k)
    · rw [at' j hj] at h1
      rw [at' k hk] at h2
      by_cases a1 : j = H.length
      · rw [if_pos a1, if_neg (by omega)] at hw
        rw [if_pos a1] at h1
        rw [if_neg (by omega), if_pos hw.symm] at h2
        unfold inS at h1 h2; simp only at h1 h2; omega
      · rw [if_neg a1] at hw h1
        by_cases a2 : k = H.length
        · rw [if_pos a2] at hw h2
          rw [if_pos hw] at h1
          unfold inS at h1 h2; simp only at h1 h2; omega
        · rw [if_neg a2] at hw; omega
    · exact h.apart _ _ (by split <;> omega) (by split <;> omega) hw x (sub _ _ hj h1) (sub _ _ hk h2)
  · simp only [List.length_append, List.length_set, List.length_singleton] at hj
    exact h.tout k _ hk (by split <;> omega) (sub _ _ hj hx)
theorem set_same {H : List Sp} {i : Nat} (hi : i < H.length) : H.set i (nth H i) = H := by
  unfold nth
  rw [List.getD_eq_getElem?_getD, List.getElem?_eq_getElem hi]
  simp
/-- No number in both, told by the ends. -/
theorem Inv.ends (h : Inv s H T) {j k : Nat} (hj : j < H.length) (hk : k < H.length) (hjk : j ≠ k) : min (nth H j).2 (nth H k).2 ≤ max (nth H j).1 (nth H k).1 := by
  by_cases hlt : max (nth H j).1 (nth H k).1 < min (nth H j).2 (nth H k).2
  · exact absurd (show inS (nth H k) (max (nth H j).1 (nth H k).1) by unfold inS; omega) (h.apart j k hj hk hjk _ (by unfold inS; omega))
  · omega
end
end Go.Proofs.Ytjgdafpciilfeaa.Sr
