/-
  PROVED HERE: a program's words, and its first error, instruction by instruction (plain facts on lists). No condition.
-/
import Derived.Test.YtnghendglcblkaaGreatDoorAsm8
namespace Go.Proofs.YtnghendglcblkaaGreatDoor
open Go.RowKit Go.Shelf
set_option linter.unusedVariables false
open Asm

/-- The j-th instruction's line, its error and its word. -/
def insX (l : List Ln) (j : Nat) : Ln := l.getD (lineOf l j) default
def errX (l : List Ln) (j : Nat) : Nat := err2 l (plcOf l j) (insX l j)
def wrdX (l : List Ln) (j : Nat) : Int := wrd l (plcOf l j) (insX l j)
theorem plc_at {l : List Ln} {k : Nat} (hk : k < l.length) : plcOf l (cnt (l.take k)) = cnt (l.take k) :=
  Nat.min_eq_left (Nat.le_trans (cntK_le l k) (by omega))
theorem errX_at {l : List Ln} {k : Nat} (hk : k < l.length) (h : emB (l.getD k default).mark = true) : errX l (cnt (l.take k)) = err2 l (cnt (l.take k)) (l.getD k default) := by
  unfold errX insX; rw [lineOf_at hk h, plc_at hk]
theorem wrdX_at {l : List Ln} {k : Nat} (hk : k < l.length) (h : emB (l.getD k default).mark = true) : wrdX l (cnt (l.take k)) = wrd l (cnt (l.take k)) (l.getD k default) := by
  unfold wrdX insX; rw [lineOf_at hk h, plc_at hk]
theorem Zer.of {f : List Ln → Ln → Nat} {l : List Ln} : ∀ {k : Nat}, k ≤ l.length → (∀ i, i < k → f (l.take i) (l.getD i default) = 0) → Zer f l k
  | 0, _, _ => Zer.zero
  | k + 1, hk, h => (Zer.of (k := k) (by omega) (fun i hi => h i (by omega))).step (by omega) (h k (by omega))
theorem cnt_mono {l : List Ln} {i k : Nat} (h : i ≤ k) (hk : k ≤ l.length) : cnt (l.take i) ≤ cnt (l.take k) := by
  rw [← insK_len (by omega), ← insK_len hk]; exact (insK_pre h).length_le
theorem line_spec {l : List Ln} : ∀ {k j : Nat}, k ≤ l.length → j < cnt (l.take k) → ∃ i, i < k ∧ emB (l.getD i default).mark = true ∧ cnt (l.take i) = j
  | 0, j, _, h => by simp [cnt] at h
  | k + 1, j, hk, h => by
    cases e : emB (l.getD k default).mark with
    | true =>
      rw [cnt_hit (by omega) e] at h
      by_cases hj : j = cnt (l.take k)
      · exact ⟨k, by omega, e, hj.symm⟩
      · obtain ⟨i, h1, h2, h3⟩ := line_spec (l := l) (k := k) (j := j) (by omega) (by omega)
        exact ⟨i, by omega, h2, h3⟩
    | false =>
      rw [cnt_miss (by omega) e] at h
      obtain ⟨i, h1, h2, h3⟩ := line_spec (l := l) (k := k) (j := j) (by omega) h
      exact ⟨i, by omega, h2, h3⟩
theorem bad2_at {l : List Ln} {i : Nat} (hi : i < l.length) : bad2 l (l.take i) (l.getD i default) = if emB (l.getD i default).mark then errX l (cnt (l.take i)) else 0 := by
  unfold bad2
  split
  · rename_i e; rw [errX_at hi e]
  · rfl
theorem scan_ins {l : List Ln} {j : Nat} (hj : j < cnt l) (h0 : ∀ y, y < j → errX l y = 0) (h1 : errX l j ≠ 0) : scan (bad2 l) [] l = (lineOf l j, errX l j) := by
  obtain ⟨k, hk, he, hc⟩ := line_spec (l := l) (k := l.length) (j := j) (Nat.le_refl _) (by rw [List.take_length]; exact hj)
  have hl : lineOf l j = k := by rw [← hc]; exact lineOf_at hk he
  have hb : bad2 l (l.take k) (l.getD k default) = errX l j := by rw [bad2_at hk, if_pos he, hc]
  have hz : Zer (bad2 l) l k := Zer.of (by omega) fun i hi => by
    rw [bad2_at (by omega)]
    split
    · rename_i e
      refine h0 _ ?_
      have h2 := cnt_mono (l := l) (i := i + 1) (k := k) (by omega) (by omega)
      rw [cnt_hit (by omega) e] at h2
      omega
    · rfl
  rw [hz.stop hk (by rw [hb]; exact h1), hb, hl]
theorem scan_none {l : List Ln} (h0 : ∀ y, y < cnt l → errX l y = 0) : scan (bad2 l) [] l = (0, 0) :=
  Zer.all (Zer.of (Nat.le_refl _) fun i hi => by
    rw [bad2_at hi]
    split
    · rename_i e
      refine h0 _ ?_
      have h2 := cnt_mono (l := l) (i := i + 1) (k := l.length) (by omega) (Nat.le_refl _)
      rw [cnt_hit hi e, List.take_length] at h2
      omega
    · rfl)
theorem wds_range {l : List Ln} : ∀ {k : Nat}, k ≤ l.length → wds l (l.take k) 0 = (List.range (cnt (l.take k))).map (wrdX l)
  | 0, _ => rfl
  | k + 1, hk => by
    have ih := wds_range (l := l) (k := k) (by omega)
    rw [take_snoc (by omega), wds_app, ih, Nat.zero_add]
    have hw := fun e => wrdX_at (l := l) (k := k) (by omega) e
    cases e : emB (l.getD k default).mark with
    | true =>
      rw [cnt_app, show cnt [l.getD k default] = 1 by unfold cnt; rw [e]; rfl, List.range_succ, List.map_append, List.map_cons, List.map_nil, hw e]
      unfold wds
      rw [e]; rfl
    | false =>
      rw [cnt_app, show cnt [l.getD k default] = 0 by unfold cnt; rw [e]; rfl]
      unfold wds
      rw [e]
      simp [wds]
theorem wds_all (l : List Ln) : wds l l 0 = (List.range (cnt l)).map (wrdX l) := by
  have := wds_range (l := l) (Nat.le_refl _)
  rwa [List.take_length] at this
theorem put_words {l : List Ln} (h1 : scan bad1 [] l = (0, 0)) (h2 : ∀ y, y < cnt l → errX l y = 0) : putW l = (List.range (cnt l)).map (wrdX l) ∧ putK l = 0 ∧ putE l = 0 := by
  unfold putW putK putE put
  rw [if_neg (by rw [h1]; simp), if_neg (by rw [scan_none h2]; simp)]
  exact ⟨wds_all l, rfl, rfl⟩
theorem put_second {l : List Ln} {j : Nat} (h1 : scan bad1 [] l = (0, 0)) (hj : j < cnt l) (h2 : ∀ y, y < j → errX l y = 0) (h3 : errX l j ≠ 0) : putW l = [] ∧ putK l = lineOf l j ∧ putE l = errX l j := by
  have hs := scan_ins hj h2 h3
  unfold putW putK putE put
  rw [if_neg (by rw [h1]; simp), if_pos (by rw [hs]; exact h3), hs]
  exact ⟨rfl, rfl, rfl⟩
end Go.Proofs.YtnghendglcblkaaGreatDoor
