/-
  PROVED HERE: plain facts on tables as lists (no Go text): a table that labels are asked for in and dropped from, each as often as it is still asked for. No condition.
-/
import Derived.Test.YtjkncajcmdlmgaaItn16
namespace Go.Proofs.Ytjkncajcmdlmgaa
set_option linter.unusedVariables false

theorem cover : ∀ (n : Nat) (M : List Nat), (∀ p, p < n → p ∈ M) → n ≤ M.length := by
  intro n
  induction n with
  | zero => intro M _; omega
  | succ n ih =>
    intro M h
    have hm := h n (by omega)
    have h1 := ih (M.erase n) (fun p hp => (List.mem_erase_of_ne (by omega)).2 (h p (by omega)))
    have h2 := List.length_erase_of_mem hm
    have h3 := List.length_pos_of_mem hm
    omega

/-- How many of the first k labels are at place p and not gone. -/
def cntP (A : Nat → Nat) (G : Nat → Bool) (k p : Nat) : Nat := (List.range k).countP fun i => !G i && decide (A i = p)
theorem cntP_le (A : Nat → Nat) (G : Nat → Bool) (k p : Nat) : cntP A G k p ≤ k := by have := List.countP_le_length (p := fun i => !G i && decide (A i = p)) (l := List.range k); simpa [cntP] using this
theorem cntP_succ (A : Nat → Nat) (G : Nat → Bool) (k p : Nat) : cntP A G (k + 1) p = cntP A G k p + if G k = false ∧ A k = p then 1 else 0 := by
  unfold cntP
  rw [List.range_succ, List.countP_append]
  simp only [List.countP_singleton, Bool.and_eq_true, Bool.not_eq_true', decide_eq_true_eq]
theorem cntP_pos {A : Nat → Nat} {G : Nat → Bool} {k i : Nat} (hi : i < k) (hg : G i = false) : 0 < cntP A G k (A i) := by
  unfold cntP
  rw [List.countP_pos_iff]
  exact ⟨i, List.mem_range.2 hi, by simp [hg]⟩
theorem cntP_has {A : Nat → Nat} {G : Nat → Bool} {k p : Nat} (h : 0 < cntP A G k p) : ∃ i, i < k ∧ A i = p := by
  unfold cntP at h
  rw [List.countP_pos_iff] at h
  obtain ⟨i, hi, hq⟩ := h
  simp at hq
  exact ⟨i, List.mem_range.1 hi, hq.2⟩
theorem cntP_congr {A A' : Nat → Nat} {G G' : Nat → Bool} {k p : Nat} (h : ∀ i, i < k → A i = A' i ∧ G i = G' i) : cntP A G k p = cntP A' G' k p := by
  induction k with
  | zero => rfl
  | succ k ih => rw [cntP_succ, cntP_succ, ih (fun i hi => h i (by omega)), (h k (by omega)).1, (h k (by omega)).2]
def upd (A : Nat → Nat) (k p : Nat) : Nat → Nat := fun i => if i = k then p else A i
def updG (G : Nat → Bool) (j : Nat) : Nat → Bool := fun i => if i = j then true else G i
theorem cntP_gone {A : Nat → Nat} {G : Nat → Bool} {k j p : Nat} (hj : j < k) (hg : G j = false) : cntP A G k p = cntP A (updG G j) k p + if A j = p then 1 else 0 := by
  induction k with
  | zero => omega
  | succ k ih =>
    rw [cntP_succ, cntP_succ]
    by_cases h : j = k
    · subst h
      rw [cntP_congr (A' := A) (G' := updG G j) (fun i hi => ⟨rfl, by unfold updG; rw [if_neg (by omega)]⟩)]
      have : updG G j j = true := by simp [updG]
      rw [this, hg]
      by_cases hp : A j = p <;> simp [hp]
    · rw [ih (by omega)]
      have : updG G j k = G k := by unfold updG; rw [if_neg (by omega)]
      rw [this]
      omega

/-- The table behind asking for the labels L i, i < k, at the places A i, and dropping those of which G holds. -/
structure Inv (L : Nat → List (Int × Int)) (A : Nat → Nat) (G : Nat → Bool) (k : Nat) (Z : Zt) : Prop where
  fit : FitP Z
  lab : ∀ i, i < k → G i = false → (zat Z (A i)).1 = L i
  cnt : ∀ p, (zat Z p).2 = (cntP A G k p : Nat)
theorem inv_nil (L : Nat → List (Int × Int)) (A : Nat → Nat) (G : Nat → Bool) : Inv L A G 0 [] where
  fit := fit_nil
  lab := fun i hi => by omega
  cnt := fun p => by rw [zat_out (by simp)]; rfl
theorem Inv.asks {L : Nat → List (Int × Int)} {A : Nat → Nat} {G : Nat → Bool} {k : Nat} {Z : Zt} (h : Inv L A G k Z) {i : Nat} (hi : i < k) (hg : G i = false) : A i < Z.length ∧ (zat Z (A i)).2 ≠ 0 := by
  have h1 : (zat Z (A i)).2 ≠ 0 := by rw [h.cnt]; have := cntP_pos (A := A) hi hg; omega
  refine ⟨?_, h1⟩
  rcases Nat.lt_or_ge (A i) Z.length with h2 | h2
  · exact h2
  · rw [zat_out h2] at h1; exact absurd rfl h1
theorem Inv.found {L : Nat → List (Int × Int)} {A : Nat → Nat} {G : Nat → Bool} {k : Nat} {Z : Zt} (h : Inv L A G k Z) {i : Nat} (hi : i < k) (hg : G i = false) : fnd Z (L i) = some (A i) := by
  obtain ⟨h1, h2⟩ := h.asks hi hg
  refine fnd_some.2 ⟨h1, ⟨h2, h.lab i hi hg⟩, fun j hj hn => ?_⟩
  have := h.fit.uniq j (A i) (by omega) h1 hn.1 h2 (by rw [hn.2, h.lab i hi hg])
  omega
theorem Inv.gets {L : Nat → List (Int × Int)} {A : Nat → Nat} {G : Nat → Bool} {k : Nat} {Z : Zt} (h : Inv L A G k Z) {i : Nat} (hi : i < k) (hg : G i = false) : getR Z (A i) = (L i, 0) := by
  obtain ⟨h1, h2⟩ := h.asks hi hg
  have : asksB Z (A i) = true := by unfold asksB; simp [h1, h2]
  unfold getR
  rw [if_pos this]
  simp [h.lab i hi hg]
theorem Inv.add {L : Nat → List (Int × Int)} {A : Nat → Nat} {G : Nat → Bool} {k : Nat} {Z : Zt} (h : Inv L A G k Z) (hk : k < 60) (hl : keepB (L k) = true) (hg : G k = false) :
    ∃ p : Nat, p < 64 ∧ (addR Z (L k)).2 = ((p : Int), 0) ∧ Inv L (upd A k p) G (k + 1) (addR Z (L k)).1 := by
  have hfit := fit_add (l := L k) h.fit
  have hc : ∀ p q, cntP (upd A k p) G (k + 1) q = cntP A G k q + if p = q then 1 else 0 := fun p q => by
    rw [cntP_succ, cntP_congr (A' := A) (G' := G) (fun i hi => ⟨by unfold upd; rw [if_neg (by omega)], rfl⟩)]
    have : upd A k p k = p := by simp [upd]
    rw [this]; simp [hg]
  cases hf : fnd Z (L k) with
  | some i =>
    obtain ⟨hi, ⟨h0, hl1⟩, _⟩ := fnd_some.1 hf
    have hne : (zat Z i).2 ≠ 1073741824 := by rw [h.cnt]; have := cntP_le A G k i; omega
    have ea : addR Z (L k) = (Z.set i ((zat Z i).1, (zat Z i).2 + 1), (i : Int), 0) := by unfold addR; simp [hl, hf, hne]
    rw [ea] at hfit ⊢
    refine ⟨i, by have := h.fit.len; omega, rfl, hfit, fun j hj hgj => ?_, fun p => ?_⟩
    · show (zat (Z.set i _) _).1 = _
      unfold upd
      by_cases hjk : j = k
      · subst hjk; rw [if_pos rfl, zat_set, if_pos ⟨rfl, hi⟩]; exact hl1
      · rw [if_neg hjk, zat_set]
        split
        · rename_i q; rw [q.1]; exact h.lab j (by omega) hgj
        · exact h.lab j (by omega) hgj
    · show (zat (Z.set i _) p).2 = _
      rw [hc, zat_set]
      by_cases hp : i = p
      · subst hp; rw [if_pos ⟨rfl, hi⟩, if_pos rfl]; show (zat Z i).2 + 1 = _; rw [h.cnt]; omega
      · rw [if_neg (by omega), if_neg hp, h.cnt]; omega
  | none =>
    have hne : free Z ≠ 64 := by
      intro hfull
      have h1 : ∀ p, p < 64 → p ∈ (List.range k).map A := fun p hp => by
        have h2 := free_lt (Z := Z) (j := p) (by omega)
        rw [h.cnt] at h2
        obtain ⟨i, hi, hA⟩ := cntP_has (A := A) (G := G) (k := k) (p := p) (by omega)
        exact List.mem_map.2 ⟨i, List.mem_range.2 hi, hA⟩
      have := cover 64 _ h1
      simp at this
      omega
    have hfl := free_le Z
    have hz : (zat Z (free Z)).2 = 0 := by
      rcases Nat.lt_or_ge (free Z) Z.length with h2 | h2
      · exact free_at h2
      · rw [zat_out h2]
    have ea : addR Z (L k) = (putAt Z (free Z) (L k, 1), (free Z : Int), 0) := by unfold addR; simp [hl, hf, hne]
    rw [ea] at hfit ⊢
    refine ⟨free Z, by have := h.fit.len; omega, rfl, hfit, fun j hj hgj => ?_, fun p => ?_⟩
    · show (zat (putAt Z (free Z) _) _).1 = _
      unfold upd
      rw [zat_putAt hfl]
      by_cases hjk : j = k
      · subst hjk; rw [if_pos rfl, if_pos rfl]
      · rw [if_neg hjk]
        have h2 := (h.asks (i := j) (by omega) hgj).2
        rw [if_neg (fun e => by rw [e] at h2; exact h2 hz)]
        exact h.lab j (by omega) hgj
    · show (zat (putAt Z (free Z) _) p).2 = _
      rw [hc, zat_putAt hfl]
      by_cases hp : p = free Z
      · subst hp; rw [if_pos rfl, if_pos rfl]; have := h.cnt (free Z); rw [hz] at this; show (1 : Int) = _; omega
      · rw [if_neg hp, if_neg (fun e => hp e.symm), h.cnt]; omega
theorem Inv.drop {L : Nat → List (Int × Int)} {A : Nat → Nat} {G : Nat → Bool} {k : Nat} {Z : Zt} (h : Inv L A G k Z) {j : Nat} (hj : j < k) (hg : G j = false) :
    (dropR Z (A j)).2 = 0 ∧ Inv L A (updG G j) k (dropR Z (A j)).1 := by
  obtain ⟨h1, h2⟩ := h.asks hj hg
  have hfit := fit_drop (at_ := (A j : Int)) h.fit
  have ha : asksB Z (A j) = true := by unfold asksB; simp [h1, h2]
  have ed : dropR Z (A j) = (trim (dropI Z (A j)), 0) := by unfold dropR; rw [if_pos ha]; simp
  rw [ed] at hfit ⊢
  have hc2 : ∀ p, (zat (trim (dropI Z (A j))) p).2 = (cntP A (updG G j) k p : Nat) := fun p => by
    have h4 : (zat (trim (dropI Z (A j))) p).2 = (zat (dropI Z (A j)) p).2 := by
      unfold trim; rw [zat_take]; split
      · rfl
      · rw [endOf_zero p (by omega)]
    rw [h4, zat_drop h1]
    have h5 := cntP_gone (A := A) (p := p) hj hg
    have h6 := h.cnt p
    by_cases hp : p = A j
    · subst hp; rw [if_pos rfl] at h5 ⊢; show (zat Z (A j)).2 - 1 = _; omega
    · rw [if_neg hp]; rw [if_neg (fun e => hp e.symm)] at h5; omega
  refine ⟨rfl, hfit, fun i hi hgi => ?_, hc2⟩
  have hij : i ≠ j := fun e => by subst e; simp [updG] at hgi
  have hgi' : G i = false := by unfold updG at hgi; rw [if_neg hij] at hgi; exact hgi
  have h3 : (zat (trim (dropI Z (A j))) (A i)).2 ≠ 0 := by rw [hc2]; have := cntP_pos (A := A) hi hgi; omega
  show (zat (trim (dropI Z (A j))) (A i)).1 = _
  unfold trim at h3 ⊢
  rw [zat_take] at h3 ⊢
  by_cases he : A i < endOf (dropI Z (A j))
  · rw [if_pos he] at h3 ⊢
    rw [zat_drop h1] at h3 ⊢
    by_cases hp : A i = A j
    · rw [if_pos hp] at h3 ⊢
      unfold less at h3 ⊢
      have h3' : (zat Z (A j)).2 - 1 ≠ 0 := h3
      rw [if_neg h3', ← hp]
      exact h.lab i hi hgi'
    · rw [if_neg hp]; exact h.lab i hi hgi'
  · rw [if_neg he] at h3; exact absurd rfl h3
theorem Inv.congr {L : Nat → List (Int × Int)} {A : Nat → Nat} {G G' : Nat → Bool} {k : Nat} {Z : Zt} (h : Inv L A G k Z) (hG : ∀ i, G i = G' i) : Inv L A G' k Z := by
  rw [show G' = G from funext fun i => (hG i).symm]; exact h
theorem Inv.empty {L : Nat → List (Int × Int)} {A : Nat → Nat} {G : Nat → Bool} {k : Nat} {Z : Zt} (h : Inv L A G k Z) (hG : ∀ i, i < k → G i = true) : Z = [] := by
  rcases Nat.eq_zero_or_pos Z.length with h0 | h0
  · exact List.eq_nil_of_length_eq_zero h0
  · have h1 := h.fit.last h0
    rw [h.cnt] at h1
    exfalso
    obtain ⟨i, hi, hq⟩ := List.countP_pos_iff.1 (show 0 < cntP A G k (Z.length - 1) by omega)
    simp [hG i (List.mem_range.1 hi)] at hq
end Go.Proofs.Ytjkncajcmdlmgaa
