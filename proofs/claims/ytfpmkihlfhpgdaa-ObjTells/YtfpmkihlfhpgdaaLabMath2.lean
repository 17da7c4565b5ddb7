/-
  PROVED HERE: plain facts on labels as lists of pairs of integers (no Go text), the fourth part: what is owned; a level that is set; labels raised and lowered. No condition.
-/
import Derived.Test.YtfpmkihlfhpgdaaLabArms
namespace Go.Proofs.Ytfpmkihlfhpgdaa

/-- The numbers rise, all above b. -/
def Ri : Int → List Int → Prop
  | _, [] => True
  | b, x :: r => b < x ∧ Ri x r
theorem Ri.low {b b' : Int} {C : List Int} (h : Ri b C) (k : b' ≤ b) : Ri b' C := by
  cases C with
  | nil => trivial
  | cons x r => exact ⟨by have := h.1; omega, h.2⟩
theorem owned_cons (p : Int × Int) (r : List (Int × Int)) : owned (p :: r) = (if p.2 = 0 then [p.1] else []) ++ owned r := by
  unfold owned
  rw [List.filter_cons]
  by_cases h : p.2 = 0 <;> simp [h]
theorem owned_ri : ∀ {L : List (Int × Int)} {b : Int}, Rc b L → Ri b (owned L) := by
  intro L
  induction L with
  | nil => intro b _; trivial
  | cons p r ih =>
    intro b h
    rw [owned_cons]
    by_cases hp : p.2 = 0
    · rw [if_pos hp]; exact ⟨h.1, ih h.2⟩
    · rw [if_neg hp]; exact (ih h.2).low (by have := h.1; omega)
theorem Ri.step : ∀ {C : List Int} {b : Int} {k : Nat}, Ri b C → k + 1 < C.length → C.getD k 0 < C.getD (k + 1) 0 := by
  intro C
  induction C with
  | nil => intro b k _ h; simp at h
  | cons x r ih =>
    intro b k h hk
    cases k with
    | zero =>
      cases r with
      | nil => simp at hk
      | cons y s => exact h.2.1
    | succ j => simpa using ih h.2 (by simpa using hk)
theorem owned_mem {L : List (Int × Int)} {b : Int} (h : Rc b L) (c : Int) : c ∈ owned L ↔ get L c = 0 := by
  unfold owned
  simp only [List.mem_map, List.mem_filter, decide_eq_true_eq]
  constructor
  · rintro ⟨p, ⟨hp, h0⟩, rfl⟩
    rw [get_mem h hp]; exact h0
  · intro hg
    have : ∀ {L : List (Int × Int)}, get L c = 0 → ∃ p ∈ L, p.2 = 0 ∧ p.1 = c := by
      intro L
      induction L with
      | nil => intro h; simp [get] at h
      | cons q r ih =>
        intro h
        simp only [get] at h
        by_cases hq : q.1 = c
        · rw [if_pos hq] at h; exact ⟨q, by simp, h, hq⟩
        · rw [if_neg hq] at h
          obtain ⟨p, hp, h1, h2⟩ := ih h
          exact ⟨p, by simp [hp], h1, h2⟩
    obtain ⟨p, hp, h1, h2⟩ := this hg
    exact ⟨p, ⟨hp, h1⟩, h2⟩
theorem owned_at {L : List (Int × Int)} {b : Int} (h : Rc b L) {k : Nat} (hk : k < (owned L).length) : get L ((owned L).getD k 0) = 0 := by
  rw [← owned_mem h]
  rw [List.getD_eq_getElem?_getD, List.getElem?_eq_getElem hk]
  exact List.getElem_mem hk
/-- Whether a category is among the first k that are owned. -/
def inK (L : List (Int × Int)) (c : Int) (k : Nat) : Bool := decide (c ∈ (owned L).take k)
theorem inK_zero (L : List (Int × Int)) (c : Int) : inK L c 0 = false := by simp [inK]
theorem inK_succ {L : List (Int × Int)} {c : Int} {k : Nat} (h : k < (owned L).length) : inK L c (k + 1) = (inK L c k || decide ((owned L).getD k 0 = c)) := by
  unfold inK
  rw [List.take_succ_eq_append_getElem h, List.getD_eq_getElem?_getD, List.getElem?_eq_getElem h, Bool.eq_iff_iff]
  simp only [List.mem_append, List.mem_singleton, Option.getD_some, Bool.or_eq_true, decide_eq_true_eq]
  constructor
  · intro h3
    rcases h3 with h3 | h3
    · exact .inl h3
    · exact .inr h3.symm
  · intro h3
    rcases h3 with h3 | h3
    · exact .inl h3
    · exact .inr h3.symm
theorem inK_all {L : List (Int × Int)} {b : Int} (hR : Rc b L) {c : Int} {k : Nat} (h : (owned L).length ≤ k) : inK L c k = (get L c == 0) := by
  unfold inK
  rw [List.take_of_length_le h]
  by_cases h1 : get L c = 0
  · rw [decide_eq_true ((owned_mem hR c).2 h1)]; simp [h1]
  · rw [decide_eq_false (fun h2 => h1 ((owned_mem hR c).1 h2))]; simp [h1]
theorem raise_owned {A : List (Int × Int)} (hA : Fit A) : owned (raiseL A) = [] := by
  obtain ⟨b, r⟩ := (raiseL_fit hA).rc
  cases h : owned (raiseL A) with
  | nil => rfl
  | cons x s =>
    exfalso
    have hx : x ∈ owned (raiseL A) := by rw [h]; simp
    rw [owned_mem r, raiseL_get hA] at hx
    split at hx <;> omega
theorem join_zero {A B : List (Int × Int)} (hA : Fit A) (hB : Fit B) (c : Int) : (get (joinL A B) c == 0) = ((get A c == 0) && (get B c == 0)) := by
  rw [joinL_get hA hB]
  have h1 := hA.range c
  have h2 := hB.range c
  rw [Bool.eq_iff_iff]
  simp only [beq_iff_eq, Bool.and_eq_true]
  omega
theorem meet_zero {A B : List (Int × Int)} (hA : Fit A) (hB : Fit B) (c : Int) : (get (meetL A B) c == 0) = ((get A c == 0) || (get B c == 0)) := by
  rw [meetL_get hA hB]
  have h1 := hA.range c
  have h2 := hB.range c
  rw [Bool.eq_iff_iff]
  simp only [beq_iff_eq, Bool.or_eq_true]
  omega

/-! A level that is set. -/
theorem setE_no {A : List (Int × Int)} {c l : Int} (h : setE A c l ≠ 0) : setL A c l = A := by
  unfold setE at h
  unfold setL
  by_cases h1 : Lv.fit l = true
  · rw [if_pos h1] at h ⊢
    by_cases h2 : (putP c (both A [(c, l)])).length ≤ 16
    · rw [if_pos h2] at h; exact absurd rfl h
    · rw [if_neg h2]
  · rw [if_neg h1]
theorem setE_ok {A : List (Int × Int)} {c l : Int} (h : setE A c l = 0) : setL A c l = putL A c l ∧ Lv.fit l = true := by
  unfold setE at h
  unfold setL putL
  by_cases h1 : Lv.fit l = true
  · rw [if_pos h1] at h ⊢
    by_cases h2 : (putP c (both A [(c, l)])).length ≤ 16
    · rw [if_pos h2]; exact ⟨rfl, h1⟩
    · rw [if_neg h2] at h; omega
  · rw [if_neg h1] at h; omega
theorem set_fit {A : List (Int × Int)} (hA : Fit A) {c l : Int} : Fit (setL A c l) := by
  by_cases h : setE A c l = 0
  · rw [(setE_ok h).1]; exact putL_fit hA (setE_ok h).2
  · rw [setE_no h]; exact hA
theorem set_get {A : List (Int × Int)} (hA : Fit A) {c l : Int} (h : setE A c l = 0) (k : Int) : get (setL A c l) k = if k = c then l else get A k := by
  rw [(setE_ok h).1]; exact putL_get hA c l k
theorem set_back {A : List (Int × Int)} (hA : Fit A) {c l : Int} (h : setE A c l = 0) (k : setE (setL A c l) c (get A c) = 0) : sameB (setL (setL A c l) c (get A c)) A = true := by
  refine same_of (set_fit (set_fit hA)) hA fun d => ?_
  rw [set_get (set_fit hA) k, set_get hA h]
  split
  · rename_i hd; rw [hd]
  · rfl

theorem set_len (A : List (Int × Int)) (c l : Int) : (setL A c l).length ≤ A.length + 1 := by
  by_cases h : setE A c l = 0
  · rw [(setE_ok h).1]
    unfold putL
    have h1 := putP_len c (both A [(c, l)])
    have h2 := both_len A [(c, l)]
    simp at h2
    omega
  · rw [setE_no h]; omega
def anyK (L : List (Int × Int)) (v : Int) (k : Nat) : Bool := (L.take k).any fun p => decide (p.2 = v)
theorem anyK_zero (L : List (Int × Int)) (v : Int) : anyK L v 0 = false := by simp [anyK]
theorem anyK_succ {L : List (Int × Int)} {v x y : Int} {k : Nat} (h : k < L.length) (e : L.getD k (0, 0) = (x, y)) : anyK L v (k + 1) = (anyK L v k || decide (y = v)) := by
  have e' : L[k] = (x, y) := by simpa [List.getD_eq_getElem?_getD, List.getElem?_eq_getElem h] using e
  unfold anyK
  rw [List.take_succ_eq_append_getElem h, e']
  simp
theorem any_no {L : List (Int × Int)} {v : Int} (hv : v ≠ 2) {k : Nat} (hk : L.length ≤ k) (h : anyK L v k = false) (c : Int) : get L c ≠ v := by
  unfold anyK at h
  rw [List.take_of_length_le hk] at h
  induction L with
  | nil => simp [get]; omega
  | cons p r ih =>
    simp only [List.any_cons, Bool.or_eq_false_iff, decide_eq_false_iff_not] at h
    simp only [get]
    split
    · exact h.1
    · exact ih (by simp at hk; omega) h.2
theorem up_down {A : List (Int × Int)} (hA : Fit A) (h : ∀ c, get A c ≠ 5) : sameB (lowerL (raiseL A)) A = true := same_of (lowerL_fit (raiseL_fit hA)) hA fun c => by
  have h1 := h c
  rw [lowerL_get (raiseL_fit hA), raiseL_get hA]
  by_cases h2 : get A c = 0
  · simp [h2]
  · simp [h2, h1]
theorem down_up {A : List (Int × Int)} (hA : Fit A) (h : ∀ c, get A c ≠ 0) : sameB (raiseL (lowerL A)) A = true := same_of (raiseL_fit (lowerL_fit hA)) hA fun c => by
  have h1 := h c
  rw [raiseL_get (lowerL_fit hA), lowerL_get hA]
  by_cases h2 : get A c = 5
  · simp [h2]
  · simp [h2, h1]
theorem leq_up {A : List (Int × Int)} (hA : Fit A) : leqB A (raiseL A) = true := (leqB_iff hA (raiseL_fit hA)).2 fun c => by
  rw [raiseL_get hA]; have := hA.range c; split <;> omega
theorem down_leq {A : List (Int × Int)} (hA : Fit A) : leqB (lowerL A) A = true := (leqB_iff (lowerL_fit hA) hA).2 fun c => by
  rw [lowerL_get hA]; have := hA.range c; split <;> omega
end Go.Proofs.Ytfpmkihlfhpgdaa
