/-
  PROVED HERE: plain facts on labels as lists of pairs of integers (no Go text), the third part: a label is its levels; the order, the greater and the lesser levels. No condition.
-/
import Derived.Test.YtfpmkihlfhpgdaaLabFold
import Derived.Test.YtfpmkihlfhpgdaaLabLeq
import Derived.Test.YtfpmkihlfhpgdaaLabSet
import Derived.Test.YtfpmkihlfhpgdaaLabOwned
namespace Go.Proofs.Ytfpmkihlfhpgdaa

/-- The categories rise, all above b. -/
def Rc : Int → List (Int × Int) → Prop
  | _, [] => True
  | b, p :: r => b < p.1 ∧ Rc p.1 r
def lok (v : Int) : Prop := 0 ≤ v ∧ v ≤ 5 ∧ v ≠ 2
/-- The label is fit. -/
def Fit (L : List (Int × Int)) : Prop := (∃ b, Rc b L) ∧ ∀ p ∈ L, lok p.2
theorem Rc.low {b b' : Int} {L : List (Int × Int)} (h : Rc b L) (k : b' ≤ b) : Rc b' L := by
  cases L with
  | nil => trivial
  | cons p r => exact ⟨by have := h.1; omega, h.2⟩
theorem okAt_zero {p : Int × Int} {r : List (Int × Int)} (h : okAt (p :: r) 0 = true) : lok p.2 := by
  simp [okAt, Lv.fit] at h
  exact ⟨h.1.1, h.1.2, h.2⟩
theorem okAt_succ {p : Int × Int} {r : List (Int × Int)} {j : Nat} (h : okAt (p :: r) (j + 1) = true) : okAt r j = true ∧ (j = 0 → p.1 < (r.getD 0 (0, 0)).1) := by
  simp only [okAt, Bool.and_eq_true, Bool.or_eq_true, Bool.not_eq_true', decide_eq_true_eq, decide_eq_false_iff_not, List.getD_cons_succ] at h ⊢
  obtain ⟨h1, h2, h3⟩ := h
  refine ⟨⟨h1, h2, ?_⟩, ?_⟩
  · cases j with
    | zero => exact .inl rfl
    | succ i => exact .inr (by simpa using h3)
  · intro hj; subst hj; simpa using h3
theorem fit_of {L : List (Int × Int)} : (∀ j, j < L.length → okAt L j = true) → (∀ p ∈ L, lok p.2) ∧ ∀ b, (∀ q s, L = q :: s → b < q.1) → Rc b L := by
  induction L with
  | nil => intro _; exact ⟨fun p hp => (by cases hp), fun _ _ => trivial⟩
  | cons p r ih =>
    intro h
    have h0 := okAt_zero (h 0 (by simp))
    have hr : ∀ j, j < r.length → okAt r j = true := fun j hj => (okAt_succ (h (j + 1) (by simpa using hj))).1
    obtain ⟨i1, i2⟩ := ih hr
    refine ⟨fun q hq => ?_, fun b hb => ⟨hb p r rfl, i2 p.1 fun q s e => ?_⟩⟩
    · rcases List.mem_cons.1 hq with rfl | hq
      · exact h0
      · exact i1 q hq
    · subst e
      have := (okAt_succ (h 1 (by simp))).2 rfl
      simpa using this
theorem fit_iff {L : List (Int × Int)} : fitB L = true → Fit L := by
  intro h
  unfold fitB at h
  rw [List.all_eq_true] at h
  obtain ⟨h1, h2⟩ := fit_of (L := L) (fun j hj => h j (List.mem_range.2 hj))
  refine ⟨?_, h1⟩
  cases L with
  | nil => exact ⟨0, trivial⟩
  | cons p r => exact ⟨p.1 - 1, h2 _ (fun q s e => by cases e; omega)⟩
theorem okAt_cons {p : Int × Int} {r : List (Int × Int)} {j : Nat} (h : okAt r j = true) (hp : j = 0 → p.1 < (r.getD 0 (0, 0)).1) : okAt (p :: r) (j + 1) = true := by
  simp only [okAt, Bool.and_eq_true, Bool.or_eq_true, Bool.not_eq_true', decide_eq_true_eq, decide_eq_false_iff_not, List.getD_cons_succ] at h ⊢
  obtain ⟨h1, h2, h3⟩ := h
  refine ⟨h1, h2, .inr ?_⟩
  cases j with
  | zero => simpa using hp rfl
  | succ i => simpa using h3
theorem fitB_of : ∀ {L : List (Int × Int)} {b : Int}, Rc b L → (∀ p ∈ L, lok p.2) → ∀ j, j < L.length → okAt L j = true := by
  intro L
  induction L with
  | nil => intro b _ _ j hj; simp at hj
  | cons p r ih =>
    intro b hR hl j hj
    cases j with
    | zero =>
      have h0 := hl p (by simp)
      simp [okAt, Lv.fit]
      exact ⟨⟨h0.1, h0.2.1⟩, h0.2.2⟩
    | succ i =>
      refine okAt_cons (ih hR.2 (fun q hq => hl q (by simp [hq])) i (by simpa using hj)) (fun hi => ?_)
      subst hi
      cases r with
      | nil => simp at hj
      | cons q s => exact hR.2.1
theorem fitB_fit {L : List (Int × Int)} (h : Fit L) : fitB L = true := by
  obtain ⟨⟨b, hb⟩, hl⟩ := h
  exact fitB_yes (fitB_of hb hl)

theorem get_low {L : List (Int × Int)} : ∀ {b c : Int}, Rc b L → c ≤ b → get L c = 2 := by
  induction L with
  | nil => intro b c _ _; rfl
  | cons p r ih =>
    intro b c h hc
    have hp := h.1
    simp only [get]
    rw [if_neg (by omega)]
    exact ih h.2 (by omega)
theorem get_mem {L : List (Int × Int)} : ∀ {b : Int} {p : Int × Int}, Rc b L → p ∈ L → get L p.1 = p.2 := by
  induction L with
  | nil => intro b p _ hp; cases hp
  | cons q r ih =>
    intro b p h hp
    rcases List.mem_cons.1 hp with rfl | hp
    · simp [get]
    · have hg := ih h.2 hp
      simp only [get]
      by_cases he : q.1 = p.1
      · have hlow := get_low h.2 (c := p.1) (by omega)
        exfalso
        have : ∀ {b : Int} {L : List (Int × Int)}, Rc b L → p ∈ L → b < p.1 := by
          intro b L
          induction L generalizing b with
          | nil => intro _ h; cases h
          | cons x y ihy =>
            intro h hm
            rcases List.mem_cons.1 hm with rfl | hm
            · exact h.1
            · have := ihy h.2 hm; have := h.1; omega
        have := this h.2 hp
        omega
      · rw [if_neg he]; exact hg
theorem get_range {L : List (Int × Int)} (h : ∀ p ∈ L, lok p.2) (c : Int) : 0 ≤ get L c ∧ get L c ≤ 5 := by
  induction L with
  | nil => simp [get]
  | cons p r ih =>
    simp only [get]
    split
    · exact ⟨(h p (by simp)).1, (h p (by simp)).2.1⟩
    · exact ih (fun q hq => h q (by simp [hq]))
/-- A label is its levels. -/
theorem ext_rc : ∀ {A C : List (Int × Int)} {b b' : Int}, Rc b A → Rc b' C → (∀ p ∈ A, lok p.2) → (∀ p ∈ C, lok p.2) → (∀ c, get A c = get C c) → A = C := by
  intro A
  induction A with
  | nil =>
    intro C b b' _ hC _ lC h
    cases C with
    | nil => rfl
    | cons q s =>
      have h1 := h q.1
      simp [get] at h1
      exact absurd h1.symm (lC q (by simp)).2.2
  | cons p r ih =>
    intro C b b' hA hC lA lC h
    cases C with
    | nil =>
      have h1 := h p.1
      simp [get] at h1
      exact absurd h1 (lA p (by simp)).2.2
    | cons q s =>
      have hpq : p.1 = q.1 := by
        rcases Int.lt_trichotomy p.1 q.1 with hlt | he | hgt
        · exfalso
          have h1 := h p.1
          have h2 : get (q :: s) p.1 = 2 := get_low (b := p.1) (show Rc p.1 (q :: s) from ⟨hlt, hC.2⟩) (by omega)
          rw [h2] at h1
          simp [get] at h1
          exact (lA p (by simp)).2.2 h1
        · exact he
        · exfalso
          have h1 := h q.1
          have h2 : get (p :: r) q.1 = 2 := get_low (b := q.1) (show Rc q.1 (p :: r) from ⟨hgt, hA.2⟩) (by omega)
          rw [h2] at h1
          simp [get] at h1
          exact (lC q (by simp)).2.2 h1.symm
      have hv : p.2 = q.2 := by
        have h1 := h p.1
        simp [get, hpq] at h1
        exact h1
      have hrs : r = s := by
        refine ih hA.2 hC.2 (fun x hx => lA x (by simp [hx])) (fun x hx => lC x (by simp [hx])) (fun c => ?_)
        by_cases hc : c ≤ p.1
        · rw [get_low hA.2 hc, get_low hC.2 (by omega)]
        · have h1 := h c
          simp only [get] at h1
          rwa [if_neg (by omega), if_neg (by omega)] at h1
      rw [hrs, Prod.ext hpq hv]
theorem ext {A C : List (Int × Int)} (hA : Fit A) (hC : Fit C) (h : ∀ c, get A c = get C c) : A = C := by
  obtain ⟨⟨b, r⟩, l⟩ := hA
  obtain ⟨⟨b', r'⟩, l'⟩ := hC
  exact ext_rc r r' l l' h

/-- Labels folded by a function of a category and two levels. -/
def foldH (h : Int → Int → Int → Int) (pre : List (Int × (Int × Int))) : List (Int × Int) := pre.foldl (fun acc x => snoc acc x.1 (h x.1 x.2.1 x.2.2)) []
theorem foldP_H (op : Int → Int → Int) (pre : List (Int × (Int × Int))) : foldP op pre = foldH (fun _ x y => op x y) pre := rfl
theorem putP_H (c : Int) (pre : List (Int × (Int × Int))) : putP c pre = foldH (fun k x y => if k = c then y else x) pre := rfl
theorem snoc_app (A : List (Int × Int)) (c l : Int) : snoc A c l = A ++ snoc [] c l := by unfold snoc; split <;> simp
theorem foldH_acc (h : Int → Int → Int → Int) : ∀ (pre : List (Int × (Int × Int))) (acc : List (Int × Int)), pre.foldl (fun acc x => snoc acc x.1 (h x.1 x.2.1 x.2.2)) acc = acc ++ foldH h pre := by
  intro pre
  induction pre with
  | nil => intro acc; simp [foldH]
  | cons x r ih =>
    intro acc
    simp only [foldH, List.foldl_cons]
    rw [ih, ih (snoc [] x.1 (h x.1 x.2.1 x.2.2)), snoc_app acc]
    simp
theorem foldH_cons (h : Int → Int → Int → Int) (x : Int × (Int × Int)) (r : List (Int × (Int × Int))) : foldH h (x :: r) = snoc [] x.1 (h x.1 x.2.1 x.2.2) ++ foldH h r := by
  simp only [foldH, List.foldl_cons]
  exact foldH_acc h r _

theorem take_facts {A : List (Int × Int)} {b c : Int} (h : Rc b A) (hc : ∀ p r, A = p :: r → c ≤ p.1) : Rc c (takeR A c) ∧ takeV A c = get A c ∧ ∀ k, k ≠ c → get (takeR A c) k = get A k := by
  cases A with
  | nil => exact ⟨trivial, rfl, fun _ _ => rfl⟩
  | cons p r =>
    have hcp := hc p r rfl
    by_cases he : p.1 = c
    · have e1 : takeR (p :: r) c = r := by simp [takeR, he]
      rw [e1]
      refine ⟨he ▸ h.2, by simp [takeV, get, he], fun k hk => ?_⟩
      simp only [get]
      rw [if_neg (by omega)]
    · have e1 : takeR (p :: r) c = p :: r := by simp [takeR, he]
      rw [e1]
      refine ⟨⟨by omega, h.2⟩, ?_, fun _ _ => rfl⟩
      have hlow : get (p :: r) c = 2 := get_low (b := c) (show Rc c (p :: r) from ⟨by omega, h.2⟩) (by omega)
      rw [hlow]
      simp [takeV, he]
theorem fore_facts {A C : List (Int × Int)} (h : 0 < A.length + C.length) : (∀ p r, A = p :: r → fore A C ≤ p.1) ∧ (∀ p r, C = p :: r → fore A C ≤ p.1) ∧ ∀ b, Rc b A → Rc b C → b < fore A C := by
  cases A with
  | nil =>
    cases C with
    | nil => simp at h
    | cons q s => exact ⟨fun _ _ e => (by cases e), fun p r e => (by cases e; simp [fore]), fun b _ hC => hC.1⟩
  | cons p r =>
    cases C with
    | nil => exact ⟨fun _ _ e => (by cases e; simp [fore]), fun p r e => (by cases e), fun b hA _ => hA.1⟩
    | cons q s =>
      by_cases hpq : p.1 < q.1
      · have e : fore (p :: r) (q :: s) = p.1 := by simp [fore, hpq]
        rw [e]
        exact ⟨fun _ _ e => (by cases e; omega), fun _ _ e => (by cases e; omega), fun b hA _ => hA.1⟩
      · have e : fore (p :: r) (q :: s) = q.1 := by simp [fore, hpq]
        rw [e]
        exact ⟨fun _ _ e => (by cases e; omega), fun _ _ e => (by cases e; omega), fun b _ hC => hC.1⟩

theorem fold_main (h : Int → Int → Int → Int) (h2 : ∀ k, h k 2 2 = 2) : ∀ (N : Nat) {A C : List (Int × Int)} {b : Int}, A.length + C.length ≤ N → Rc b A → Rc b C →
    Rc b (foldH h (both A C)) ∧ (∀ p ∈ foldH h (both A C), p.2 ≠ 2) ∧ ∀ k, get (foldH h (both A C)) k = h k (get A k) (get C k) := by
  intro N
  induction N with
  | zero =>
    intro A C b hN _ _
    have hA : A = [] := List.eq_nil_of_length_eq_zero (by omega)
    have hC : C = [] := List.eq_nil_of_length_eq_zero (by omega)
    subst hA hC
    exact ⟨trivial, fun p hp => (by cases hp), fun k => (h2 k).symm⟩
  | succ N ih =>
    intro A C b hN hA hC
    by_cases h0 : A.length + C.length = 0
    · exact ih (by omega) hA hC
    · obtain ⟨f1, f2, f3⟩ := fore_facts (A := A) (C := C) (by omega)
      have hbc := f3 b hA hC
      obtain ⟨a1, a2, a3⟩ := take_facts (c := fore A C) hA f1
      obtain ⟨c1, c2, c3⟩ := take_facts (c := fore A C) hC f2
      have hl := take_less (A := A) (C := C) (by omega)
      obtain ⟨i1, i2, i3⟩ := ih (A := takeR A (fore A C)) (C := takeR C (fore A C)) (b := fore A C) (by omega) a1 c1
      rw [both_cons (by omega), foldH_cons]
      dsimp only
      rw [a2, c2]
      by_cases hv : h (fore A C) (get A (fore A C)) (get C (fore A C)) = 2
      · rw [snoc_two hv, List.nil_append]
        refine ⟨i1.low (by omega), i2, fun k => ?_⟩
        by_cases hk : k = fore A C
        · rw [hk, hv]; exact get_low i1 (by omega)
        · rw [i3, a3 k hk, c3 k hk]
      · rw [snoc_new hv]
        simp only [List.nil_append, List.cons_append]
        refine ⟨⟨hbc, i1⟩, fun p hp => ?_, fun k => ?_⟩
        · rcases List.mem_cons.1 hp with rfl | hp
          · exact hv
          · exact i2 p hp
        · simp only [get]
          by_cases hk : fore A C = k
          · rw [if_pos hk, ← hk]
          · rw [if_neg hk, i3, a3 k (Ne.symm hk), c3 k (Ne.symm hk)]
theorem Rc.both_low {A C : List (Int × Int)} {b b' : Int} (h : Rc b A) (k : Rc b' C) : Rc (min b b') A ∧ Rc (min b b') C := ⟨h.low (by omega), k.low (by omega)⟩
theorem fold_get {h : Int → Int → Int → Int} (h2 : ∀ k, h k 2 2 = 2) {A C : List (Int × Int)} {b b' : Int} (hA : Rc b A) (hC : Rc b' C) (k : Int) : get (foldH h (both A C)) k = h k (get A k) (get C k) :=
  (fold_main h h2 _ (Nat.le_refl _) (hA.both_low hC).1 (hA.both_low hC).2).2.2 k
theorem fold_fit {h : Int → Int → Int → Int} (h2 : ∀ k, h k 2 2 = 2) {A C : List (Int × Int)} {b b' : Int} (hA : Rc b A) (hC : Rc b' C) (hr : ∀ k, 0 ≤ h k (get A k) (get C k) ∧ h k (get A k) (get C k) ≤ 5) : Fit (foldH h (both A C)) := by
  obtain ⟨r, n2, g⟩ := fold_main h h2 _ (Nat.le_refl _) (hA.both_low hC).1 (hA.both_low hC).2
  refine ⟨⟨_, r⟩, fun p hp => ?_⟩
  have e := get_mem r hp
  rw [g] at e
  have := hr p.1
  rw [e] at this
  exact ⟨this.1, this.2, n2 p hp⟩

theorem leq_main : ∀ (N : Nat) {A C : List (Int × Int)} {b : Int}, A.length + C.length ≤ N → Rc b A → Rc b C → (leqB A C = true ↔ ∀ k, Lv.leq (get A k) (get C k) = true) := by
  intro N
  induction N with
  | zero =>
    intro A C b hN _ _
    have hA : A = [] := List.eq_nil_of_length_eq_zero (by omega)
    have hC : C = [] := List.eq_nil_of_length_eq_zero (by omega)
    subst hA hC
    exact ⟨fun _ k => by show Lv.leq 2 2 = true; decide, fun _ => rfl⟩
  | succ N ih =>
    intro A C b hN hA hC
    by_cases h0 : A.length + C.length = 0
    · exact ih (by omega) hA hC
    · obtain ⟨f1, f2, f3⟩ := fore_facts (A := A) (C := C) (by omega)
      obtain ⟨a1, a2, a3⟩ := take_facts (c := fore A C) hA f1
      obtain ⟨c1, c2, c3⟩ := take_facts (c := fore A C) hC f2
      have hl := take_less (A := A) (C := C) (by omega)
      have i := ih (A := takeR A (fore A C)) (C := takeR C (fore A C)) (b := fore A C) (by omega) a1 c1
      unfold leqB at i ⊢
      rw [both_cons (by omega), List.all_cons, Bool.and_eq_true, i]
      dsimp only
      rw [a2, c2]
      refine ⟨fun ⟨h1, h2⟩ k => ?_, fun h => ⟨h _, fun k => ?_⟩⟩
      · by_cases hk : k = fore A C
        · rw [hk]; exact h1
        · have := h2 k; rwa [a3 k hk, c3 k hk] at this
      · by_cases hk : k = fore A C
        · rw [hk, get_low a1 (by omega), get_low c1 (by omega)]; decide
        · rw [a3 k hk, c3 k hk]; exact h k
theorem leqB_iff {A C : List (Int × Int)} (hA : Fit A) (hC : Fit C) : leqB A C = true ↔ ∀ k, get A k ≤ get C k := by
  obtain ⟨⟨b, r⟩, l⟩ := hA
  obtain ⟨⟨b', r'⟩, l'⟩ := hC
  rw [leq_main _ (Nat.le_refl _) (r.both_low r').1 (r.both_low r').2]
  have key : ∀ k, Lv.leq (get A k) (get C k) = true ↔ get A k ≤ get C k := by
    intro k
    have h1 := get_range l k
    have h2 := get_range l' k
    rw [Lv.leq_iff, Lv.lv_of h1.1 h1.2, Lv.lv_of h2.1 h2.2]
  exact ⟨fun h k => (key k).1 (h k), fun h k => (key k).2 (h k)⟩

def joinL (A C : List (Int × Int)) : List (Int × Int) := foldP Lv.join (both A C)
def meetL (A C : List (Int × Int)) : List (Int × Int) := foldP Lv.meet (both A C)
def raiseL (A : List (Int × Int)) : List (Int × Int) := foldP (fun x _ => Lv.raise x) (both A [])
def lowerL (A : List (Int × Int)) : List (Int × Int) := foldP (fun x _ => Lv.lower x) (both A [])
theorem Fit.rc {A : List (Int × Int)} (h : Fit A) : ∃ b, Rc b A := h.1
theorem Fit.nil : Fit [] := ⟨⟨0, trivial⟩, fun p hp => (by cases hp)⟩
theorem Fit.range {A : List (Int × Int)} (h : Fit A) (k : Int) : 0 ≤ get A k ∧ get A k ≤ 5 := get_range h.2 k
theorem joinL_get {A C : List (Int × Int)} (hA : Fit A) (hC : Fit C) (k : Int) : get (joinL A C) k = max (get A k) (get C k) := by
  obtain ⟨b, r⟩ := hA.rc
  obtain ⟨b', r'⟩ := hC.rc
  have h := fold_get (h := fun _ x y => Lv.join x y) (fun _ => by decide) r r' k
  have h1 := hA.range k
  have h2 := hC.range k
  rw [Lv.join_max, Lv.lv_of h1.1 h1.2, Lv.lv_of h2.1 h2.2] at h
  exact h
theorem meetL_get {A C : List (Int × Int)} (hA : Fit A) (hC : Fit C) (k : Int) : get (meetL A C) k = min (get A k) (get C k) := by
  obtain ⟨b, r⟩ := hA.rc
  obtain ⟨b', r'⟩ := hC.rc
  have h := fold_get (h := fun _ x y => Lv.meet x y) (fun _ => by decide) r r' k
  have h1 := hA.range k
  have h2 := hC.range k
  rw [Lv.meet_min, Lv.lv_of h1.1 h1.2, Lv.lv_of h2.1 h2.2] at h
  exact h
theorem joinL_fit {A C : List (Int × Int)} (hA : Fit A) (hC : Fit C) : Fit (joinL A C) := by
  obtain ⟨b, r⟩ := hA.rc
  obtain ⟨b', r'⟩ := hC.rc
  exact fold_fit (h := fun _ x y => Lv.join x y) (fun _ => by decide) r r' (fun k => ⟨Lv.join_lo _ _, Lv.join_hi _ _⟩)
theorem meetL_fit {A C : List (Int × Int)} (hA : Fit A) (hC : Fit C) : Fit (meetL A C) := by
  obtain ⟨b, r⟩ := hA.rc
  obtain ⟨b', r'⟩ := hC.rc
  exact fold_fit (h := fun _ x y => Lv.meet x y) (fun _ => by decide) r r' (fun k => ⟨Lv.meet_lo _ _, Lv.meet_hi _ _⟩)
theorem raiseL_get {A : List (Int × Int)} (hA : Fit A) (k : Int) : get (raiseL A) k = if get A k = 0 then 5 else get A k := by
  obtain ⟨b, r⟩ := hA.rc
  have h := fold_get (h := fun _ x _ => Lv.raise x) (fun _ => by decide) r (C := []) (b' := 0) trivial k
  have h1 := hA.range k
  unfold Lv.raise at h
  rw [Lv.lv_of h1.1 h1.2] at h
  exact h
theorem lowerL_get {A : List (Int × Int)} (hA : Fit A) (k : Int) : get (lowerL A) k = if get A k = 5 then 0 else get A k := by
  obtain ⟨b, r⟩ := hA.rc
  have h := fold_get (h := fun _ x _ => Lv.lower x) (fun _ => by decide) r (C := []) (b' := 0) trivial k
  have h1 := hA.range k
  unfold Lv.lower at h
  rw [Lv.lv_of h1.1 h1.2] at h
  exact h
theorem raiseL_fit {A : List (Int × Int)} (hA : Fit A) : Fit (raiseL A) := by
  obtain ⟨b, r⟩ := hA.rc
  exact fold_fit (h := fun _ x _ => Lv.raise x) (fun _ => by decide) r (C := []) (b' := 0) trivial (fun k => ⟨Lv.raise_lo _, Lv.raise_hi _⟩)
theorem lowerL_fit {A : List (Int × Int)} (hA : Fit A) : Fit (lowerL A) := by
  obtain ⟨b, r⟩ := hA.rc
  exact fold_fit (h := fun _ x _ => Lv.lower x) (fun _ => by decide) r (C := []) (b' := 0) trivial (fun k => ⟨Lv.lower_lo _, Lv.lower_hi _⟩)
def putL (A : List (Int × Int)) (c l : Int) : List (Int × Int) := putP c (both A [(c, l)])
theorem putL_get {A : List (Int × Int)} (hA : Fit A) (c l k : Int) : get (putL A c l) k = if k = c then l else get A k := by
  obtain ⟨b, r⟩ := hA.rc
  have h := fold_get (h := fun k x y => if k = c then y else x) (fun k => by split <;> rfl) r (C := [(c, l)]) (b' := c - 1) ⟨by omega, trivial⟩ k
  refine h.trans ?_
  by_cases hk : k = c
  · subst hk; simp [get]
  · simp [hk]
theorem putL_fit {A : List (Int × Int)} (hA : Fit A) {c l : Int} (hl : Lv.fit l = true) : Fit (putL A c l) := by
  obtain ⟨b, r⟩ := hA.rc
  refine fold_fit (h := fun k x y => if k = c then y else x) (fun k => by split <;> rfl) r (C := [(c, l)]) (b' := c - 1) ⟨by omega, trivial⟩ (fun k => ?_)
  by_cases hk : k = c
  · subst hk; simp [get]; simpa [Lv.fit] using hl
  · simp [hk]; exact hA.range k
end Go.Proofs.Ytfpmkihlfhpgdaa
