/-
 PROVED HERE: plain facts on labels as lists of pairs of integers (no Go text), the third part: a label is its levels; the o. What is asked stands at each.
-/
import Derived.OrdersHeld
import Derived.OrdersIn
import Derived.Deep.RegionHeld
import Derived.RangeFuncCalls
import Derived.RangeFuncNested
import Derived.OwnWalkIn
import Derived.WalkSpells
import Derived.Laws.AppendOwnNone
import Derived.Test.YtlaagheeemkklaaZ0
import Derived.Test.YtlaagheeemkklaaZ2
import Derived.Test.YtlaagheeemkklaaZ4
namespace Go.Proofs.Ytlaagheeemkklaa
set_option maxRecDepth 100000
set_option maxHeartbeats 8000000

def Rc : Int → List (Int × Int) → Prop
 | _, [] => True
 | b, p :: r => b < p.1 ∧ Rc p.1 r
def lok (v : Int) : Prop := 0 ≤ v ∧ v ≤ 5 ∧ v ≠ 2
def Fit (L : List (Int × Int)) : Prop := (∃ b, Rc b L) ∧ ∀ p ∈ L, lok p.2
theorem Rc.low {b b' : Int} {L : List (Int × Int)} (h : Rc b L) (k : b' ≤ b) : Rc b' L := by
 cases L with
 | nil => trivial
 | cons p r => exact ⟨by have := h.1; omega, h.2⟩
theorem okAt_zero {p : Int × Int} {r : List (Int × Int)} (h : okAt (p :: r) 0 = true) : lok p.2 := by
 simp [okAt, Lv.fit] at h
 exact ⟨h.1.1, h.1.2, h.2⟩
theorem okAt_succ {p : Int × Int} {r : List (Int × Int)} {j : Nat} (h : okAt (p :: r) (j + 1) = true) : okAt r j = true ∧ (j = 0 → p.1 < (r.getD 0 (0, 0)).1) := by
 simp only [okAt, Bool.and_eq_true, Bool.or_eq_true, Bool.not_eq_true', decide_eq_true_eq, decide_eq_false_iff_not, List.getD_cons_succ] at h ⊢
 obtain ⟨h1, h2, h3⟩ := h
 refine ⟨⟨h1, h2, ?_⟩, ?_⟩
 ·cases j with
  | zero => exact .inl rfl
  | succ i => exact .inr (by simpa using h3)
 ·intro hj; subst hj; simpa using h3
theorem fit_of {L : List (Int × Int)} : (∀ j, j < L.length → okAt L j = true) → (∀ p ∈ L, lok p.2) ∧ ∀ b, (∀ q s, L = q :: s → b < q.1) → Rc b L := by
 induction L with
 | nil => intro _; exact ⟨fun p hp => (by cases hp), fun _ _ => trivial⟩
 | cons p r ih =>
  intro h
  have h0 := okAt_zero (h 0 (by simp))
  have hr : ∀ j, j < r.length → okAt r j = true := fun j hj => (okAt_succ (h (j + 1) (by simpa using hj))).1
  obtain ⟨i1, i2⟩ := ih hr
  refine ⟨fun q hq => ?_, fun b hb => ⟨hb p r rfl, i2 p.1 fun q s e => ?_⟩⟩
  ·rcases List.mem_cons.1 hq with rfl | hq
   ·exact h0
   ·exact i1 q hq
  ·subst e
   have := (okAt_succ (h 1 (by simp))).2 rfl
   simpa using this
theorem fit_iff {L : List (Int × Int)} : fitB L = true → Fit L := by
 intro h
 unfold fitB at h
 rw [List.all_eq_true] at h
 obtain ⟨h1, h2⟩ := fit_of (L := L) (fun j hj => h j (List.mem_range.2 hj))
 refine ⟨?_, h1⟩
 cases L with
 | nil => exact ⟨0, trivial⟩
 | cons p r => exact ⟨p.1 - 1, h2 _ (fun q s e => by cases e; omega)⟩
theorem get_low {L : List (Int × Int)} : ∀ {b c : Int}, Rc b L → c ≤ b → get L c = 2 := by
 induction L with
 | nil => intro b c _ _; rfl
 | cons p r ih =>
  intro b c h hc
  have hp := h.1
  simp only [get]
  rw [if_neg (by omega)]
  exact ih h.2 (by omega)
theorem get_mem {L : List (Int × Int)} : ∀ {b : Int} {p : Int × Int}, Rc b L → p ∈ L → get L p.1 = p.2 := by
 induction L with
 | nil => intro b p _ hp; cases hp
 | cons q r ih =>
  intro b p h hp
  rcases List.mem_cons.1 hp with rfl | hp
  ·simp [get]
  ·have hg := ih h.2 hp
   simp only [get]
   by_cases he : q.1 = p.1
   ·have hlow := get_low h.2 (c := p.1) (by omega)
    exfalso
    have : ∀ {b : Int} {L : List (Int × Int)}, Rc b L → p ∈ L → b < p.1 := by
     intro b L
     induction L generalizing b with
     | nil => intro _ h; cases h
     | cons x y ihy =>
      intro h hm
      rcases List.mem_cons.1 hm with rfl | hm
      ·exact h.1
      ·have := ihy h.2 hm; have := h.1; omega
    have := this h.2 hp
    omega
   ·rw [if_neg he]; exact hg
theorem get_range {L : List (Int × Int)} (h : ∀ p ∈ L, lok p.2) (c : Int) : 0 ≤ get L c ∧ get L c ≤ 5 := by
 induction L with
 | nil => simp [get]
 | cons p r ih =>
  simp only [get]
  split
  ·exact ⟨(h p (by simp)).1, (h p (by simp)).2.1⟩
  ·exact ih (fun q hq => h q (by simp [hq]))
theorem ext_rc : ∀ {A C : List (Int × Int)} {b b' : Int}, Rc b A → Rc b' C → (∀ p ∈ A, lok p.2) → (∀ p ∈ C, lok p.2) → (∀ c, get A c = get C c) → A = C := by
 intro A
 induction A with
 | nil =>
  intro C b b' _ hC _ lC h
  cases C with
  | nil => rfl
  | cons q s =>
   have h1 := h q.1
   simp [get] at h1
   exact absurd h1.symm (lC q (by simp)).2.2
 | cons p r ih =>
  intro C b b' hA hC lA lC h
  cases C with
  | nil =>
   have h1 := h p.1
   simp [get] at h1
   exact absurd h1 (lA p (by simp)).2.2
  | cons q s =>
   have hpq : p.1 = q.1 := by
    rcases Int.lt_trichotomy p.1 q.1 with hlt | he | hgt
    ·exfalso
     have h1 := h p.1
     have h2 : get (q :: s) p.1 = 2 := get_low (b := p.1) (show Rc p.1 (q :: s) from ⟨hlt, hC.2⟩) (by omega)
     rw [h2] at h1
     simp [get] at h1
     exact (lA p (by simp)).2.2 h1
    ·exact he
    ·exfalso
     have h1 := h q.1
     have h2 : get (p :: r) q.1 = 2 := get_low (b := q.1) (show Rc q.1 (p :: r) from ⟨hgt, hA.2⟩) (by omega)
     rw [h2] at h1
     simp [get] at h1
     exact (lC q (by simp)).2.2 h1.symm
   have hv : p.2 = q.2 := by
    have h1 := h p.1
    simp [get, hpq] at h1
    exact h1
   have hrs : r = s := by
    refine ih hA.2 hC.2 (fun x hx => lA x (by simp [hx])) (fun x hx => lC x (by simp [hx])) (fun c => ?_)
    by_cases hc : c ≤ p.1
    ·rw [get_low hA.2 hc, get_low hC.2 (by omega)]
    ·have h1 := h c
     simp only [get] at h1
     rwa [if_neg (by omega), if_neg (by omega)] at h1
   rw [hrs, Prod.ext hpq hv]
theorem take_facts {A : List (Int × Int)} {b c : Int} (h : Rc b A) (hc : ∀ p r, A = p :: r → c ≤ p.1) : Rc c (takeR A c) ∧ takeV A c = get A c ∧ ∀ k, k ≠ c → get (takeR A c) k = get A k := by
 cases A with
 | nil => exact ⟨trivial, rfl, fun _ _ => rfl⟩
 | cons p r =>
  have hcp := hc p r rfl
  by_cases he : p.1 = c
  ·have e1 : takeR (p :: r) c = r := by simp [takeR, he]
   rw [e1]
   refine ⟨he ▸ h.2, by simp [takeV, get, he], fun k hk => ?_⟩
   simp only [get]
   rw [if_neg (by omega)]
  ·have e1 : takeR (p :: r) c = p :: r := by simp [takeR, he]
   rw [e1]
   refine ⟨⟨by omega, h.2⟩, ?_, fun _ _ => rfl⟩
   have hlow : get (p :: r) c = 2 := get_low (b := c) (show Rc c (p :: r) from ⟨by omega, h.2⟩) (by omega)
   rw [hlow]
   simp [takeV, he]
theorem fore_facts {A C : List (Int × Int)} (h : 0 < A.length + C.length) : (∀ p r, A = p :: r → fore A C ≤ p.1) ∧ (∀ p r, C = p :: r → fore A C ≤ p.1) ∧ ∀ b, Rc b A → Rc b C → b < fore A C := by
 cases A with
 | nil =>
  cases C with
  | nil => simp at h
  | cons q s => exact ⟨fun _ _ e => (by cases e), fun p r e => (by cases e; simp [fore]), fun b _ hC => hC.1⟩
 | cons p r =>
  cases C with
  | nil => exact ⟨fun _ _ e => (by cases e; simp [fore]), fun p r e => (by cases e), fun b hA _ => hA.1⟩
  | cons q s =>
   by_cases hpq : p.1 < q.1
   ·have e : fore (p :: r) (q :: s) = p.1 := by simp [fore, hpq]
    rw [e]
    exact ⟨fun _ _ e => (by cases e; omega), fun _ _ e => (by cases e; omega), fun b hA _ => hA.1⟩
   ·have e : fore (p :: r) (q :: s) = q.1 := by simp [fore, hpq]
    rw [e]
    exact ⟨fun _ _ e => (by cases e; omega), fun _ _ e => (by cases e; omega), fun b _ hC => hC.1⟩

theorem Rc.both_low {A C : List (Int × Int)} {b b' : Int} (h : Rc b A) (k : Rc b' C) : Rc (min b b') A ∧ Rc (min b b') C := ⟨h.low (by omega), k.low (by omega)⟩
theorem leq_main : ∀ (N : Nat) {A C : List (Int × Int)} {b : Int}, A.length + C.length ≤ N → Rc b A → Rc b C → (leqB A C = true ↔ ∀ k, Lv.leq (get A k) (get C k) = true) := by
 intro N
 induction N with
 | zero =>
  intro A C b hN _ _
  have hA : A = [] := List.eq_nil_of_length_eq_zero (by omega)
  have hC : C = [] := List.eq_nil_of_length_eq_zero (by omega)
  subst hA hC
  exact ⟨fun _ k => by show Lv.leq 2 2 = true; decide, fun _ => rfl⟩
 | succ N ih =>
  intro A C b hN hA hC
  by_cases h0 : A.length + C.length = 0
  ·exact ih (by omega) hA hC
  ·obtain ⟨f1, f2, f3⟩ := fore_facts (A := A) (C := C) (by omega)
   obtain ⟨a1, a2, a3⟩ := take_facts (c := fore A C) hA f1
   obtain ⟨c1, c2, c3⟩ := take_facts (c := fore A C) hC f2
   have hl := take_less (A := A) (C := C) (by omega)
   have i := ih (A := takeR A (fore A C)) (C := takeR C (fore A C)) (b := fore A C) (by omega) a1 c1
   unfold leqB at i ⊢
   rw [both_cons (by omega), List.all_cons, Bool.and_eq_true, i]
   dsimp only
   rw [a2, c2]
   refine ⟨fun ⟨h1, h2⟩ k => ?_, fun h => ⟨h _, fun k => ?_⟩⟩
   ·by_cases hk : k = fore A C
    ·rw [hk]; exact h1
    ·have := h2 k; rwa [a3 k hk, c3 k hk] at this
   ·by_cases hk : k = fore A C
    ·rw [hk, get_low a1 (by omega), get_low c1 (by omega)]; decide
    ·rw [a3 k hk, c3 k hk]; exact h k
theorem leqB_iff {A C : List (Int × Int)} (hA : Fit A) (hC : Fit C) : leqB A C = true ↔ ∀ k, get A k ≤ get C k := by
 obtain ⟨⟨b, r⟩, l⟩ := hA
 obtain ⟨⟨b', r'⟩, l'⟩ := hC
 rw [leq_main _ (Nat.le_refl _) (r.both_low r').1 (r.both_low r').2]
 have key : ∀ k, Lv.leq (get A k) (get C k) = true ↔ get A k ≤ get C k := by
  intro k
  have h1 := get_range l k
  have h2 := get_range l' k
  rw [Lv.leq_iff, Lv.lv_of h1.1 h1.2, Lv.lv_of h2.1 h2.2]
 exact ⟨fun h k => (key k).1 (h k), fun h k => (key k).2 (h k)⟩

theorem Fit.rc {A : List (Int × Int)} (h : Fit A) : ∃ b, Rc b A := h.1
theorem Fit.range {A : List (Int × Int)} (h : Fit A) (k : Int) : 0 ≤ get A k ∧ get A k ≤ 5 := get_range h.2 k
end Go.Proofs.Ytlaagheeemkklaa
