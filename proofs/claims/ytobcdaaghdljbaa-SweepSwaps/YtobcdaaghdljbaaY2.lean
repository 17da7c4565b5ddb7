/-
 PROVED HERE: what label.fold returns when it is called with a function that answers whatever two levels by a level and leav. What is asked stands at each.
-/
import Derived.OrdersHeld
import Derived.OrdersIn
import Derived.Deep.RegionHeld
import Derived.RangeFuncCalls
import Derived.RangeFuncNested
import Derived.OwnWalkIn
import Derived.WalkSpells
import Derived.Laws.AppendOwnNone
import Derived.Test.YtobcdaaghdljbaaRows
import Derived.WalkKit
import Derived.ProofKit
import Derived.OpenShut
import Derived.Below
import Derived.Deep.SlicePairs
import Derived.Deep.RegionHeld3
import Derived.Deep.AppendLies
import Derived.Test.YtobcdaaghdljbaaY0
import Derived.Test.YtobcdaaghdljbaaY1
namespace Go.Proofs.Ytobcdaaghdljbaa
set_option maxRecDepth 100000
set_option maxHeartbeats 8000000
open Go.RowKit Go.Shelf
set_option linter.unusedVariables false
attribute [local go_sem] Oper.semAt_some

def foldP (op : Int → Int → Int) (pre : List (Int × (Int × Int))) : List (Int × Int) := pre.foldl (fun acc x => snoc acc x.1 (op x.2.1 x.2.2)) []
theorem below_grown {w w' : World} (h : Below w.heap.size w w') : w.grownBy w' none := ⟨h.os, h.tape, h.output, h.size, fun k hk _ => h.block k hk⟩
theorem OwnL.next {base : Nat} {w w' : World} {ao : Option Addr} {n cap : Nat} {L : List (Int × Int)} (h : OwnL base w ao n cap L) (k : Below w.heap.size w w') : OwnL base w' ao n cap L := by
 refine ⟨h.1, h.2.kept (below_grown k) ?_⟩
 cases ao with
 | none => exact .inl rfl
 | some a => exact .inr (by simp [Value.ownBlock])
theorem Boxed.next {W W' : World} {B : Nat} {t : TypeId} {v : Value} (h : Boxed W B t v) (k : Below W.heap.size W W') : Boxed W' B t v := h.kept (below_grown k) (by simp)

theorem not_row {W : World} {b : Nat} {cs : Array Value} {t e : TypeId} {f : Nat × Nat} (h : W.heap[b]? = some (.cells cs t f)) (hte : t ≠ e) {base size k : Nat} {v : Value} {xs : List Value} (hr : W.ownsRow base e size v k xs) : some b ≠ v.ownBlock := by
 rcases hr.2 with ⟨rfl, _⟩ | ⟨g, cap, cur, rfl, _, hgb, _⟩
 ·simp [Value.ownBlock]
 ·intro e'
  obtain rfl : b = g := by simpa [Value.ownBlock] using e'
  have := h.symm.trans hgb
  simp at this
  exact hte this.2.1
end Go.Proofs.Ytobcdaaghdljbaa
namespace Go.Proofs.Ytobcdaaghdljbaa
set_option maxRecDepth 100000
set_option maxHeartbeats 8000000

def Rc : Int → List (Int × Int) → Prop
 | _, [] => True
 | b, p :: r => b < p.1 ∧ Rc p.1 r
def lok (v : Int) : Prop := 0 ≤ v ∧ v ≤ 5 ∧ v ≠ 2
def Fit (L : List (Int × Int)) : Prop := (∃ b, Rc b L) ∧ ∀ p ∈ L, lok p.2
theorem Rc.low {b b' : Int} {L : List (Int × Int)} (h : Rc b L) (k : b' ≤ b) : Rc b' L := by
 cases L with
 | nil => trivial
 | cons p r => exact ⟨by have := h.1; omega, h.2⟩
theorem okAt_zero {p : Int × Int} {r : List (Int × Int)} (h : okAt (p :: r) 0 = true) : lok p.2 := by
 simp [okAt, Lv.fit] at h
 exact ⟨h.1.1, h.1.2, h.2⟩
theorem okAt_succ {p : Int × Int} {r : List (Int × Int)} {j : Nat} (h : okAt (p :: r) (j + 1) = true) : okAt r j = true ∧ (j = 0 → p.1 < (r.getD 0 (0, 0)).1) := by
 simp only [okAt, Bool.and_eq_true, Bool.or_eq_true, Bool.not_eq_true', decide_eq_true_eq, decide_eq_false_iff_not, List.getD_cons_succ] at h ⊢
 obtain ⟨h1, h2, h3⟩ := h
 refine ⟨⟨h1, h2, ?_⟩, ?_⟩
 ·cases j with
  | zero => exact .inl rfl
  | succ i => exact .inr (by simpa using h3)
 ·intro hj; subst hj; simpa using h3
theorem fit_of {L : List (Int × Int)} : (∀ j, j < L.length → okAt L j = true) → (∀ p ∈ L, lok p.2) ∧ ∀ b, (∀ q s, L = q :: s → b < q.1) → Rc b L := by
 induction L with
 | nil => intro _; exact ⟨fun p hp => (by cases hp), fun _ _ => trivial⟩
 | cons p r ih =>
  intro h
  have h0 := okAt_zero (h 0 (by simp))
  have hr : ∀ j, j < r.length → okAt r j = true := fun j hj => (okAt_succ (h (j + 1) (by simpa using hj))).1
  obtain ⟨i1, i2⟩ := ih hr
  refine ⟨fun q hq => ?_, fun b hb => ⟨hb p r rfl, i2 p.1 fun q s e => ?_⟩⟩
  ·rcases List.mem_cons.1 hq with rfl | hq
   ·exact h0
   ·exact i1 q hq
  ·subst e
   have := (okAt_succ (h 1 (by simp))).2 rfl
   simpa using this
theorem fit_iff {L : List (Int × Int)} : fitB L = true → Fit L := by
 intro h
 unfold fitB at h
 rw [List.all_eq_true] at h
 obtain ⟨h1, h2⟩ := fit_of (L := L) (fun j hj => h j (List.mem_range.2 hj))
 refine ⟨?_, h1⟩
 cases L with
 | nil => exact ⟨0, trivial⟩
 | cons p r => exact ⟨p.1 - 1, h2 _ (fun q s e => by cases e; omega)⟩
theorem get_low {L : List (Int × Int)} : ∀ {b c : Int}, Rc b L → c ≤ b → get L c = 2 := by
 induction L with
 | nil => intro b c _ _; rfl
 | cons p r ih =>
  intro b c h hc
  have hp := h.1
  simp only [get]
  rw [if_neg (by omega)]
  exact ih h.2 (by omega)
theorem get_mem {L : List (Int × Int)} : ∀ {b : Int} {p : Int × Int}, Rc b L → p ∈ L → get L p.1 = p.2 := by
 induction L with
 | nil => intro b p _ hp; cases hp
 | cons q r ih =>
  intro b p h hp
  rcases List.mem_cons.1 hp with rfl | hp
  ·simp [get]
  ·have hg := ih h.2 hp
   simp only [get]
   by_cases he : q.1 = p.1
   ·have hlow := get_low h.2 (c := p.1) (by omega)
    exfalso
    have : ∀ {b : Int} {L : List (Int × Int)}, Rc b L → p ∈ L → b < p.1 := by
     intro b L
     induction L generalizing b with
     | nil => intro _ h; cases h
     | cons x y ihy =>
      intro h hm
      rcases List.mem_cons.1 hm with rfl | hm
      ·exact h.1
      ·have := ihy h.2 hm; have := h.1; omega
    have := this h.2 hp
    omega
   ·rw [if_neg he]; exact hg
theorem get_range {L : List (Int × Int)} (h : ∀ p ∈ L, lok p.2) (c : Int) : 0 ≤ get L c ∧ get L c ≤ 5 := by
 induction L with
 | nil => simp [get]
 | cons p r ih =>
  simp only [get]
  split
  ·exact ⟨(h p (by simp)).1, (h p (by simp)).2.1⟩
  ·exact ih (fun q hq => h q (by simp [hq]))
theorem ext_rc : ∀ {A C : List (Int × Int)} {b b' : Int}, Rc b A → Rc b' C → (∀ p ∈ A, lok p.2) → (∀ p ∈ C, lok p.2) → (∀ c, get A c = get C c) → A = C := by
 intro A
 induction A with
 | nil =>
  intro C b b' _ hC _ lC h
  cases C with
  | nil => rfl
  | cons q s =>
   have h1 := h q.1
   simp [get] at h1
   exact absurd h1.symm (lC q (by simp)).2.2
 | cons p r ih =>
  intro C b b' hA hC lA lC h
  cases C with
  | nil =>
   have h1 := h p.1
   simp [get] at h1
   exact absurd h1 (lA p (by simp)).2.2
  | cons q s =>
   have hpq : p.1 = q.1 := by
    rcases Int.lt_trichotomy p.1 q.1 with hlt | he | hgt
    ·exfalso
     have h1 := h p.1
     have h2 : get (q :: s) p.1 = 2 := get_low (b := p.1) (show Rc p.1 (q :: s) from ⟨hlt, hC.2⟩) (by omega)
     rw [h2] at h1
     simp [get] at h1
     exact (lA p (by simp)).2.2 h1
    ·exact he
    ·exfalso
     have h1 := h q.1
     have h2 : get (p :: r) q.1 = 2 := get_low (b := q.1) (show Rc q.1 (p :: r) from ⟨hgt, hA.2⟩) (by omega)
     rw [h2] at h1
     simp [get] at h1
     exact (lC q (by simp)).2.2 h1.symm
   have hv : p.2 = q.2 := by
    have h1 := h p.1
    simp [get, hpq] at h1
    exact h1
   have hrs : r = s := by
    refine ih hA.2 hC.2 (fun x hx => lA x (by simp [hx])) (fun x hx => lC x (by simp [hx])) (fun c => ?_)
    by_cases hc : c ≤ p.1
    ·rw [get_low hA.2 hc, get_low hC.2 (by omega)]
    ·have h1 := h c
     simp only [get] at h1
     rwa [if_neg (by omega), if_neg (by omega)] at h1
   rw [hrs, Prod.ext hpq hv]
theorem ext {A C : List (Int × Int)} (hA : Fit A) (hC : Fit C) (h : ∀ c, get A c = get C c) : A = C := by
 obtain ⟨⟨b, r⟩, l⟩ := hA
 obtain ⟨⟨b', r'⟩, l'⟩ := hC
 exact ext_rc r r' l l' h

def foldH (h : Int → Int → Int → Int) (pre : List (Int × (Int × Int))) : List (Int × Int) := pre.foldl (fun acc x => snoc acc x.1 (h x.1 x.2.1 x.2.2)) []
theorem snoc_app (A : List (Int × Int)) (c l : Int) : snoc A c l = A ++ snoc [] c l := by unfold snoc; split <;> simp
theorem foldH_acc (h : Int → Int → Int → Int) : ∀ (pre : List (Int × (Int × Int))) (acc : List (Int × Int)), pre.foldl (fun acc x => snoc acc x.1 (h x.1 x.2.1 x.2.2)) acc = acc ++ foldH h pre := by
 intro pre
 induction pre with
 | nil => intro acc; simp [foldH]
 | cons x r ih =>
  intro acc
  simp only [foldH, List.foldl_cons]
  rw [ih, ih (snoc [] x.1 (h x.1 x.2.1 x.2.2)), snoc_app acc]
  simp
theorem foldH_cons (h : Int → Int → Int → Int) (x : Int × (Int × Int)) (r : List (Int × (Int × Int))) : foldH h (x :: r) = snoc [] x.1 (h x.1 x.2.1 x.2.2) ++ foldH h r := by
 simp only [foldH, List.foldl_cons]
 exact foldH_acc h r _

theorem take_facts {A : List (Int × Int)} {b c : Int} (h : Rc b A) (hc : ∀ p r, A = p :: r → c ≤ p.1) : Rc c (takeR A c) ∧ takeV A c = get A c ∧ ∀ k, k ≠ c → get (takeR A c) k = get A k := by
 cases A with
 | nil => exact ⟨trivial, rfl, fun _ _ => rfl⟩
 | cons p r =>
  have hcp := hc p r rfl
  by_cases he : p.1 = c
  ·have e1 : takeR (p :: r) c = r := by simp [takeR, he]
   rw [e1]
   refine ⟨he ▸ h.2, by simp [takeV, get, he], fun k hk => ?_⟩
   simp only [get]
   rw [if_neg (by omega)]
  ·have e1 : takeR (p :: r) c = p :: r := by simp [takeR, he]
   rw [e1]
   refine ⟨⟨by omega, h.2⟩, ?_, fun _ _ => rfl⟩
   have hlow : get (p :: r) c = 2 := get_low (b := c) (show Rc c (p :: r) from ⟨by omega, h.2⟩) (by omega)
   rw [hlow]
   simp [takeV, he]
theorem fore_facts {A C : List (Int × Int)} (h : 0 < A.length + C.length) : (∀ p r, A = p :: r → fore A C ≤ p.1) ∧ (∀ p r, C = p :: r → fore A C ≤ p.1) ∧ ∀ b, Rc b A → Rc b C → b < fore A C := by
 cases A with
 | nil =>
  cases C with
  | nil => simp at h
  | cons q s => exact ⟨fun _ _ e => (by cases e), fun p r e => (by cases e; simp [fore]), fun b _ hC => hC.1⟩
 | cons p r =>
  cases C with
  | nil => exact ⟨fun _ _ e => (by cases e; simp [fore]), fun p r e => (by cases e), fun b hA _ => hA.1⟩
  | cons q s =>
   by_cases hpq : p.1 < q.1
   ·have e : fore (p :: r) (q :: s) = p.1 := by simp [fore, hpq]
    rw [e]
    exact ⟨fun _ _ e => (by cases e; omega), fun _ _ e => (by cases e; omega), fun b hA _ => hA.1⟩
   ·have e : fore (p :: r) (q :: s) = q.1 := by simp [fore, hpq]
    rw [e]
    exact ⟨fun _ _ e => (by cases e; omega), fun _ _ e => (by cases e; omega), fun b _ hC => hC.1⟩

theorem fold_main (h : Int → Int → Int → Int) (h2 : ∀ k, h k 2 2 = 2) : ∀ (N : Nat) {A C : List (Int × Int)} {b : Int}, A.length + C.length ≤ N → Rc b A → Rc b C →
  Rc b (foldH h (both A C)) ∧ (∀ p ∈ foldH h (both A C), p.2 ≠ 2) ∧ ∀ k, get (foldH h (both A C)) k = h k (get A k) (get C k) := by
 intro N
 induction N with
 | zero =>
  intro A C b hN _ _
  have hA : A = [] := List.eq_nil_of_length_eq_zero (by omega)
  have hC : C = [] := List.eq_nil_of_length_eq_zero (by omega)
  subst hA hC
  exact ⟨trivial, fun p hp => (by cases hp), fun k => (h2 k).symm⟩
 | succ N ih =>
  intro A C b hN hA hC
  by_cases h0 : A.length + C.length = 0
  ·exact ih (by omega) hA hC
  ·obtain ⟨f1, f2, f3⟩ := fore_facts (A := A) (C := C) (by omega)
   have hbc := f3 b hA hC
   obtain ⟨a1, a2, a3⟩ := take_facts (c := fore A C) hA f1
   obtain ⟨c1, c2, c3⟩ := take_facts (c := fore A C) hC f2
   have hl := take_less (A := A) (C := C) (by omega)
   obtain ⟨i1, i2, i3⟩ := ih (A := takeR A (fore A C)) (C := takeR C (fore A C)) (b := fore A C) (by omega) a1 c1
   rw [both_cons (by omega), foldH_cons]
   dsimp only
   rw [a2, c2]
   by_cases hv : h (fore A C) (get A (fore A C)) (get C (fore A C)) = 2
   ·rw [snoc_two hv, List.nil_append]
    refine ⟨i1.low (by omega), i2, fun k => ?_⟩
    by_cases hk : k = fore A C
    ·rw [hk, hv]; exact get_low i1 (by omega)
    ·rw [i3, a3 k hk, c3 k hk]
   ·rw [snoc_new hv]
    simp only [List.nil_append, List.cons_append]
    refine ⟨⟨hbc, i1⟩, fun p hp => ?_, fun k => ?_⟩
    ·rcases List.mem_cons.1 hp with rfl | hp
     ·exact hv
     ·exact i2 p hp
    ·simp only [get]
     by_cases hk : fore A C = k
     ·rw [if_pos hk, ← hk]
     ·rw [if_neg hk, i3, a3 k (Ne.symm hk), c3 k (Ne.symm hk)]
theorem Rc.both_low {A C : List (Int × Int)} {b b' : Int} (h : Rc b A) (k : Rc b' C) : Rc (min b b') A ∧ Rc (min b b') C := ⟨h.low (by omega), k.low (by omega)⟩
theorem fold_get {h : Int → Int → Int → Int} (h2 : ∀ k, h k 2 2 = 2) {A C : List (Int × Int)} {b b' : Int} (hA : Rc b A) (hC : Rc b' C) (k : Int) : get (foldH h (both A C)) k = h k (get A k) (get C k) :=
 (fold_main h h2 _ (Nat.le_refl _) (hA.both_low hC).1 (hA.both_low hC).2).2.2 k
theorem fold_fit {h : Int → Int → Int → Int} (h2 : ∀ k, h k 2 2 = 2) {A C : List (Int × Int)} {b b' : Int} (hA : Rc b A) (hC : Rc b' C) (hr : ∀ k, 0 ≤ h k (get A k) (get C k) ∧ h k (get A k) (get C k) ≤ 5) : Fit (foldH h (both A C)) := by
 obtain ⟨r, n2, g⟩ := fold_main h h2 _ (Nat.le_refl _) (hA.both_low hC).1 (hA.both_low hC).2
 refine ⟨⟨_, r⟩, fun p hp => ?_⟩
 have e := get_mem r hp
 rw [g] at e
 have := hr p.1
 rw [e] at this
 exact ⟨this.1, this.2, n2 p hp⟩

theorem leq_main : ∀ (N : Nat) {A C : List (Int × Int)} {b : Int}, A.length + C.length ≤ N → Rc b A → Rc b C → (leqB A C = true ↔ ∀ k, Lv.leq (get A k) (get C k) = true) := by
 intro N
 induction N with
 | zero =>
  intro A C b hN _ _
  have hA : A = [] := List.eq_nil_of_length_eq_zero (by omega)
  have hC : C = [] := List.eq_nil_of_length_eq_zero (by omega)
  subst hA hC
  exact ⟨fun _ k => by show Lv.leq 2 2 = true; decide, fun _ => rfl⟩
 | succ N ih =>
  intro A C b hN hA hC
  by_cases h0 : A.length + C.length = 0
  ·exact ih (by omega) hA hC
  ·obtain ⟨f1, f2, f3⟩ := fore_facts (A := A) (C := C) (by omega)
   obtain ⟨a1, a2, a3⟩ := take_facts (c := fore A C) hA f1
   obtain ⟨c1, c2, c3⟩ := take_facts (c := fore A C) hC f2
   have hl := take_less (A := A) (C := C) (by omega)
   have i := ih (A := takeR A (fore A C)) (C := takeR C (fore A C)) (b := fore A C) (by omega) a1 c1
   unfold leqB at i ⊢
   rw [both_cons (by omega), List.all_cons, Bool.and_eq_true, i]
   dsimp only
   rw [a2, c2]
   refine ⟨fun ⟨h1, h2⟩ k => ?_, fun h => ⟨h _, fun k => ?_⟩⟩
   ·by_cases hk : k = fore A C
    ·rw [hk]; exact h1
    ·have := h2 k; rwa [a3 k hk, c3 k hk] at this
   ·by_cases hk : k = fore A C
    ·rw [hk, get_low a1 (by omega), get_low c1 (by omega)]; decide
    ·rw [a3 k hk, c3 k hk]; exact h k
theorem leqB_iff {A C : List (Int × Int)} (hA : Fit A) (hC : Fit C) : leqB A C = true ↔ ∀ k, get A k ≤ get C k := by
 obtain ⟨⟨b, r⟩, l⟩ := hA
 obtain ⟨⟨b', r'⟩, l'⟩ := hC
 rw [leq_main _ (Nat.le_refl _) (r.both_low r').1 (r.both_low r').2]
 have key : ∀ k, Lv.leq (get A k) (get C k) = true ↔ get A k ≤ get C k := by
  intro k
  have h1 := get_range l k
  have h2 := get_range l' k
  rw [Lv.leq_iff, Lv.lv_of h1.1 h1.2, Lv.lv_of h2.1 h2.2]
 exact ⟨fun h k => (key k).1 (h k), fun h k => (key k).2 (h k)⟩

def joinL (A C : List (Int × Int)) : List (Int × Int) := foldP Lv.join (both A C)
def raiseL (A : List (Int × Int)) : List (Int × Int) := foldP (fun x _ => Lv.raise x) (both A [])
theorem Fit.rc {A : List (Int × Int)} (h : Fit A) : ∃ b, Rc b A := h.1
theorem Fit.nil : Fit [] := ⟨⟨0, trivial⟩, fun p hp => (by cases hp)⟩
theorem Fit.range {A : List (Int × Int)} (h : Fit A) (k : Int) : 0 ≤ get A k ∧ get A k ≤ 5 := get_range h.2 k
theorem joinL_fit {A C : List (Int × Int)} (hA : Fit A) (hC : Fit C) : Fit (joinL A C) := by
 obtain ⟨b, r⟩ := hA.rc
 obtain ⟨b', r'⟩ := hC.rc
 exact fold_fit (h := fun _ x y => Lv.join x y) (fun _ => by decide) r r' (fun k => ⟨Lv.join_lo _ _, Lv.join_hi _ _⟩)
theorem raiseL_get {A : List (Int × Int)} (hA : Fit A) (k : Int) : get (raiseL A) k = if get A k = 0 then 5 else get A k := by
 obtain ⟨b, r⟩ := hA.rc
 have h := fold_get (h := fun _ x _ => Lv.raise x) (fun _ => by decide) r (C := []) (b' := 0) trivial k
 have h1 := hA.range k
 unfold Lv.raise at h
 rw [Lv.lv_of h1.1 h1.2] at h
 exact h
theorem raiseL_fit {A : List (Int × Int)} (hA : Fit A) : Fit (raiseL A) := by
 obtain ⟨b, r⟩ := hA.rc
 exact fold_fit (h := fun _ x _ => Lv.raise x) (fun _ => by decide) r (C := []) (b' := 0) trivial (fun k => ⟨Lv.raise_lo _, Lv.raise_hi _⟩)
end Go.Proofs.Ytobcdaaghdljbaa
namespace Go.Proofs.Ytobcdaaghdljbaa
set_option maxRecDepth 100000
set_option maxHeartbeats 8000000
open Go.ChangeShapes Go.WideShapes Go.ChangeAt Go.RowKit

theorem laidOut : laidOutB Try.prog = true := by kernel_rfl
def numV : Value → Int
 | .int _ n => n
 | _ => 0
theorem lab_of_trod {H : Type} {enc : TypeId × Value → H} {w : World} {ao : Option Addr} {n cap : Nat} {d : DataW H} {ps : List MemPlace}
  (h : DataW.Trod enc Try.prog w 0 (fun _ => true) true 39 (.slice ao n cap) d ps) : ∃ L, Lab w.heap.size w ao n cap L := by
 obtain ⟨fuel, hf⟩ := h
 rcases Go.Deep.open_slice_pairs Try.underlying39 Try.underlying103 (by kernel_rfl) rfl rfl (by kernel_rfl) (by kernel_rfl) hf with ⟨e, _⟩ | ⟨a, len, cap', m, n', V0, V1, D0, D1, P0, P1, e, hb, hl, hm, hmm, _, hx⟩
 ·simp [Value.cells] at e
  obtain ⟨rfl, rfl, rfl⟩ := e
  exact ⟨[], Lab.nil _ _⟩
 ·simp [Value.cells] at e
  obtain ⟨rfl, rfl, rfl⟩ := e
  have hmc : m = cap := by rw [hmm]; rfl
  have key : ∀ i, i < n → w.cell? (a.add (i * 2)) = some (.int .u64 (numV (V0 i))) ∧ w.cell? (a.add (i * 2 + 1)) = some (.int .i64 (numV (V1 i))) := by
   intro i hi
   obtain ⟨c0, c1, t0, t1⟩ := hx i (by omega)
   obtain ⟨x, hx0, _, _⟩ := DataW.trod_int Try.underlying22 t0
   obtain ⟨y, hy0, _, _⟩ := DataW.trod_int Try.underlying3 t1
   simp at hx0 hy0
   rw [hx0] at c0
   rw [hy0] at c1
   rw [hx0, hy0]
   exact ⟨c0, c1⟩
  refine ⟨(List.range n).map fun i => (numV (V0 i), numV (V1 i)), by simp, hl, ⟨by unfold maxLen at hm; omega, fun hz => by cases hz⟩, fun hn => ?_⟩
  have hs : a.spot = none := by
   have h0 := (key 0 hn).1
   have ha : a.add (0 * 2) = a := by simp [Addr.add]
   rw [ha] at h0
   unfold World.cell? at h0
   cases hsp : a.spot with
   | none => rfl
   | some s => split at h0 <;> simp [hsp] at h0
  have hea : a = ⟨a.block, a.off, none⟩ := by cases a; simp at hs; simp [hs]
  have hadd : ∀ j, a.add j = ⟨a.block, a.off + j, none⟩ := by
   intro j
   unfold Addr.add
   split
   ·rename_i hj; subst hj; rw [Nat.add_zero]; exact hea
   ·rfl
  refine ⟨a.block, a.off, by rw [← hea], ?_, fun i hi => ?_⟩
  ·have h0 := (key 0 hn).1
   have := World.block_lt_of_cell? w _ h0
   rwa [hadd] at this
  ·have hk := key i hi
   rw [hadd, hadd] at hk
   have hg : ((List.range n).map fun i => (numV (V0 i), numV (V1 i))).getD i (0, 0) = (numV (V0 i), numV (V1 i)) := by
    rw [List.getD_eq_getElem?_getD, List.getElem?_eq_getElem (by simpa using hi)]; simp
   rw [hg]
   exact ⟨hk.1, by rw [Nat.add_assoc]; exact hk.2⟩
end Go.Proofs.Ytobcdaaghdljbaa
namespace Go.Proofs.Ytobcdaaghdljbaa
set_option maxRecDepth 100000
set_option maxHeartbeats 8000000
open Go.ChangeShapes Go.WideShapes Go.ChangeAt Go.RowKit
set_option linter.unusedVariables false

def Labs (w : World) (ls : List (Option Addr × Nat × Nat × List (Int × Int))) : Prop := ∀ x ∈ ls, Lab w.heap.size w x.1 x.2.1 x.2.2.1 x.2.2.2
theorem Labs.nil (w : World) : Labs w [] := fun x hx => by cases hx
theorem Labs.push {w : World} {ls : List (Option Addr × Nat × Nat × List (Int × Int))} (h : Labs w ls) {ao : Option Addr} {n cap : Nat} {L : List (Int × Int)} (l : Lab w.heap.size w ao n cap L) : Labs w ((ao, n, cap, L) :: ls) := fun x hx => by
 rcases List.mem_cons.1 hx with rfl | hx
 ·exact l
 ·exact h x hx
theorem Labs.next {w w' : World} {ls : List (Option Addr × Nat × Nat × List (Int × Int))} (h : Labs w ls) (k : Below w.heap.size w w') : Labs w' ls := fun x hx => (h x hx).next k
theorem Labs.get {w : World} {ls : List (Option Addr × Nat × Nat × List (Int × Int))} (h : Labs w ls) {ao : Option Addr} {n cap : Nat} {L : List (Int × Int)} (hm : (ao, n, cap, L) ∈ ls) : Lab w.heap.size w ao n cap L := h _ hm

end Go.Proofs.Ytobcdaaghdljbaa
namespace Go.Proofs.Ytobcdaaghdljbaa
set_option maxRecDepth 100000
set_option maxHeartbeats 8000000

def Ri : Int → List Int → Prop
 | _, [] => True
 | b, x :: r => b < x ∧ Ri x r
theorem Ri.low {b b' : Int} {C : List Int} (h : Ri b C) (k : b' ≤ b) : Ri b' C := by
 cases C with
 | nil => trivial
 | cons x r => exact ⟨by have := h.1; omega, h.2⟩
end Go.Proofs.Ytobcdaaghdljbaa
namespace Go.Proofs.Ytobcdaaghdljbaa
set_option maxRecDepth 100000
set_option maxHeartbeats 8000000
open Go.ChangeShapes Go.WideShapes Go.ChangeAt Go.RowKit
set_option linter.unusedVariables false

def rj1 (op : Int → Int → Int) (A C : List (Int × Int)) (k : Nat) : List (Int × Int) := (A.take k).foldl (fun O p => rwithL O p.1 (op p.2 (get C p.1))) A
def rj2 (op : Int → Int → Int) (A C : List (Int × Int)) (k : Nat) : List (Int × Int) := (C.take k).foldl (fun O q => rwithL O q.1 (op (get A q.1) q.2)) (rj1 op A C A.length)
def rfoldL (op : Int → Int → Int) (A C : List (Int × Int)) : List (Int × Int) := rj2 op A C C.length
theorem rj1_succ {op : Int → Int → Int} {A C : List (Int × Int)} {k : Nat} {x y : Int} (h : k < A.length) (e : A.getD k (0, 0) = (x, y)) : rj1 op A C (k + 1) = rwithL (rj1 op A C k) x (op y (get C x)) := by
 have e' : A[k] = (x, y) := by simpa [List.getD_eq_getElem?_getD, List.getElem?_eq_getElem h] using e
 unfold rj1
 rw [List.take_succ_eq_append_getElem h, e', List.foldl_append]
 rfl
theorem rj2_succ {op : Int → Int → Int} {A C : List (Int × Int)} {k : Nat} {x y : Int} (h : k < C.length) (e : C.getD k (0, 0) = (x, y)) : rj2 op A C (k + 1) = rwithL (rj2 op A C k) x (op (get A x) y) := by
 have e' : C[k] = (x, y) := by simpa [List.getD_eq_getElem?_getD, List.getElem?_eq_getElem h] using e
 unfold rj2
 rw [List.take_succ_eq_append_getElem h, e', List.foldl_append]
 rfl
def rmapL (op : Int → Int) (A : List (Int × Int)) : List (Int × Int) := A.map fun p => (p.1, op p.2)
theorem rmap_succ {op : Int → Int} {A : List (Int × Int)} {k : Nat} {x y : Int} (h : k < A.length) (e : A.getD k (0, 0) = (x, y)) : rmapL op (A.take (k + 1)) = rmapL op (A.take k) ++ [(x, op y)] := by
 have e' : A[k] = (x, y) := by simpa [List.getD_eq_getElem?_getD, List.getElem?_eq_getElem h] using e
 unfold rmapL
 rw [List.take_succ_eq_append_getElem h, e', List.map_append]
 rfl

theorem rljoin_any {w : World} {ao ao' : Option Addr} {n n' cap cap' : Nat} {L L' : List (Int × Int)} (hL : Lab w.heap.size w ao n cap L) (hL' : Lab w.heap.size w ao' n' cap' L') (hk : n < 68719476736) (hk' : n' < 68719476736) :
  Calls Try.prog 75 #[.slice ao n cap, .slice ao' n' cap'] w fun e w' => ∃ ao1 n1 cap1, e = .returned (.slice ao1 n1 cap1) ∧ Lab w'.heap.size w' ao1 n1 cap1 (rfoldL Lv.join L L') ∧ n1 ≤ 2 * n + n' ∧ Below w.heap.size w w' := by
 have hn := hL.1
 have hcm := hL.2.2.1.1
 have hnc := hL.2.1
 have hn' := hL'.1
 have hcm' := hL'.2.2.1.1
 have hnc' := hL'.2.1
 go_enter Try.func75, Try.ntmps75
 go_wp2
 go_loopw [5, 6] (fun v i wr => ∃ (k : Nat) (ao1 : Option Addr) (n1 cap1 : Nat), k ≤ n ∧ i = .int .i64 k ∧ v = .slice ao1 n1 cap1 ∧ n1 ≤ n + k ∧ Lab wr.heap.size wr ao1 n1 cap1 (rj1 Lv.join L L' k) ∧ Below w.heap.size w wr) (fun _ i _ => n - (intOf i).toNat)
 case atStart => exact ⟨0, _, _, _, Nat.zero_le _, rfl, rfl, Nat.le_refl _, hL, Below.refl _ _⟩
 case round =>
  obtain ⟨k, ao1, n1, cap1, hkn, rfl, rfl, hn1, hO, hb⟩ := hrel
  have hbs := hb.size
  by_cases hlt : k < n
  ·obtain ⟨b, off, x, y, hao, hbB, d0, d1, hxy⟩ := hL.at hb hlt
   subst hao
   have hlt' : (k : Int) < n := by omega
   have hL1 := hL'.later hb.drew
   have hO1 := hO.later (Below.refl wr.heap.size wr).drew
   have hs : Hid (rj1 Lv.join L L' (k + 1) = rwithL (rj1 Lv.join L L' k) x (Lv.join y (get L' x))) := rj1_succ (by omega) hxy.out
   clear hL hL' hO
   go_wp2
   go_region_held3 (fun w' => w'.cell? ⟨b, off + k * 2, none⟩ = some (.int .u64 x) ∧ w'.cell? ⟨b, off + k * 2 + 1, none⟩ = some (.int .i64 y)) (go_keep) (first | (go_at_call 87; refine (rget_any _ hL1).mono ?_; rintro e w' ⟨rfl, rfl⟩) | (go_at_call 89; refine (rjoin_any _ _ _).mono ?_; rintro e w' ⟨rfl, rfl⟩) | (go_at_call 88; refine (rwith_any _ _ hO1 (Nat.le_refl _) (by omega)).mono ?_; rintro e w1 ⟨ao2, n2, cap2, rfl, ho2, hb2⟩; have e0 := cell_later hb2 d0; have e1 := cell_later hb2 d1))
   go_wp2
   go_roundw
   case rel => exact ⟨k + 1, ao2, n2, cap2, by omega, by go_num, rfl, by have h1 := ho2.1; have h2 := rwithL_len (rj1 Lv.join L L' k) x (Lv.join y (get L' x)); have h3 := hO1.1; omega, by rw [hs.out]; exact ho2.lab, hb.drew.trans (hb2.mono hbs)⟩
   case measure => simp [intOf]; omega
  ·have hkn2 : k = n := by omega
   subst hkn2
   have hO' : Lab wr.heap.size wr ao1 n1 cap1 (rj2 Lv.join L L' 0) := by
    have h : rj2 Lv.join L L' 0 = rj1 Lv.join L L' k := by unfold rj2; rw [hn]; rfl
    rw [h]; exact hO
   clear hO
   go_wp2
   go_loopw [5, 7] (fun v i wr => ∃ (j : Nat) (ao1 : Option Addr) (n1 cap1 : Nat), j ≤ n' ∧ i = .int .i64 j ∧ v = .slice ao1 n1 cap1 ∧ n1 ≤ 2 * k + j ∧ Lab wr.heap.size wr ao1 n1 cap1 (rj2 Lv.join L L' j) ∧ Below w.heap.size w wr) (fun _ i _ => n' - (intOf i).toNat)
   case atStart => exact ⟨0, _, _, _, Nat.zero_le _, rfl, rfl, by omega, hO', hb⟩
   case round =>
    clear hO' hb hbs hn1
    obtain ⟨j, ao1, n1, cap1, hjn, rfl, rfl, hn1, hO, hb⟩ := hrel
    have hbs := hb.size
    by_cases hlt : j < n'
    ·obtain ⟨b, off, x, y, hao, hbB, d0, d1, hxy⟩ := hL'.at hb hlt
     subst hao
     have hlt' : (j : Int) < n' := by omega
     have hL1 := hL.later hb.drew
     have hO1 := hO.later (Below.refl wr.heap.size wr).drew
     have hs : Hid (rj2 Lv.join L L' (j + 1) = rwithL (rj2 Lv.join L L' j) x (Lv.join (get L x) y)) := rj2_succ (by omega) hxy.out
     clear hL hL' hO
     go_wp2
     go_region_held3 (fun w' => w'.cell? ⟨b, off + j * 2, none⟩ = some (.int .u64 x) ∧ w'.cell? ⟨b, off + j * 2 + 1, none⟩ = some (.int .i64 y)) (go_keep) (first | (go_at_call 87; refine (rget_any _ hL1).mono ?_; rintro e w' ⟨rfl, rfl⟩) | (go_at_call 89; refine (rjoin_any _ _ _).mono ?_; rintro e w' ⟨rfl, rfl⟩) | (go_at_call 88; refine (rwith_any _ _ hO1 (Nat.le_refl _) (by omega)).mono ?_; rintro e w1 ⟨ao2, n2, cap2, rfl, ho2, hb2⟩; have e0 := cell_later hb2 d0; have e1 := cell_later hb2 d1))
     go_wp2
     go_roundw
     case rel => exact ⟨j + 1, ao2, n2, cap2, by omega, by go_num, rfl, by have h1 := ho2.1; have h2 := rwithL_len (rj2 Lv.join L L' j) x (Lv.join (get L x) y); have h3 := hO1.1; omega, by rw [hs.out]; exact ho2.lab, hb.drew.trans (hb2.mono hbs)⟩
     case measure => simp [intOf]; omega
    ·have hj : j = n' := by omega
     subst hj
     have hr : Hid (rfoldL Lv.join L L' = rj2 Lv.join L L' j) := by show rj2 Lv.join L L' L'.length = _; rw [hn']
     clear hL hL'
     go_wp2
     go_ret
     exact ⟨_, _, _, rfl, by rw [hr.out]; exact hO, by omega, hb⟩
theorem rlraise_any {w : World} {ao : Option Addr} {n cap : Nat} {L : List (Int × Int)} (hL : Lab w.heap.size w ao n cap L) (hk : n < 68719476736) :
  Calls Try.prog 76 #[.slice ao n cap] w fun e w' => ∃ ao1 n1 cap1, e = .returned (.slice ao1 n1 cap1) ∧ Lab w'.heap.size w' ao1 n1 cap1 (rmapL Lv.raise L) ∧ n1 ≤ n ∧ Below w.heap.size w w' := by
 obtain ⟨i0, hi, hz0, hz1, hz2⟩ := info_parts infoPair
 have hn := hL.1
 have hcm := hL.2.2.1.1
 have hnc := hL.2.1
 go_enter Try.func76, Try.ntmps76
 go_wp2
 go_loopw [3, 4] (fun v i wr => ∃ (k : Nat) (ao1 : Option Addr) (cap1 : Nat), k ≤ n ∧ i = .int .i64 k ∧ v = .slice ao1 k cap1 ∧ OwnL w.heap.size wr ao1 k cap1 (rmapL Lv.raise (L.take k)) ∧ Below w.heap.size w wr) (fun _ i _ => n - (intOf i).toNat)
 case atStart => exact ⟨0, _, _, Nat.zero_le _, rfl, rfl, OwnL.nil _ _, Below.refl _ _⟩
 case round =>
  obtain ⟨k, ao1, cap1, hkn, rfl, rfl, hO, hb⟩ := hrel
  have hbs := hb.size
  by_cases hlt : k < n
  ·obtain ⟨b, off, x, y, hao, hbB, d0, d1, hxy⟩ := hL.at hb hlt
   subst hao
   have hbw : b < wr.heap.size := by omega
   have hlt' : (k : Int) < n := by omega
   obtain ⟨hOl, hrow⟩ := hO
   have hs : Hid (rmapL Lv.raise (L.take (k + 1)) = rmapL Lv.raise (L.take k) ++ [(x, Lv.raise y)]) := rmap_succ (by omega) hxy.out
   have HOl : Hid ((rmapL Lv.raise (L.take k)).length = k) := hOl
   clear hL hOl
   go_wp2
   go_region_held3 (fun w' => w'.cell? ⟨b, off + k * 2, none⟩ = some (.int .u64 x) ∧ w'.cell? ⟨b, off + k * 2 + 1, none⟩ = some (.int .i64 y)) (go_keep) (first | (go_at_call 90; refine (rraise_any _ _).mono ?_; rintro e w' ⟨rfl, rfl⟩) | (refine step_append_lies _ rfl _ _ 39 rfl w.heap.size 103 i0 (.agg #[.int .u64 0, .int .i64 0]) 2 16 Try.underlying39 hi hz0 hz1 hz2 rfl (by decide) _ _ _ rfl (hrow.drew.alloc _) ⟨wr.heap.size, 0, none⟩ 1 1 [.int .u64 x, .int .i64 (Lv.raise y)] rfl rfl (cell_two_new wr.drew _ _ _) (by simp [Value.oneCell']) (by omega) (by unfold maxLen; omega) (by omega) (by simp; omega) _ rfl ?_; intro g1 cp1 w1 hown1 hgrow1 hat hlt1; have hb1 := app_below hb.drew hrow.drew hgrow1 hbs; have e0 := (hb1.cell (p := ⟨b, off + k * 2, none⟩) hbB).trans ((hb.cell (p := ⟨b, off + k * 2, none⟩) hbB).symm.trans d0); have e1 := (hb1.cell (p := ⟨b, off + k * 2 + 1, none⟩) hbB).trans ((hb.cell (p := ⟨b, off + k * 2 + 1, none⟩) hbB).symm.trans d1)))
   go_wp2
   go_roundw
   case rel => exact ⟨k + 1, some ⟨g1, 0, none⟩, cp1, by omega, by go_num, rfl, ⟨by rw [hs.out]; simp [HOl.out], by rw [hs.out, cellsOf_append]; exact hown1⟩, hb1⟩
   case measure => simp [intOf]; omega
  ·have hkn2 : k = n := by omega
   subst hkn2
   have hr : Hid (rmapL Lv.raise (L.take k) = rmapL Lv.raise L) := by show rmapL Lv.raise (L.take k) = _; rw [List.take_of_length_le (by omega)]
   clear hL
   go_wp2
   go_ret
   exact ⟨_, _, _, rfl, by rw [← hr.out]; exact hO.lab, Nat.le_refl _, hb⟩
end Go.Proofs.Ytobcdaaghdljbaa
namespace Go.Proofs.Ytobcdaaghdljbaa
set_option maxRecDepth 100000
set_option maxHeartbeats 8000000

theorem wl_main (c l : Int) : ∀ (L : List (Int × Int)) (b : Int) (d : Bool), Rc b L → (d = true ∨ b < c) → Rc b (wl c l d L) ∧ (∀ k, get (wl c l d L) k = if k = c then (if d = true then 2 else l) else get L k) ∧ ∀ q ∈ wl c l d L, q ∈ L ∨ d = false ∧ q = (c, l) := by
 intro L
 induction L with
 | nil =>
  intro b d _ hd
  cases d with
  | true => exact ⟨trivial, fun k => (by simp [wl, get]), fun q hq => (by simp [wl] at hq)⟩
  | false =>
   refine ⟨?_, fun k => ?_, fun q hq => .inr ⟨rfl, by simpa [wl] using hq⟩⟩
   ·rcases hd with h | h
    ·cases h
    ·exact ⟨h, trivial⟩
   ·by_cases hk : k = c
    ·subst hk; simp [wl, get]
    ·simp [wl, get, hk]; intro h; exact absurd h.symm hk
 | cons p r ih =>
  intro b d hR hd
  have hbp := hR.1
  cases d with
  | true =>
   obtain ⟨i1, i2, i3⟩ := ih p.1 true hR.2 (.inl rfl)
   by_cases hpc : p.1 = c
   ·have e : wl c l true (p :: r) = wl c l true r := by simp [wl, hpc]
    rw [e]
    refine ⟨i1.low (by omega), fun k => ?_, fun q hq => ?_⟩
    ·rw [i2]
     by_cases hk : k = c
     ·simp [hk]
     ·simp only [get]; rw [if_neg hk, if_neg hk, if_neg (by omega)]
    ·rcases i3 q hq with h | h
     ·exact .inl (by simp [h])
     ·exact .inr h
   ·have e : wl c l true (p :: r) = p :: wl c l true r := by simp [wl, hpc]
    rw [e]
    refine ⟨⟨hbp, i1⟩, fun k => ?_, fun q hq => ?_⟩
    ·simp only [get]
     rw [i2]
     by_cases hk : k = c
     ·rw [if_neg (by omega)]; simp [hk]
     ·rw [if_neg hk, if_neg hk]
    ·rcases List.mem_cons.1 hq with rfl | hq
     ·exact .inl (by simp)
     ·rcases i3 q hq with h | h
      ·exact .inl (by simp [h])
      ·exact .inr h
  | false =>
   have hbc : b < c := by rcases hd with h | h; cases h; exact h
   by_cases hcp : c < p.1
   ·obtain ⟨i1, i2, i3⟩ := ih p.1 true hR.2 (.inl rfl)
    have hpc : ¬ p.1 = c := by omega
    have e : wl c l false (p :: r) = (c, l) :: p :: wl c l true r := by simp [wl, hpc, hcp]
    rw [e]
    refine ⟨⟨hbc, hcp, i1⟩, fun k => ?_, fun q hq => ?_⟩
    ·simp only [get]
     rw [i2]
     by_cases hk : k = c
     ·rw [if_pos hk.symm, if_pos hk]; rfl
     ·rw [if_neg (fun h => hk h.symm), if_neg hk, if_neg hk]
    ·rcases List.mem_cons.1 hq with rfl | hq
     ·exact .inr ⟨rfl, rfl⟩
     ·rcases List.mem_cons.1 hq with rfl | hq
      ·exact .inl (by simp)
      ·rcases i3 q hq with h | h
       ·exact .inl (by simp [h])
       ·exact absurd h.1 (by simp)
   ·by_cases hpc : p.1 = c
    ·obtain ⟨i1, i2, i3⟩ := ih (c - 1) false (hR.2.low (by omega)) (.inr (by omega))
     have e : wl c l false (p :: r) = wl c l false r := by simp [wl, hpc]
     rw [e]
     refine ⟨i1.low (by omega), fun k => ?_, fun q hq => ?_⟩
     ·rw [i2]
      by_cases hk : k = c
      ·simp [hk]
      ·simp only [get]; rw [if_neg hk, if_neg hk, if_neg (by omega)]
     ·rcases i3 q hq with h | h
      ·exact .inl (by simp [h])
      ·exact .inr h
    ·obtain ⟨i1, i2, i3⟩ := ih p.1 false hR.2 (.inr (by omega))
     have e : wl c l false (p :: r) = p :: wl c l false r := by simp [wl, hpc, hcp]
     rw [e]
     refine ⟨⟨hbp, i1⟩, fun k => ?_, fun q hq => ?_⟩
     ·simp only [get]
      rw [i2]
      by_cases hk : k = c
      ·rw [if_neg (by omega), if_pos hk, if_pos hk]
      ·rw [if_neg hk, if_neg hk]
     ·rcases List.mem_cons.1 hq with rfl | hq
      ·exact .inl (by simp)
      ·rcases i3 q hq with h | h
       ·exact .inl (by simp [h])
       ·exact .inr h
theorem rwith_facts {L : List (Int × Int)} (hL : Fit L) {c l : Int} (hl : 0 ≤ l ∧ l ≤ 5) : Fit (rwithL L c l) ∧ ∀ k, get (rwithL L c l) k = if k = c then l else get L k := by
 obtain ⟨⟨b, r⟩, lv⟩ := hL
 obtain ⟨h1, h2, h3⟩ := wl_main c l L (min b (c - 1)) (l == 2) (r.low (by omega)) (.inr (by omega))
 unfold rwithL
 refine ⟨⟨⟨_, h1⟩, fun q hq => ?_⟩, fun k => ?_⟩
 ·rcases h3 q hq with h | ⟨h, rfl⟩
  ·exact lv q h
  ·exact ⟨hl.1, hl.2, by simpa using h⟩
 ·rw [h2]
  by_cases h : l = 2
  ·subst h; simp
  ·have : (l == 2) = false := by simpa using h
   rw [this]; simp
theorem mem_of_get {L : List (Int × Int)} {k : Int} (h : get L k ≠ 2) : ∃ p ∈ L, p.1 = k ∧ p.2 = get L k := by
 induction L with
 | nil => simp [get] at h
 | cons p r ih =>
  simp only [get] at h ⊢
  by_cases hp : p.1 = k
  ·rw [if_pos hp]; exact ⟨p, by simp, hp, rfl⟩
  ·rw [if_neg hp] at h ⊢
   obtain ⟨q, h1, h2, h3⟩ := ih h
   exact ⟨q, by simp [h1], h2, h3⟩
theorem rleq_eq {A C : List (Int × Int)} (hA : Fit A) (hC : Fit C) : rleqB A C = leqB A C := by
 obtain ⟨b, rA⟩ := hA.rc
 obtain ⟨b', rC⟩ := hC.rc
 have key : ∀ k, Lv.leq (get A k) (get C k) = true ↔ get A k ≤ get C k := by
  intro k
  have h1 := hA.range k
  have h2 := hC.range k
  rw [Lv.leq_iff, Lv.lv_of h1.1 h1.2, Lv.lv_of h2.1 h2.2]
 rw [Bool.eq_iff_iff, leqB_iff hA hC]
 unfold rleqB
 rw [Bool.and_eq_true, List.all_eq_true, List.all_eq_true]
 constructor
 ·rintro ⟨h1, h2⟩ k
  by_cases hk : get A k = 2
  ·by_cases hk' : get C k = 2
   ·omega
   ·obtain ⟨q, hq, rfl, e⟩ := mem_of_get hk'
    have := h2 q hq
    rw [e] at this
    exact (key _).1 this
  ·obtain ⟨p, hp, rfl, e⟩ := mem_of_get hk
   have := h1 p hp
   rw [e] at this
   exact (key _).1 this
 ·intro h
  refine ⟨fun p hp => ?_, fun q hq => ?_⟩
  ·have e := get_mem rA hp
   have := (key p.1).2 (h p.1)
   rwa [e] at this
  ·have e := get_mem rC hq
   have := (key q.1).2 (h q.1)
   rwa [e] at this
theorem set_all (J : Int → Int) (hJ : ∀ k, 0 ≤ J k ∧ J k ≤ 5) (f : Int × Int → Int) : ∀ (ps O : List (Int × Int)), (∀ p ∈ ps, f p = J p.1) → Fit O →
  Fit (ps.foldl (fun O p => rwithL O p.1 (f p)) O) ∧ ∀ k, get (ps.foldl (fun O p => rwithL O p.1 (f p)) O) k = if k ∈ ps.map Prod.fst then J k else get O k := by
 intro ps
 induction ps with
 | nil => intro O _ hO; exact ⟨hO, fun k => by simp⟩
 | cons p r ih =>
  intro O hf hO
  have hp := hf p (by simp)
  obtain ⟨h1, h2⟩ := rwith_facts hO (c := p.1) (l := f p) (by rw [hp]; exact hJ p.1)
  obtain ⟨i1, i2⟩ := ih (rwithL O p.1 (f p)) (fun q hq => hf q (by simp [hq])) h1
  refine ⟨i1, fun k => ?_⟩
  simp only [List.foldl_cons]
  rw [i2, h2, hp]
  rw [List.map_cons]
  by_cases hm : k ∈ r.map Prod.fst
  ·rw [if_pos hm, if_pos (List.mem_cons_of_mem _ hm)]
  ·rw [if_neg hm]
   by_cases hk : k = p.1
   ·subst hk; rw [if_pos rfl, if_pos (List.mem_cons_self)]
   ·rw [if_neg hk, if_neg (fun h => (List.mem_cons.1 h).elim hk hm)]
theorem get_two {L : List (Int × Int)} {k : Int} (h : k ∉ L.map Prod.fst) : get L k = 2 := by
 by_cases hk : get L k = 2
 ·exact hk
 ·obtain ⟨p, hp, e, _⟩ := mem_of_get hk
  exact absurd (List.mem_map.2 ⟨p, hp, e⟩) h
theorem rfold_eq {op : Int → Int → Int} (h2 : op 2 2 = 2) (hop : ∀ x y, 0 ≤ op x y ∧ op x y ≤ 5) {A C : List (Int × Int)} (hA : Fit A) (hC : Fit C) : rfoldL op A C = foldP op (both A C) := by
 obtain ⟨b, rA⟩ := hA.rc
 obtain ⟨b', rC⟩ := hC.rc
 have hJ : ∀ k, 0 ≤ op (get A k) (get C k) ∧ op (get A k) (get C k) ≤ 5 := fun k => hop _ _
 obtain ⟨f1, g1⟩ := set_all (fun k => op (get A k) (get C k)) hJ (fun p => op p.2 (get C p.1)) A A (fun p hp => by rw [get_mem rA hp]) hA
 obtain ⟨f2, g2⟩ := set_all (fun k => op (get A k) (get C k)) hJ (fun q => op (get A q.1) q.2) C _ (fun q hq => by rw [get_mem rC hq]) f1
 have e : rfoldL op A C = C.foldl (fun O q => rwithL O q.1 (op (get A q.1) q.2)) (A.foldl (fun O p => rwithL O p.1 (op p.2 (get C p.1))) A) := by
  unfold rfoldL rj2 rj1
  rw [List.take_length, List.take_length]
 rw [e]
 refine ext f2 (fold_fit (h := fun _ x y => op x y) (fun _ => h2) rA rC hJ) fun k => ?_
 rw [g2, g1]
 refine Eq.trans ?_ (fold_get (h := fun _ x y => op x y) (fun _ => h2) rA rC k).symm
 by_cases h1 : k ∈ C.map Prod.fst
 ·rw [if_pos h1]
 ·rw [if_neg h1]
  by_cases h3 : k ∈ A.map Prod.fst
  ·rw [if_pos h3]
  ·rw [if_neg h3, get_two h3, get_two h1, h2]
theorem rjoin_eq {A C : List (Int × Int)} (hA : Fit A) (hC : Fit C) : rfoldL Lv.join A C = joinL A C := rfold_eq (by decide) (fun x y => ⟨Lv.join_lo x y, Lv.join_hi x y⟩) hA hC
theorem rmap_get {op : Int → Int} (h2 : op 2 = 2) (A : List (Int × Int)) (k : Int) : get (rmapL op A) k = op (get A k) := by
 induction A with
 | nil => exact h2.symm
 | cons p r ih =>
  show get ((p.1, op p.2) :: rmapL op r) k = _
  simp only [get]
  split
  ·rfl
  ·exact ih
theorem rmap_rc {op : Int → Int} : ∀ {A : List (Int × Int)} {b : Int}, Rc b A → Rc b (rmapL op A) := by
 intro A
 induction A with
 | nil => intro b _; trivial
 | cons p r ih => intro b h; exact ⟨h.1, ih h.2⟩
theorem rraise_eq {A : List (Int × Int)} (hA : Fit A) : rmapL Lv.raise A = raiseL A := by
 obtain ⟨b, rA⟩ := hA.rc
 refine ext ⟨⟨b, rmap_rc rA⟩, fun p hp => ?_⟩ (raiseL_fit hA) fun k => ?_
 ·obtain ⟨q, hq, rfl⟩ := List.mem_map.1 hp
  have h := hA.2 q hq
  show lok (Lv.raise q.2)
  unfold Lv.raise
  rw [Lv.lv_of h.1 h.2.1]
  split
  ·exact ⟨by omega, by omega, by omega⟩
  ·exact h
 ·have h1 := hA.range k
  rw [rmap_get (by decide), raiseL_get hA]
  unfold Lv.raise
  rw [Lv.lv_of h1.1 h1.2]
end Go.Proofs.Ytobcdaaghdljbaa
