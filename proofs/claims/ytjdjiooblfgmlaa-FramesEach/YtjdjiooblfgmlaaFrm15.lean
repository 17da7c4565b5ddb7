/-
  PROVED HERE: what is known of frames that four owners take, give and drop, and of a table of where their pages are (plain facts). No condition.
-/
import Derived.Test.YtjdjiooblfgmlaaFrm14
namespace Go.Proofs.Ytjdjiooblfgmlaa
open Go.RowKit
set_option linter.unusedVariables false
namespace Frm
/-- Where an owner's page is, or -1. -/
def aV (M : List Fr) (i j : Nat) : Int := match fst (poB ((i : Int) + 1) (j : Int)) M with
  | none => -1
  | some k => (k : Nat)
theorem aV_none {M : List Fr} {i j : Nat} (h : fst (poB ((i : Int) + 1) (j : Int)) M = none) : aV M i j = -1 := by unfold aV; rw [h]
theorem aV_some {M : List Fr} {i j k : Nat} (h : fst (poB ((i : Int) + 1) (j : Int)) M = some k) : aV M i j = (k : Nat) := by unfold aV; rw [h]
structure Eci (nn : Nat) (M : List Fr) (A : Nat → Int) : Prop where
  len : M.length = nn
  own : ∀ i, i < nn → (fat M i).1 = 0 ∨ (1 ≤ (fat M i).1 ∧ (fat M i).1 ≤ 4)
  one : ∀ i j, i < nn → j < nn → nfB (fat M i) = true → fat M i = fat M j → i = j
  tab : ∀ i j, i < 4 → j < 4 → A (i * 4 + j) = aV M i j
def upd (A : Nat → Int) (i : Nat) (v : Int) : Nat → Int := fun k => if k = i then v else A k
def upd4 (A : Nat → Int) (o : Nat) : Nat → Int := fun k => if k / 4 = o then -1 else A k
theorem fst_congr {P : Fr → Bool} {L M : List Fr} (hl : L.length = M.length) (h : ∀ i, i < L.length → P (fat L i) = P (fat M i)) : fst P L = fst P M := by
  cases hL : fst P L with
  | none =>
    symm
    refine fst_none.2 fun i hi => ?_
    rw [← h i (by omega)]
    exact fst_none.1 hL i (by omega)
  | some k =>
    symm
    obtain ⟨h1, h2, h3⟩ := fst_some.1 hL
    exact fst_some.2 ⟨by omega, by rw [← h k h1]; exact h2, fun i hi => by rw [← h i (by omega)]; exact h3 i hi⟩
section
variable {nn : Nat} {M : List Fr} {A : Nat → Int}
theorem Eci.new (nn : Nat) : Eci nn (newL nn) (fun _ => -1) := by
  have hat : ∀ i, i < nn → fat (newL nn) i = (0, 0) := fun i hi => by unfold fat newL; rw [List.getD_eq_getElem?_getD, List.getElem?_replicate]; simp [hi]
  refine ⟨by simp [newL], fun i hi => .inl (by rw [hat i hi]), fun i j hi hj hn _ => (by rw [hat i hi] at hn; cases hn), fun i j _ _ => ?_⟩
  rw [aV_none]
  refine fst_none.2 fun k hk => ?_
  rw [hat k (by simpa [newL] using hk)]
  rfl
theorem Eci.has (h : Eci nn M A) {o p : Nat} (ho : o < 4) (hp : p < 4) : decide (0 ≤ A (o * 4 + p)) = fF (poB ((o : Int) + 1) (p : Int)) M := by
  rw [h.tab o p ho hp]
  unfold fF
  cases hf : fst (poB ((o : Int) + 1) (p : Int)) M with
  | none => rw [aV_none hf]; rfl
  | some k => rw [aV_some hf]; simp
theorem Eci.isAt (h : Eci nn M A) {o p : Nat} (ho : o < 4) (hp : p < 4) (hf : fF (poB ((o : Int) + 1) (p : Int)) M = true) : fN (poB ((o : Int) + 1) (p : Int)) M = A (o * 4 + p) := by
  rw [h.tab o p ho hp]
  unfold fF at hf
  obtain ⟨k, hk⟩ := Option.isSome_iff_exists.1 hf
  unfold fN; rw [aV_some hk, hk]; rfl
theorem Eci.hasNot (h : Eci nn M A) {o p : Nat} (ho : o < 4) (hp : p < 4) (hf : fF (poB ((o : Int) + 1) (p : Int)) M = false) : A (o * 4 + p) = -1 := by
  rw [h.tab o p ho hp]
  unfold fF at hf
  exact aV_none (by simpa using hf)
theorem badOk {o p : Nat} (hp : p < 4) : badB ((o : Int) + 1) (p : Int) = false := bad_iff.2 ⟨by omega, by omega, by omega⟩
/-- Another owner's page, or another page, is where it was. -/
theorem po_other {o p i j : Nat} {f : Fr} (h : ¬ (i = o ∧ j = p)) : poB ((i : Int) + 1) (j : Int) ((o : Int) + 1, (p : Int)) = false := by
  cases hq : poB ((i : Int) + 1) (j : Int) ((o : Int) + 1, (p : Int)) with
  | false => rfl
  | true =>
    have := (poB_iff.1 hq).2
    simp only [Prod.mk.injEq] at this
    exact absurd ⟨by omega, by omega⟩ h
theorem Eci.take (h : Eci nn M A) {o p : Nat} (ho : o < 4) (hp : p < 4) (hE : tkE M ((o : Int) + 1) (p : Int) = 0) : Eci nn (tkL M ((o : Int) + 1) (p : Int)) (upd A (o * 4 + p) (tkN M ((o : Int) + 1) (p : Int))) := by
  have hf : fF (poB ((o : Int) + 1) (p : Int)) M = false := by
    unfold tkE at hE; rw [badOk hp] at hE
    cases hq : fF (poB ((o : Int) + 1) (p : Int)) M with
    | false => rfl
    | true => rw [hq] at hE; simp at hE
  have hg : fF isF M = true := by
    unfold tkE at hE; rw [badOk hp, hf] at hE
    cases hq : fF isF M with
    | true => rfl
    | false => rw [hq] at hE; simp at hE
  obtain ⟨k, hk⟩ := Option.isSome_iff_exists.1 (show (fst isF M).isSome = true from hg)
  obtain ⟨k1, k2, k3⟩ := fst_some.1 hk
  have hL : tkL M ((o : Int) + 1) (p : Int) = M.set k ((o : Int) + 1, (p : Int)) := by unfold tkL fI; rw [if_pos hE, hk]; rfl
  have hN : tkN M ((o : Int) + 1) (p : Int) = (k : Nat) := by unfold tkN fN; rw [if_pos hE, hk]; rfl
  have hno := fF_false.1 hf
  rw [hL, hN]
  have hlen := h.len
  refine ⟨by simpa using hlen, fun i hi => ?_, fun i j hi hj hn e => ?_, fun i j hi hj => ?_⟩
  · rw [fat_set (by omega)]
    split
    · right; show 1 ≤ (o : Int) + 1 ∧ (o : Int) + 1 ≤ 4; omega
    · exact h.own i hi
  · rw [fat_set (by omega)] at hn e
    rw [fat_set (by omega)] at e
    have key : ∀ c, c < nn → fat M c ≠ ((o : Int) + 1, (p : Int)) := fun c hc e => by
      have := hno c (by omega)
      rw [poB_iff.2 ⟨nf_iff.2 (by rw [e]; show (o : Int) + 1 ≠ 0; omega), e⟩] at this
      cases this
    by_cases ea : k = i
    · by_cases eb : k = j
      · omega
      · rw [if_pos ea, if_neg eb] at e
        exact absurd e.symm (key j hj)
    · rw [if_neg ea] at hn e
      by_cases eb : k = j
      · rw [if_pos eb] at e
        exact absurd e (key i hi)
      · rw [if_neg eb] at e; exact h.one i j hi hj hn e
  · by_cases hij : i = o ∧ j = p
    · obtain ⟨rfl, rfl⟩ := hij
      unfold upd
      rw [if_pos rfl, aV_some (k := k)]
      refine fst_some.2 ⟨by simpa using k1, ?_, fun c hc => ?_⟩
      · rw [fat_set k1, if_pos rfl]
        exact poB_iff.2 ⟨nf_iff.2 (by show (i : Int) + 1 ≠ 0; omega), rfl⟩
      · rw [fat_set (by omega), if_neg (by omega)]
        exact hno c (by omega)
    · unfold upd
      rw [if_neg (by omega), h.tab i j hi hj]
      unfold aV
      rw [fst_congr (L := M.set k ((o : Int) + 1, (p : Int))) (M := M) (by simp)]
      intro c hc
      rw [List.length_set] at hc
      rw [fat_set hc]
      split
      · rename_i e
        subst e
        rw [po_other (f := (0, 0)) hij]
        cases hq : poB ((i : Int) + 1) (j : Int) (fat M k) with
        | false => rfl
        | true =>
          have := (poB_iff.1 hq).1
          unfold nfB at this; rw [k2] at this; cases this
      · rfl
theorem Eci.stay (h : Eci nn M A) {o p : Nat} (hE : tkE M ((o : Int) + 1) (p : Int) ≠ 0) : Eci nn (tkL M ((o : Int) + 1) (p : Int)) A := by
  have : tkL M ((o : Int) + 1) (p : Int) = M := by unfold tkL; rw [if_neg hE]
  rw [this]; exact h
theorem Eci.give (h : Eci nn M A) {o p : Nat} (ho : o < 4) (hp : p < 4) : Eci nn (gvL M ((o : Int) + 1) (p : Int)) (upd A (o * 4 + p) (-1)) := by
  cases hf : fF (poB ((o : Int) + 1) (p : Int)) M with
  | false =>
    have hL : gvL M ((o : Int) + 1) (p : Int) = M := by unfold gvL; rw [hf]; rfl
    rw [hL]
    refine ⟨h.len, h.own, h.one, fun i j hi hj => ?_⟩
    unfold upd
    split
    · rename_i e
      have e1 : i = o := by omega
      have e2 : j = p := by omega
      subst e1 e2
      rw [← h.tab i j hi hj, h.hasNot hi hj hf]
    · exact h.tab i j hi hj
  | true =>
    obtain ⟨k, hk⟩ := Option.isSome_iff_exists.1 (show (fst (poB ((o : Int) + 1) (p : Int)) M).isSome = true from hf)
    obtain ⟨k1, k2, k3⟩ := fst_some.1 hk
    have hL : gvL M ((o : Int) + 1) (p : Int) = M.set k (0, 0) := by unfold gvL fI; rw [hf, hk]; rfl
    have hlen := h.len
    obtain ⟨q1, q2⟩ := poB_iff.1 k2
    rw [hL]
    refine ⟨by simpa using hlen, fun i hi => ?_, fun i j hi hj hn e => ?_, fun i j hi hj => ?_⟩
    · rw [fat_set (by omega)]
      split
      · left; rfl
      · exact h.own i hi
    · rw [fat_set (by omega)] at hn e
      rw [fat_set (by omega)] at e
      by_cases ea : k = i
      · rw [if_pos ea] at hn; cases hn
      · rw [if_neg ea] at hn e
        by_cases eb : k = j
        · rw [if_pos eb] at e; rw [e] at hn; cases hn
        · rw [if_neg eb] at e; exact h.one i j hi hj hn e
    · by_cases hij : i = o ∧ j = p
      · obtain ⟨rfl, rfl⟩ := hij
        unfold upd
        rw [if_pos rfl, aV_none]
        refine fst_none.2 fun c hc => ?_
        rw [List.length_set] at hc
        rw [fat_set hc]
        split
        · rfl
        · rename_i hne
          cases hq : poB ((i : Int) + 1) (j : Int) (fat M c) with
          | false => rfl
          | true =>
            obtain ⟨r1, r2⟩ := poB_iff.1 hq
            exact absurd (h.one k c (by omega) (by omega) q1 (q2.trans r2.symm)) hne
      · unfold upd
        rw [if_neg (by omega), h.tab i j hi hj]
        unfold aV
        rw [fst_congr (L := M.set k (0, 0)) (M := M) (by simp)]
        intro c hc
        rw [List.length_set] at hc
        rw [fat_set hc]
        split
        · rename_i e
          subst e
          rw [q2, po_other (f := (0, 0)) hij]
          rfl
        · rfl
theorem Eci.drop (h : Eci nn M A) {o : Nat} (ho : o < 4) : Eci nn (dropL ((o : Int) + 1) M) (upd4 A o) := by
  have hlen := h.len
  have hat : ∀ i, i < nn → fat (dropL ((o : Int) + 1) M) i = if hdB ((o : Int) + 1) (fat M i) then (0, 0) else fat M i := fun i hi => drop_at (by omega)
  refine ⟨by rw [drop_len]; exact hlen, fun i hi => ?_, fun i j hi hj hn e => ?_, fun i j hi hj => ?_⟩
  · rw [hat i hi]
    split
    · left; rfl
    · exact h.own i hi
  · rw [hat i hi] at hn e
    rw [hat j hj] at e
    by_cases ea : hdB ((o : Int) + 1) (fat M i) = true
    · rw [if_pos ea] at hn; cases hn
    · rw [if_neg ea] at hn e
      by_cases eb : hdB ((o : Int) + 1) (fat M j) = true
      · rw [if_pos eb] at e; rw [e] at hn; cases hn
      · rw [if_neg eb] at e; exact h.one i j hi hj hn e
  · unfold upd4
    by_cases hio : i = o
    · subst hio
      rw [if_pos (by omega), aV_none]
      refine fst_none.2 fun c hc => ?_
      rw [drop_len] at hc
      rw [hat c (by omega)]
      split
      · rfl
      · rename_i hne
        cases hq : poB ((i : Int) + 1) (j : Int) (fat M c) with
        | false => rfl
        | true => unfold poB at hq; simp at hq; exact absurd hq.1 hne
    · rw [if_neg (by omega), h.tab i j hi hj]
      unfold aV
      rw [fst_congr (L := dropL ((o : Int) + 1) M) (M := M) (drop_len _ _)]
      intro c hc
      rw [drop_len] at hc
      rw [hat c (by omega)]
      split
      · rename_i hd
        have e0 : poB ((i : Int) + 1) (j : Int) (0, 0) = false := rfl
        rw [e0]
        cases hq : poB ((i : Int) + 1) (j : Int) (fat M c) with
        | false => rfl
        | true =>
          have q2 := (poB_iff.1 hq).2
          unfold hdB at hd
          simp only [Bool.and_eq_true, decide_eq_true_iff] at hd
          rw [q2] at hd
          have := hd.2
          simp only at this
          omega
      · rfl
/-- What the first k owners hold. -/
def hs (M : List Fr) : Nat → Nat
  | 0 => 0
  | k + 1 => hs M k + cnt (hdB ((k : Int) + 1)) M
theorem hs_le (M : List Fr) (k : Nat) : hs M k ≤ k * M.length := by
  induction k with
  | zero => simp [hs]
  | succ k ih => have := cnt_le (P := hdB ((k : Int) + 1)) (L := M); rw [hs, Nat.succ_mul]; omega
theorem all_told {M : List Fr} (h : ∀ f ∈ M, f.1 = 0 ∨ (1 ≤ f.1 ∧ f.1 ≤ 4)) : hs M 4 + cnt isF M = M.length := by
  induction M with
  | nil => rfl
  | cons f r ih =>
    have ih := ih fun g hg => h g (by simp [hg])
    have hf := h f (by simp)
    simp only [hs, cnt, List.countP_cons, List.length_cons] at ih ⊢
    have key : (if isF f = true then 1 else 0) + (if hdB ((0 : Nat) + 1) f = true then 1 else 0) + (if hdB ((1 : Nat) + 1) f = true then 1 else 0) + (if hdB ((2 : Nat) + 1) f = true then 1 else 0) + (if hdB ((3 : Nat) + 1) f = true then 1 else 0) = 1 := by
      obtain ⟨x, y⟩ := f
      simp only at hf
      unfold hdB isF
      have : x = 0 ∨ x = 1 ∨ x = 2 ∨ x = 3 ∨ x = 4 := by omega
      rcases this with rfl | rfl | rfl | rfl | rfl <;> simp
    omega
theorem Eci.all (h : Eci nn M A) : hs M 4 + cnt isF M = nn := by
  rw [all_told (M := M), h.len]
  intro f hf
  obtain ⟨i, hi, rfl⟩ := List.getElem_of_mem hf
  have := h.own i (by rw [← h.len]; exact hi)
  unfold fat at this
  rw [List.getD_eq_getElem?_getD, List.getElem?_eq_getElem hi] at this
  exact this
/-- What is told of a page that can't be taken. -/
theorem tk_cases (M : List Fr) {o p : Nat} (hp : p < 4) : (tkE M ((o : Int) + 1) (p : Int) = 0 ∧ fF (poB ((o : Int) + 1) (p : Int)) M = false) ∨ (tkE M ((o : Int) + 1) (p : Int) = 12 ∧ fF (poB ((o : Int) + 1) (p : Int)) M = true) ∨ (tkE M ((o : Int) + 1) (p : Int) = 6 ∧ fF (poB ((o : Int) + 1) (p : Int)) M = false ∧ cnt isF M = 0) := by
  unfold tkE
  rw [badOk hp]
  cases hf : fF (poB ((o : Int) + 1) (p : Int)) M with
  | true => simp
  | false =>
    cases hg : fF isF M with
    | true => simp
    | false =>
      refine .inr (.inr ⟨by simp, rfl, ?_⟩)
      unfold cnt
      rw [List.countP_eq_zero]
      intro f hf2
      obtain ⟨i, hi, rfl⟩ := List.getElem_of_mem hf2
      have := fF_false.1 hg i hi
      unfold fat at this
      rw [List.getD_eq_getElem?_getD, List.getElem?_eq_getElem hi] at this
      simpa using this
end
end Frm
end Go.Proofs.Ytjdjiooblfgmlaa
