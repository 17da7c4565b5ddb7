/-
  PROVED HERE: plain facts on frames as lists of pairs of integers, owner and page (no Go text). No condition.
-/
import Derived.Test.YtjdjiooblfgmlaaLab
namespace Go.Proofs.Ytjdjiooblfgmlaa
open Go.RowKit
namespace Frm

abbrev Fr := Int × Int
def isF (f : Fr) : Bool := decide (f.1 = 0)
def pgB (p : Int) : Bool := decide (0 ≤ p) && decide (p ≤ 1048576)
def wrB (f : Fr) : Bool := !pgB f.2 || (isF f && !decide (f.2 = 0))
def hdB (o : Int) (f : Fr) : Bool := !isF f && decide (f.1 = o)
def poB (o p : Int) (f : Fr) : Bool := hdB o f && decide (f.2 = p)
def nfB (f : Fr) : Bool := !isF f
def fat (L : List Fr) (i : Nat) : Fr := L.getD i (0, 0)
/-- The places among the first k of which P holds, rising. -/
def hitK (P : Fr → Bool) (L : List Fr) (k : Nat) : List Nat := (List.range k).filter fun i => P (fat L i)
def hits (P : Fr → Bool) (L : List Fr) : List Nat := hitK P L L.length
section
variable {P : Fr → Bool} {L : List Fr} {j k : Nat}
theorem hitK_hit (h : P (fat L k) = true) : hitK P L (k + 1) = hitK P L k ++ [k] := by
  unfold hitK; rw [List.range_succ, List.filter_append]; simp [h]
theorem hitK_miss (h : P (fat L k) = false) : hitK P L (k + 1) = hitK P L k := by
  unfold hitK; rw [List.range_succ, List.filter_append]; simp [h]
theorem hitK_pre (h : j ≤ k) : hitK P L j <+: hitK P L k := by
  induction k with
  | zero => have : j = 0 := by omega
            subst this; exact List.prefix_refl _
  | succ k ih =>
    by_cases hj : j = k + 1
    · subst hj; exact List.prefix_refl _
    · refine (ih (by omega)).trans ?_
      cases hz : P (fat L k) with
      | false => rw [hitK_miss hz]; exact List.prefix_refl _
      | true => rw [hitK_hit hz]; exact List.prefix_append _ _
theorem hits_mem : j ∈ hits P L ↔ j < L.length ∧ P (fat L j) = true := by unfold hits hitK; simp
theorem hits_lt (h : j ∈ hits P L) : j < L.length := (hits_mem.1 h).1
theorem hits_sorted : (hits P L).Pairwise (· < ·) := List.Pairwise.filter _ List.pairwise_lt_range
theorem hitK_len (hk : k ≤ L.length) : (hitK P L k).length = (L.take k).countP P := by
  induction k with
  | zero => simp [hitK]
  | succ k ih =>
    have e : L.take (k + 1) = L.take k ++ [fat L k] := by
      rw [List.take_succ_eq_append_getElem (by omega)]; unfold fat; rw [List.getD_eq_getElem?_getD, List.getElem?_eq_getElem (by omega)]; rfl
    rw [e, List.countP_append, ← ih (by omega)]
    cases hz : P (fat L k) with
    | false => rw [hitK_miss hz]; simp [hz]
    | true => rw [hitK_hit hz]; simp [hz]
/-- How many are so. -/
def cnt (P : Fr → Bool) (L : List Fr) : Nat := L.countP P
theorem hits_len : (hits P L).length = cnt P L := by unfold hits cnt; rw [hitK_len (Nat.le_refl _), List.take_length]
theorem cnt_le : cnt P L ≤ L.length := List.countP_le_length
/-- The first place that is so. -/
def fst (P : Fr → Bool) (L : List Fr) : Option Nat := (hits P L).head?
def fN (P : Fr → Bool) (L : List Fr) : Int := (((fst P L).getD 0 : Nat) : Int)
def fF (P : Fr → Bool) (L : List Fr) : Bool := (fst P L).isSome
theorem fst_none : fst P L = none ↔ ∀ i, i < L.length → P (fat L i) = false := by
  unfold fst
  rw [List.head?_eq_none_iff]
  constructor
  · intro h i hi
    cases hp : P (fat L i) with
    | false => rfl
    | true => have := hits_mem.2 ⟨hi, hp⟩; rw [h] at this; cases this
  · intro h
    cases hh : hits P L with
    | nil => rfl
    | cons x r =>
      have hx : x ∈ hits P L := by rw [hh]; simp
      obtain ⟨h1, h2⟩ := hits_mem.1 hx
      rw [h x h1] at h2; cases h2
theorem fst_some {x : Nat} : fst P L = some x ↔ x < L.length ∧ P (fat L x) = true ∧ ∀ i, i < x → P (fat L i) = false := by
  unfold fst
  constructor
  · intro h
    have hx : x ∈ hits P L := List.mem_of_mem_head? (by rw [h]; simp)
    obtain ⟨h1, h2⟩ := hits_mem.1 hx
    refine ⟨h1, h2, fun i hi => ?_⟩
    cases hp : P (fat L i) with
    | false => rfl
    | true =>
      have hm := hits_mem.2 ⟨by omega, hp⟩
      have hs := hits_sorted (P := P) (L := L)
      cases hh : hits P L with
      | nil => rw [hh] at h; cases h
      | cons y r =>
        rw [hh] at h hs hm
        simp at h
        subst h
        rcases List.mem_cons.1 hm with e | e
        · omega
        · have := (List.pairwise_cons.1 hs).1 i e; omega
  · rintro ⟨h1, h2, h3⟩
    have hm := hits_mem.2 ⟨h1, h2⟩
    have hs := hits_sorted (P := P) (L := L)
    cases hh : hits P L with
    | nil => rw [hh] at hm; cases hm
    | cons y r =>
      have hy : y ∈ hits P L := by rw [hh]; simp
      obtain ⟨q1, q2⟩ := hits_mem.1 hy
      rw [hh] at hm hs
      rcases List.mem_cons.1 hm with e | e
      · simp [e]
      · have := (List.pairwise_cons.1 hs).1 x e
        rw [h3 y this] at q2; cases q2
theorem fst_pre {x : Nat} (h : [x] <+: hits P L) : fst P L = some x := by
  obtain ⟨t, ht⟩ := h
  unfold fst; rw [← ht]; rfl
theorem fst_nil (h : hits P L = []) : fst P L = none := by unfold fst; rw [h]; rfl
end
/-- No owner has a page twice. -/
def onceB (L : List Fr) : Bool := decide ((L.filter nfB).Nodup)
/-- Frames are fit. -/
def okAt (L : List Fr) (i : Nat) : Bool := !wrB (fat L i) && ((fst (poB (fat L i).1 (fat L i).2) L).getD i == i)
def fitB (L : List Fr) : Bool := decide (L.length ≤ 4096) && (List.range L.length).all (okAt L)
def putL (L : List Fr) (i : Nat) (f : Fr) : List Fr := L.set i f
/-- All of an owner's are free. -/
def dropL (o : Int) (L : List Fr) : List Fr := L.map fun f => if hdB o f then (0, 0) else f
theorem fat_map {g : Fr → Fr} {L : List Fr} {i : Nat} (h : i < L.length) : fat (L.map g) i = g (fat L i) := by
  unfold fat; rw [List.getD_eq_getElem?_getD, List.getD_eq_getElem?_getD]; simp [h]
theorem fat_set {L : List Fr} {i j : Nat} {f : Fr} (h : i < L.length) : fat (L.set j f) i = if j = i then f else fat L i := by
  unfold fat; rw [List.getD_eq_getElem?_getD, List.getD_eq_getElem?_getD, List.getElem?_set]
  by_cases e : j = i
  · subst e; simp [h]
  · simp [e]
theorem fat_ext {L M : List Fr} (hl : L.length = M.length) (h : ∀ i, i < L.length → fat L i = fat M i) : L = M := by
  apply List.ext_getElem hl
  intro i h1 h2
  have := h i h1
  unfold fat at this
  rw [List.getD_eq_getElem?_getD, List.getD_eq_getElem?_getD, List.getElem?_eq_getElem h1, List.getElem?_eq_getElem h2] at this
  simpa using this
end Frm
end Go.Proofs.Ytjdjiooblfgmlaa
