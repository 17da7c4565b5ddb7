/-
  PROVED HERE: plain facts on the maps of an address space, memory's words for them, and what package pages' functions without a loop return when they are called (contracts over this translation). No condition but the maps' fitness where it is written.
-/
import Derived.WalkKit
import Derived.RangeFuncNested
import Derived.RangeFuncBound
import Derived.RangeFuncBox
import Derived.Shelf.Abstract
import Derived.Shelf.RegionOpen
import Derived.Below
import Derived.OwnWalk
import Derived.WalkSmall
import Derived.Laws.EntriesVeiled
import Derived.Deep.QuietTactic
import Derived.Test.YtfpmkihlfhpgdaaRows
import Derived.Laws.AppendOwn
import Derived.Laws.OwnMore
import Derived.Laws.AppendOwnNone
import Derived.Maps.AppendAt
import Derived.Deep.RegionHeld3
namespace Go.Proofs.Ytfpmkihlfhpgdaa.PgM
section
namespace Pg

structure Mp where
  va : Int
  n : Int
  cont : Int
  seg : Int
  off : Int
  wr : Bool
instance : Inhabited Mp := ⟨⟨0, 0, 0, 0, 0, false⟩⟩
/-- Its numbers are what Go's types hold. -/
def I64 (x : Int) : Prop := -9223372036854775808 ≤ x ∧ x ≤ 9223372036854775807
def Mp.ok (m : Mp) : Prop := I64 m.va ∧ I64 m.n ∧ I64 m.off
/-- A map is fit. -/
def oneB (m : Mp) : Bool := decide (0 ≤ m.va ∧ 1 ≤ m.n ∧ 0 ≤ m.off ∧ m.va + m.n ≤ 1048576 ∧ m.off + m.n ≤ 1048576)
theorem oneB_iff {m : Mp} : oneB m = true ↔ 0 ≤ m.va ∧ 1 ≤ m.n ∧ 0 ≤ m.off ∧ m.va + m.n ≤ 1048576 ∧ m.off + m.n ≤ 1048576 := by unfold oneB; rw [decide_eq_true_iff]
def mat (L : List Mp) (i : Nat) : Mp := L.getD i default
def okAt (L : List Mp) (i : Nat) : Bool := oneB (mat L i) && (decide (i = 0) || decide ((mat L (i - 1)).va + (mat L (i - 1)).n ≤ (mat L i).va))
def fitB (L : List Mp) : Bool := decide (L.length ≤ 16) && (List.range L.length).all (okAt L)
/-- The same, as a proposition. -/
def Fit (L : List Mp) : Prop := L.length ≤ 16 ∧ (∀ x ∈ L, oneB x = true) ∧ L.Pairwise (fun x y => x.va + x.n ≤ y.va)
section
variable {L M : List Mp} {i j k : Nat} {m x : Mp} {P : Mp → Bool} {p v : Int}
theorem mat_get (h : i < L.length) : mat L i = L[i] := by unfold mat; rw [List.getD_eq_getElem?_getD, List.getElem?_eq_getElem h]; rfl
theorem mat_mem (h : i < L.length) : mat L i ∈ L := by rw [mat_get h]; exact List.getElem_mem h
theorem mem_mat (h : x ∈ L) : ∃ i, i < L.length ∧ mat L i = x := by
  obtain ⟨i, hi, e⟩ := List.mem_iff_getElem.1 h
  exact ⟨i, hi, by rw [mat_get hi]; exact e⟩
theorem take_snoc (h : k < L.length) : L.take (k + 1) = L.take k ++ [mat L k] := by rw [List.take_succ_eq_append_getElem h, mat_get h]
theorem fitB_long (h : 16 < L.length) : fitB L = false := by unfold fitB; rw [decide_eq_false (by omega)]; rfl
theorem fitB_no (h : k < L.length) (e : okAt L k = false) : fitB L = false := by
  unfold fitB
  rw [Bool.and_eq_false_iff]
  right
  rw [List.all_eq_false]
  exact ⟨k, List.mem_range.2 h, by simp [e]⟩
theorem fitB_yes (hl : L.length ≤ 16) (h : ∀ k, k < L.length → okAt L k = true) : fitB L = true := by
  unfold fitB
  rw [decide_eq_true hl, Bool.true_and, List.all_eq_true]
  exact fun k hk => h k (List.mem_range.1 hk)
theorem fit_iff : fitB L = true ↔ Fit L := by
  constructor
  · intro h
    unfold fitB at h
    rw [Bool.and_eq_true, decide_eq_true_iff, List.all_eq_true] at h
    obtain ⟨h1, h2⟩ := h
    have hok : ∀ k, k < L.length → oneB (mat L k) = true ∧ (0 < k → (mat L (k - 1)).va + (mat L (k - 1)).n ≤ (mat L k).va) := by
      intro k hk
      have := h2 k (List.mem_range.2 hk)
      unfold okAt at this
      rw [Bool.and_eq_true, Bool.or_eq_true, decide_eq_true_iff, decide_eq_true_iff] at this
      exact ⟨this.1, fun h0 => this.2.resolve_left (by omega)⟩
    refine ⟨h1, fun x hx => ?_, ?_⟩
    · obtain ⟨i, hi, rfl⟩ := mem_mat hx
      exact (hok i hi).1
    · rw [List.pairwise_iff_getElem]
      have key : ∀ d i, i + d + 1 < L.length → (mat L i).va + (mat L i).n ≤ (mat L (i + d + 1)).va := by
        intro d
        induction d with
        | zero => intro i hi; exact (hok (i + 1) hi).2 (by omega)
        | succ d ih =>
          intro i hi
          have a := ih i (by omega)
          have b := (hok (i + (d + 1) + 1) hi).2 (by omega)
          have c := oneB_iff.1 (hok (i + d + 1) (by omega)).1
          rw [show i + (d + 1) + 1 - 1 = i + d + 1 by omega] at b
          omega
      intro i j hi hj hij
      have := key (j - i - 1) i (by omega)
      rw [show i + (j - i - 1) + 1 = j by omega, mat_get hi, mat_get hj] at this
      exact this
  · rintro ⟨h1, h2, h3⟩
    refine fitB_yes h1 fun k hk => ?_
    unfold okAt
    rw [h2 _ (mat_mem hk), Bool.true_and, Bool.or_eq_true, decide_eq_true_iff, decide_eq_true_iff]
    by_cases h0 : k = 0
    · exact .inl h0
    · right
      have := List.pairwise_iff_getElem.1 h3 (k - 1) k (by omega) hk (by omega)
      rw [mat_get hk, mat_get (by omega)]
      exact this
theorem Fit.rise (h : Fit L) (hij : i < j) (hj : j < L.length) : (mat L i).va + (mat L i).n ≤ (mat L j).va := by
  have := List.pairwise_iff_getElem.1 h.2.2 i j (by omega) hj hij
  rw [mat_get hj, mat_get (by omega)]
  exact this
theorem Fit.one (h : Fit L) (hi : i < L.length) : 0 ≤ (mat L i).va ∧ 1 ≤ (mat L i).n ∧ 0 ≤ (mat L i).off ∧ (mat L i).va + (mat L i).n ≤ 1048576 ∧ (mat L i).off + (mat L i).n ≤ 1048576 := oneB_iff.1 (h.2.1 _ (mat_mem hi))
theorem Fit.nil : Fit [] := ⟨by simp, fun x (hx : x ∈ []) => (by cases hx), List.Pairwise.nil⟩
theorem Fit.sub (h : Fit L) (s : M.Sublist L) : Fit M := ⟨Nat.le_trans s.length_le h.1, fun x hx => h.2.1 x (s.mem hx), h.2.2.sublist s⟩

/-- How many are so, from the first on. -/
def ps (P : Mp → Bool) (L : List Mp) : Nat := (L.takeWhile P).length
theorem ps_spec (hk : k ≤ L.length) (h : ∀ i, i < k → P (mat L i) = true) (h' : k < L.length → P (mat L k) = false) : ps P L = k := by
  induction L generalizing k with
  | nil => have : k = 0 := by simpa using hk
           subst this; rfl
  | cons x r ih =>
    cases k with
    | zero =>
      have : P x = false := h' (by simp)
      unfold ps
      rw [List.takeWhile_cons, this]; rfl
    | succ k =>
      have hx : P x = true := h 0 (by omega)
      unfold ps
      rw [List.takeWhile_cons, hx]
      have := ih (k := k) (by simpa using hk) (fun i hi => h (i + 1) (by omega)) (fun hl => h' (by simpa using hl))
      simpa [ps] using this
theorem ps_all : ps P L ≤ L.length ∧ (∀ i, i < ps P L → P (mat L i) = true) ∧ (ps P L < L.length → P (mat L (ps P L)) = false) := by
  induction L with
  | nil => exact ⟨Nat.le_refl _, fun i hi => absurd hi (by simp [ps]), fun h => absurd h (by simp)⟩
  | cons x r ih =>
    cases hx : P x with
    | false =>
      have e : ps P (x :: r) = 0 := by unfold ps; rw [List.takeWhile_cons, hx]; rfl
      rw [e]
      exact ⟨Nat.zero_le _, fun i hi => absurd hi (by omega), fun _ => hx⟩
    | true =>
      have e : ps P (x :: r) = ps P r + 1 := by unfold ps; rw [List.takeWhile_cons, hx]; rfl
      rw [e]
      refine ⟨by simpa using ih.1, fun i hi => ?_, fun hl => ih.2.2 (by simpa using hl)⟩
      cases i with
      | zero => exact hx
      | succ i => exact ih.2.1 i (by omega)
theorem ps_le : ps P L ≤ L.length := ps_all.1
/-- All of it is ahead of a page; it begins ahead of a page; it has a page. -/
def eP (p : Int) (x : Mp) : Bool := decide (x.va + x.n ≤ p)
def bP (p : Int) (x : Mp) : Bool := decide (x.va < p)
def hasB (x : Mp) (p : Int) : Bool := decide (x.va ≤ p ∧ p < x.va + x.n)
theorem eP_iff : eP p x = true ↔ x.va + x.n ≤ p := by unfold eP; rw [decide_eq_true_iff]
theorem eP_no : eP p x = false ↔ p < x.va + x.n := by unfold eP; rw [decide_eq_false_iff_not]; omega
theorem bP_iff : bP p x = true ↔ x.va < p := by unfold bP; rw [decide_eq_true_iff]
theorem bP_no : bP p x = false ↔ p ≤ x.va := by unfold bP; rw [decide_eq_false_iff_not]; omega
theorem hasB_iff : hasB x p = true ↔ x.va ≤ p ∧ p < x.va + x.n := by unfold hasB; rw [decide_eq_true_iff]
/-- What holds of one holds of all ahead of it. -/
def Falls (P : Mp → Bool) (L : List Mp) : Prop := ∀ i j, i < j → j < L.length → P (mat L j) = true → P (mat L i) = true
theorem falls_e (h : Fit L) : Falls (eP p) L := fun i j hij hj e => by
  rw [eP_iff] at e ⊢
  have := h.rise hij hj
  have := (h.one hj).2.1
  omega
theorem falls_b (h : Fit L) : Falls (bP p) L := fun i j hij hj e => by
  rw [bP_iff] at e ⊢
  have := h.rise hij hj
  have := (h.one (i := i) (by omega)).2.1
  omega
/-- The map of a page. -/
def fnd (L : List Mp) (p : Int) : Option Mp := if ps (eP p) L < L.length ∧ (mat L (ps (eP p) L)).va ≤ p then some (mat L (ps (eP p) L)) else none
theorem fnd_some (h : Fit L) : fnd L p = some x ↔ x ∈ L ∧ hasB x p = true := by
  obtain ⟨h1, h2, h3⟩ := ps_all (P := eP p) (L := L)
  unfold fnd
  constructor
  · intro e
    split at e
    · rename_i hc
      cases e
      exact ⟨mat_mem hc.1, hasB_iff.2 ⟨hc.2, eP_no.1 (h3 hc.1)⟩⟩
    · cases e
  · rintro ⟨hx, hp⟩
    obtain ⟨i, hi, rfl⟩ := mem_mat hx
    rw [hasB_iff] at hp
    have hki : ¬ i < ps (eP p) L := fun hlt => by have := eP_iff.1 (h2 i hlt); omega
    have hkl : ps (eP p) L < L.length := by omega
    have hk3 := eP_no.1 (h3 hkl)
    have : ps (eP p) L = i := by
      by_cases hlt : ps (eP p) L < i
      · have := h.rise hlt hi; omega
      · omega
    rw [this, if_pos ⟨hi, hp.1⟩]
theorem fnd_none (h : Fit L) : fnd L p = none ↔ ∀ x ∈ L, hasB x p = false := by
  constructor
  · intro e x hx
    cases hh : hasB x p with
    | false => rfl
    | true => have := (fnd_some h).2 ⟨hx, hh⟩; rw [e] at this; cases this
  · intro e
    cases hh : fnd L p with
    | none => rfl
    | some x => obtain ⟨a, b⟩ := (fnd_some h).1 hh; rw [e x a] at b; cases b
def fM (L : List Mp) (p : Int) : Mp := (fnd L p).getD default
def fN (L : List Mp) (p : Int) : Int := match fnd L p with
  | none => 0
  | some x => x.off + p - x.va
def fF (L : List Mp) (p : Int) : Bool := (fnd L p).isSome
/-- Where a map is put, the error, and the maps. -/
def pk (L : List Mp) (m : Mp) : Nat := ps (eP m.va) L
def reB (L : List Mp) (m : Mp) : Bool := decide (pk L m < L.length ∧ (mat L (pk L m)).va < m.va + m.n)
def putE (L : List Mp) (m : Mp) : Int := if oneB m = false then 4 else if reB L m = true then 12 else if 16 ≤ L.length then 6 else 0
def insL (L : List Mp) (k : Nat) (m : Mp) : List Mp := L.take k ++ [m] ++ L.drop k
def putL (L : List Mp) (m : Mp) : List Mp := if putE L m = 0 then insL L (pk L m) m else L
/-- Two maps have no page in common. -/
def Apart (x m : Mp) : Prop := x.va + x.n ≤ m.va ∨ m.va + m.n ≤ x.va
theorem re_iff (h : Fit L) (hm : oneB m = true) : reB L m = false ↔ ∀ x ∈ L, Apart x m := by
  obtain ⟨h1, h2, h3⟩ := ps_all (P := eP m.va) (L := L)
  have hm' := oneB_iff.1 hm
  unfold reB pk
  rw [decide_eq_false_iff_not]
  constructor
  · intro hc x hx
    obtain ⟨i, hi, rfl⟩ := mem_mat hx
    by_cases hlt : i < ps (eP m.va) L
    · exact .inl (eP_iff.1 (h2 i hlt))
    · right
      have hk : ps (eP m.va) L < L.length := by omega
      have : m.va + m.n ≤ (mat L (ps (eP m.va) L)).va := by
        rcases Int.lt_or_le (mat L (ps (eP m.va) L)).va (m.va + m.n) with q | q
        · exact absurd ⟨hk, q⟩ hc
        · exact q
      by_cases he : ps (eP m.va) L = i
      · rw [← he]; exact this
      · have r := h.rise (i := ps (eP m.va) L) (j := i) (by omega) hi
        have := (h.one hk).2.1
        omega
  · rintro hc ⟨hk, hv⟩
    rcases hc _ (mat_mem hk) with q | q
    · have := eP_no.1 (h3 hk); omega
    · omega
theorem put_ok (h : Fit L) : putE L m = 0 ↔ oneB m = true ∧ (∀ x ∈ L, Apart x m) ∧ L.length < 16 := by
  unfold putE
  cases hm : oneB m with
  | false => simp
  | true =>
    have hr := re_iff h hm
    cases hq : reB L m with
    | true => simp; intro hc; have := hr.2 hc; rw [hq] at this; cases this
    | false =>
      have := hr.1 hq
      by_cases hl : 16 ≤ L.length
      · simp [hl]
      · simp [hl]; exact ⟨this, by omega⟩
theorem ins_perm : (insL L k m).Perm (m :: L) := by
  unfold insL
  rw [List.append_assoc]
  refine List.perm_middle.trans ?_
  show (m :: (L.take k ++ L.drop k)).Perm (m :: L)
  rw [List.take_append_drop]
theorem ins_len : (insL L k m).length = L.length + 1 := by rw [ins_perm.length_eq]; rfl
theorem put_yes (e : putE L m = 0) : putL L m = insL L (pk L m) m := by unfold putL; rw [if_pos e]
theorem put_no (e : putE L m ≠ 0) : putL L m = L := by unfold putL; rw [if_neg e]
theorem put_mem (e : putE L m = 0) : x ∈ putL L m ↔ x = m ∨ x ∈ L := by rw [put_yes e, ins_perm.mem_iff, List.mem_cons]
theorem fit_put (h : Fit L) : Fit (putL L m) := by
  by_cases e : putE L m = 0
  · obtain ⟨hm, ha, hl⟩ := (put_ok h).1 e
    obtain ⟨h1, h2, h3⟩ := ps_all (P := eP m.va) (L := L)
    have hm' := oneB_iff.1 hm
    refine ⟨by rw [put_yes e, ins_len]; omega, fun x hx => ?_, ?_⟩
    · rcases (put_mem e).1 hx with rfl | hx
      · exact hm
      · exact h.2.1 x hx
    · rw [put_yes e]
      unfold insL
      have hp : (L.take (pk L m) ++ L.drop (pk L m)).Pairwise (fun x y => x.va + x.n ≤ y.va) := by rw [List.take_append_drop]; exact h.2.2
      rw [List.pairwise_append] at hp
      have hA : ∀ x ∈ L.take (pk L m), x.va + x.n ≤ m.va := by
        intro x hx
        obtain ⟨i, hi, rfl⟩ := List.mem_iff_getElem.1 hx
        have hi' : i < pk L m := by rw [List.length_take] at hi; omega
        have := eP_iff.1 (h2 i hi')
        rw [mat_get (show i < L.length by unfold pk at hi'; omega)] at this
        simpa using this
      have hB : ∀ x ∈ L.drop (pk L m), m.va + m.n ≤ x.va := by
        intro x hx
        obtain ⟨i, hi, rfl⟩ := List.mem_iff_getElem.1 hx
        rw [List.length_drop] at hi
        have hxm : (L.drop (pk L m))[i] = mat L (pk L m + i) := by rw [mat_get (by omega)]; simp
        rw [hxm]
        rcases ha _ (mat_mem (L := L) (i := pk L m + i) (by omega)) with q | q
        · exfalso
          have : eP m.va (mat L (pk L m)) = true := by
            by_cases h0 : i = 0
            · subst h0; exact eP_iff.2 q
            · exact falls_e h (pk L m) (pk L m + i) (by omega) (by omega) (eP_iff.2 q)
          rw [show eP m.va (mat L (pk L m)) = false from h3 (by unfold pk at *; omega)] at this
          cases this
        · exact q
      rw [List.append_assoc, List.pairwise_append]
      refine ⟨hp.1, ?_, ?_⟩
      · show (m :: L.drop (pk L m)).Pairwise _
        rw [List.pairwise_cons]
        exact ⟨hB, hp.2.1⟩
      · intro x hx y hy
        rcases List.mem_cons.1 (show y ∈ m :: L.drop (pk L m) from hy) with rfl | hy
        · exact hA x hx
        · exact hp.2.2 x hx y hy
  · rw [put_no e]; exact h
/-- Which map goes, the error, and the maps. -/
def dk (L : List Mp) (v : Int) : Nat := ps (bP v) L
def thB (L : List Mp) (v : Int) : Bool := decide (dk L v < L.length ∧ (mat L (dk L v)).va = v)
def drE (L : List Mp) (v : Int) : Int := if thB L v = true then 0 else 1
def delL (L : List Mp) (k : Nat) : List Mp := L.take k ++ L.drop (k + 1)
def drL (L : List Mp) (v : Int) : List Mp := if thB L v = true then delL L (dk L v) else L
theorem fit_drop (h : Fit L) : Fit (drL L v) := by
  unfold drL
  split
  · refine h.sub ?_
    unfold delL
    have : (L.take (dk L v) ++ L.drop (dk L v + 1)).Sublist (L.take (dk L v) ++ L.drop (dk L v)) := List.Sublist.append_left (List.drop_sublist_drop_left L (Nat.le_succ _)) _
    rwa [List.take_append_drop] at this
  · exact h
theorem th_iff (h : Fit L) : thB L v = false ↔ ∀ i, i < L.length → (mat L i).va ≠ v := by
  obtain ⟨h1, h2, h3⟩ := ps_all (P := bP v) (L := L)
  unfold thB dk
  rw [decide_eq_false_iff_not]
  constructor
  · intro hc i hi e
    have hk : ¬ i < ps (bP v) L := fun q => by have := bP_iff.1 (h2 i q); omega
    have hl : ps (bP v) L < L.length := by omega
    have h4 := bP_no.1 (h3 hl)
    by_cases he : ps (bP v) L = i
    · exact hc ⟨hl, by rw [he]; exact e⟩
    · have r := h.rise (i := ps (bP v) L) (j := i) (by omega) hi
      have := (h.one hl).2.1
      omega
  · rintro hc ⟨a, b⟩
    exact hc _ a b
theorem ins_at (hk : k ≤ L.length) : (∀ i, i < k → mat (insL L k m) i = mat L i) ∧ mat (insL L k m) k = m := by
  unfold insL
  have hl : (L.take k).length = k := by rw [List.length_take]; omega
  constructor
  · intro i hi
    unfold mat
    rw [List.append_assoc, List.getD_eq_getElem?_getD, List.getElem?_append_left (by omega), List.getElem?_take, if_pos hi, List.getD_eq_getElem?_getD]
  · unfold mat
    rw [List.append_assoc, List.getD_eq_getElem?_getD, List.getElem?_append_right (by omega), hl, Nat.sub_self]
    rfl
theorem drop_put (h : Fit L) (e : putE L m = 0) : thB (putL L m) m.va = true ∧ drL (putL L m) m.va = L := by
  obtain ⟨hm, ha, hl⟩ := (put_ok h).1 e
  obtain ⟨h1, h2, h3⟩ := ps_all (P := eP m.va) (L := L)
  have hm' := oneB_iff.1 hm
  have hk : pk L m ≤ L.length := h1
  obtain ⟨hi1, hi2⟩ := ins_at (m := m) hk
  have hlen := ins_len (L := L) (k := pk L m) (m := m)
  have hd : dk (putL L m) m.va = pk L m := by
    rw [put_yes e]
    refine ps_spec (by omega) (fun i hi => ?_) (fun _ => ?_)
    · rw [hi1 i hi, bP_iff]
      have := eP_iff.1 (h2 i hi)
      have := (h.one (i := i) (by omega)).2.1
      omega
    · rw [hi2, bP_no]; omega
  have ht : thB (putL L m) m.va = true := by
    unfold thB
    rw [hd, decide_eq_true_iff, put_yes e, hi2]
    exact ⟨by omega, rfl⟩
  refine ⟨ht, ?_⟩
  unfold drL delL
  rw [if_pos ht, hd, put_yes e]
  unfold insL
  have hlt : (L.take (pk L m)).length = pk L m := by rw [List.length_take]; omega
  rw [List.take_append_of_le_length (by rw [List.length_append, hlt]; omega), List.take_append_of_le_length (by omega), List.take_of_length_le (by omega), List.drop_append_of_le_length (by rw [List.length_append, hlt]; simp), List.drop_of_length_le (by rw [List.length_append, hlt]; simp), List.nil_append, List.take_append_drop]
end
/-- How many maps have a page. -/
def cnt (L : List Mp) (p : Int) : Nat := L.countP (fun x => hasB x p)
section
variable {L M : List Mp} {m x : Mp} {p a : Int}
theorem cnt_fnd (h : Fit L) : cnt L p = if (fnd L p).isSome then 1 else 0 := by
  cases hf : fnd L p with
  | none =>
    unfold cnt
    rw [if_neg (by simp), List.countP_eq_zero]
    intro x hx; rw [(fnd_none h).1 hf x hx]; simp
  | some y =>
    rw [if_pos (by simp)]
    obtain ⟨hy, hp⟩ := (fnd_some h).1 hf
    obtain ⟨A, C, rfl⟩ := List.append_of_mem hy
    have h3 := h.2.2
    rw [List.pairwise_append, List.pairwise_cons] at h3
    obtain ⟨_, ⟨hC, _⟩, hA⟩ := h3
    rw [hasB_iff] at hp
    have zA : A.countP (fun x => hasB x p) = 0 := by
      rw [List.countP_eq_zero]
      intro x hx e
      have := hA x hx y (by simp)
      rw [hasB_iff] at e
      omega
    have zC : C.countP (fun x => hasB x p) = 0 := by
      rw [List.countP_eq_zero]
      intro x hx e
      have := hC x hx
      rw [hasB_iff] at e
      omega
    unfold cnt
    rw [List.countP_append, List.countP_cons, zA, zC, if_pos (hasB_iff.2 hp)]
theorem fnd_put (h : Fit L) (e : putE L m = 0) : fnd (putL L m) p = if hasB m p = true then some m else fnd L p := by
  have hf := fit_put (m := m) h
  obtain ⟨hm, ha, hl⟩ := (put_ok h).1 e
  split
  · rename_i hp
    exact (fnd_some hf).2 ⟨(put_mem e).2 (.inl rfl), hp⟩
  · rename_i hp
    cases hq : fnd L p with
    | some y =>
      obtain ⟨a, b⟩ := (fnd_some h).1 hq
      exact (fnd_some hf).2 ⟨(put_mem e).2 (.inr a), b⟩
    | none =>
      rw [fnd_none hf]
      intro x hx
      rcases (put_mem e).1 hx with rfl | hx
      · simpa using hp
      · exact (fnd_none h).1 hq x hx
theorem fnd_was (h : Fit L) (e : putE L m = 0) (hp : hasB m p = true) : fnd L p = none := by
  obtain ⟨hm, ha, hl⟩ := (put_ok h).1 e
  rw [fnd_none h]
  intro x hx
  cases hq : hasB x p with
  | false => rfl
  | true =>
    rw [hasB_iff] at hp hq
    rcases ha x hx with q | q <;> omega
/-- The first pages of a map, and the others. -/
def fstM (m : Mp) (a : Int) : Mp := ⟨m.va, a, m.cont, m.seg, m.off, m.wr⟩
def sndM (m : Mp) (a : Int) : Mp := ⟨m.va + a, m.n - a, m.cont, m.seg, m.off + a, m.wr⟩
theorem sorted_eq (h : Fit L) (h' : Fit M) (hp : L.Perm M) : L = M := by
  refine List.Perm.eq_of_pairwise ?_ h.2.2 h'.2.2 hp
  intro x y hx hy a b
  have := oneB_iff.1 (h.2.1 x hx)
  have := oneB_iff.1 (h'.2.1 y hy)
  omega
theorem put_perm (e : putE L m = 0) : (putL L m).Perm (m :: L) := by rw [put_yes e]; exact ins_perm
theorem put_len (e : putE L m = 0) : (putL L m).length = L.length + 1 := by rw [put_yes e]; exact ins_len
theorem parts (h : Fit L) (hl : L.length ≤ 14) (e : putE L m = 0) (h1 : 1 ≤ a) (h2 : a < m.n) :
    putE L (fstM m a) = 0 ∧ putE (putL L (fstM m a)) (sndM m a) = 0 ∧ putE L (sndM m a) = 0 ∧ putE (putL L (sndM m a)) (fstM m a) = 0 ∧
    putL (putL L (fstM m a)) (sndM m a) = putL (putL L (sndM m a)) (fstM m a) ∧ (putL (putL L (fstM m a)) (sndM m a)).length = (putL L m).length + 1 := by
  obtain ⟨hm, ha, _⟩ := (put_ok h).1 e
  have hm' := oneB_iff.1 hm
  have o1 : oneB (fstM m a) = true := oneB_iff.2 ⟨by show 0 ≤ m.va; omega, by show 1 ≤ a; omega, by show 0 ≤ m.off; omega, by show m.va + a ≤ _; omega, by show m.off + a ≤ _; omega⟩
  have o2 : oneB (sndM m a) = true := oneB_iff.2 (⟨by show 0 ≤ m.va + a; omega, by show 1 ≤ m.n - a; omega, by show 0 ≤ m.off + a; omega, by show m.va + a + (m.n - a) ≤ _; omega, by show m.off + a + (m.n - a) ≤ _; omega⟩)
  have a1 : ∀ x ∈ L, Apart x (fstM m a) := fun x hx => by
    rcases ha x hx with q | q
    · exact .inl q
    · right; show m.va + a ≤ x.va; omega
  have a2 : ∀ x ∈ L, Apart x (sndM m a) := fun x hx => by
    rcases ha x hx with q | q
    · left; show x.va + x.n ≤ m.va + a; omega
    · right; show m.va + a + (m.n - a) ≤ x.va; omega
  have e1 : putE L (fstM m a) = 0 := (put_ok h).2 ⟨o1, a1, by omega⟩
  have e3 : putE L (sndM m a) = 0 := (put_ok h).2 ⟨o2, a2, by omega⟩
  have f1 := fit_put (m := fstM m a) h
  have f2 := fit_put (m := sndM m a) h
  have e2 : putE (putL L (fstM m a)) (sndM m a) = 0 := (put_ok f1).2 ⟨o2, fun x hx => by
    rcases (put_mem e1).1 hx with rfl | hx
    · left; show m.va + a ≤ m.va + a; omega
    · exact a2 x hx, by rw [put_len e1]; omega⟩
  have e4 : putE (putL L (sndM m a)) (fstM m a) = 0 := (put_ok f2).2 ⟨o1, fun x hx => by
    rcases (put_mem e3).1 hx with rfl | hx
    · right; show m.va + a ≤ m.va + a; omega
    · exact a1 x hx, by rw [put_len e3]; omega⟩
  refine ⟨e1, e2, e3, e4, ?_, by rw [put_len e2, put_len e1, put_len e]⟩
  refine sorted_eq (fit_put f1) (fit_put f2) ?_
  refine (put_perm e2).trans ?_
  refine (List.Perm.cons _ (put_perm e1)).trans ?_
  refine (List.Perm.swap _ _ _).trans ?_
  refine List.Perm.trans ?_ (put_perm e4).symm
  exact List.Perm.cons _ (put_perm e3).symm
theorem parts_fnd (h : Fit L) (hl : L.length ≤ 14) (e : putE L m = 0) (h1 : 1 ≤ a) (h2 : a < m.n) :
    fF (putL L m) p = fF (putL (putL L (fstM m a)) (sndM m a)) p ∧ fN (putL L m) p = fN (putL (putL L (fstM m a)) (sndM m a)) p ∧ (fM (putL L m) p).cont = (fM (putL (putL L (fstM m a)) (sndM m a)) p).cont ∧ (fM (putL L m) p).seg = (fM (putL (putL L (fstM m a)) (sndM m a)) p).seg ∧ (fM (putL L m) p).wr = (fM (putL (putL L (fstM m a)) (sndM m a)) p).wr := by
  obtain ⟨e1, e2, _⟩ := parts h hl e h1 h2
  have q0 := fnd_put (p := p) h e
  have q1 := fnd_put (p := p) h e1
  have q2 := fnd_put (p := p) (fit_put (m := fstM m a) h) e2
  rw [q1] at q2
  unfold fF fN fM
  rw [q0, q2]
  by_cases hs : hasB (sndM m a) p = true
  · have hs' := hasB_iff.1 hs
    have : hasB m p = true := hasB_iff.2 (by have a1 : m.va + a ≤ p := hs'.1; have a2 : p < m.va + a + (m.n - a) := hs'.2; omega)
    rw [if_pos this, if_pos hs]
    refine ⟨rfl, ?_, rfl, rfl, rfl⟩
    show m.off + p - m.va = m.off + a + p - (m.va + a)
    omega
  · rw [if_neg hs]
    by_cases hf : hasB (fstM m a) p = true
    · have hf' := hasB_iff.1 hf
      have : hasB m p = true := hasB_iff.2 (by have a1 : m.va ≤ p := hf'.1; have a2 : p < m.va + a := hf'.2; omega)
      rw [if_pos this, if_pos hf]
      exact ⟨rfl, rfl, rfl, rfl, rfl⟩
    · have : ¬ hasB m p = true := fun q => by
        have q := hasB_iff.1 q
        by_cases hlt : p < m.va + a
        · exact hf (hasB_iff.2 ⟨q.1, hlt⟩)
        · exact hs (hasB_iff.2 ⟨by show m.va + a ≤ p; omega, by show p < m.va + a + (m.n - a); omega⟩)
      rw [if_neg this, if_neg hf]
      exact ⟨rfl, rfl, rfl, rfl, rfl⟩
end
/-- Two lists are the same. -/
def eqB (x y : Mp) : Bool := x.va == y.va && x.n == y.n && x.cont == y.cont && x.seg == y.seg && x.off == y.off && x.wr == y.wr
theorem eqB_iff {x y : Mp} : eqB x y = true ↔ x = y := by
  cases x; cases y
  simp [eqB, and_assoc]
theorem eqB_refl (x : Mp) : eqB x x = true := eqB_iff.2 rfl
def sameB (A C : List Mp) : Bool := A.length == C.length && (List.range A.length).all (fun i => eqB (mat A i) (mat C i))
theorem sameB_len {A C : List Mp} (h : A.length ≠ C.length) : sameB A C = false := by
  unfold sameB; rw [beq_eq_false_iff_ne.2 h]; rfl
theorem sameB_at {A C : List Mp} {k : Nat} (hk : k < A.length) (h : eqB (mat A k) (mat C k) = false) : sameB A C = false := by
  unfold sameB
  rw [Bool.and_eq_false_iff]; right
  rw [List.all_eq_false]
  exact ⟨k, List.mem_range.2 hk, by simp [h]⟩
theorem sameB_all {A C : List Mp} (h : A.length = C.length) (k : ∀ i, i < A.length → eqB (mat A i) (mat C i) = true) : sameB A C = true := by
  unfold sameB
  rw [beq_iff_eq.2 h, Bool.true_and, List.all_eq_true]
  exact fun i hi => k i (List.mem_range.1 hi)
theorem sameB_refl (A : List Mp) : sameB A A = true := sameB_all rfl fun _ _ => eqB_refl _
end Pg
end
section
open Go.RowKit Go.Shelf
set_option linter.unusedVariables false
attribute [local go_sem] Oper.semAt_some
open Pg

/-- The blocks of which D holds lie as they lay; no block has gone. -/
def Keeps (D : Nat → Prop) (W W' : World) : Prop := W.heap.size ≤ W'.heap.size ∧ ∀ b, D b → W'.heap[b]? = W.heap[b]?
theorem Keeps.refl (D : Nat → Prop) (W : World) : Keeps D W W := ⟨Nat.le_refl _, fun _ _ => rfl⟩
theorem Keeps.trans {D : Nat → Prop} {A B C : World} (h : Keeps D A B) (k : Keeps D B C) : Keeps D A C := ⟨Nat.le_trans h.1 k.1, fun b hb => (k.2 b hb).trans (h.2 b hb)⟩
theorem Keeps.of_below {D : Nat → Prop} {W W' : World} (hD : ∀ b, D b → b < W.heap.size) (h : Below W.heap.size W W') : Keeps D W W' := ⟨h.size, fun b hb => h.block b (hD b hb)⟩
theorem cellK {D : Nat → Prop} {w w' : World} (k : Keeps D w w') {b off : Nat} (hb : D b) : w'.cell? ⟨b, off, none⟩ = w.cell? ⟨b, off, none⟩ := World.cell?_of_block (w := w) (a := ⟨b, off, none⟩) (k.2 b hb)
theorem Boxed.next {W W' : World} {B : Nat} {t : TypeId} {v : Value} (h : Boxed W B t v) (k : Below W.heap.size W W') : Boxed W' B t v := (k.block B h.lt).trans h
theorem cellLater {w : World} {a : Addr} {v : Value} (h : w.cell? a = some v) (o : Obj) : (w.alloc o).cell? a = some v := by
  by_cases hb : a.block < w.heap.size
  · exact (((Below.refl w.heap.size w).alloc (Nat.le_refl _) o).cell hb).trans h
  · exfalso
    have hn : w.heap[a.block]? = none := by simp; omega
    simp [World.cell?, hn] at h
theorem cell_set_ne {W : World} {b i g j : Nat} {u : Value} (hne : b ≠ g) : (W.setCell ⟨g, j, none⟩ u).cell? ⟨b, i, none⟩ = W.cell? ⟨b, i, none⟩ := World.cell?_of_block (w := W) (a := ⟨b, i, none⟩) (Below.heap_setCell _ _ _ _ hne)
/-- A map's cells. -/
def mpV (x : Mp) : Array Value := #[.int .i64 x.va, .int .i64 x.n, .int .u64 x.cont, .int .u64 x.seg, .int .i64 x.off, .bool x.wr]
/-- A map in a block. -/
def Mb (W : World) (B : Nat) (x : Mp) : Prop := W.heap[B]? = some (.cells #[.int .i64 x.va, .int .i64 x.n, .int .u64 x.cont, .int .u64 x.seg, .int .i64 x.off, .bool x.wr] 90 (0, 0))
section
variable {W W' : World} {B : Nat} {x : Mp}
theorem Mb.lt (h : Mb W B x) : B < W.heap.size := (Array.getElem?_eq_some_iff.1 h).1
theorem Mb.cells (h : Mb W B x) : W.cell? ⟨B, 0, none⟩ = some (.int .i64 x.va) ∧ W.cell? ⟨B, 1, none⟩ = some (.int .i64 x.n) ∧ W.cell? ⟨B, 2, none⟩ = some (.int .u64 x.cont) ∧ W.cell? ⟨B, 3, none⟩ = some (.int .u64 x.seg) ∧ W.cell? ⟨B, 4, none⟩ = some (.int .i64 x.off) ∧ W.cell? ⟨B, 5, none⟩ = some (.bool x.wr) := by
  simp [World.cell?, show W.heap[B]? = _ from h]
theorem Mb.new (W : World) (x : Mp) : Mb (W.alloc (.cells #[.int .i64 x.va, .int .i64 x.n, .int .u64 x.cont, .int .u64 x.seg, .int .i64 x.off, .bool x.wr] 90)) W.heap.size x := World.alloc_heap_new W _
theorem Mb.frozen (h : Mb W B x) (j : Nat) : W.frozen? ⟨B, j, none⟩ = false := by simp [World.frozen?, show W.heap[B]? = _ from h]
theorem Mb.other {g j : Nat} {v : Value} (h : Mb W B x) (hne : B ≠ g) : Mb (W.setCell ⟨g, j, none⟩ v) B x := (Below.heap_setCell _ _ _ _ hne).trans h
theorem Mb.next (h : Mb W B x) (k : Below W.heap.size W W') : Mb W' B x := (k.block B h.lt).trans h
theorem Mb.alloc (h : Mb W B x) (o : Obj) : Mb (W.alloc o) B x := h.next ((Below.refl _ W).alloc (Nat.le_refl _) o)
end
/-- A map written into a block. -/
def set6 (W : World) (B : Nat) (x : Mp) : World := (((((W.setCell ⟨B, 0, none⟩ (.int .i64 x.va)).setCell ⟨B, 1, none⟩ (.int .i64 x.n)).setCell ⟨B, 2, none⟩ (.int .u64 x.cont)).setCell ⟨B, 3, none⟩ (.int .u64 x.seg)).setCell ⟨B, 4, none⟩ (.int .i64 x.off)).setCell ⟨B, 5, none⟩ (.bool x.wr)
section
variable {W : World} {B g : Nat} {x y : Mp}
theorem Mb.set6 (h : Mb W B x) : Mb (set6 W B y) B y := by
  unfold Go.Proofs.Ytfpmkihlfhpgdaa.PgM.set6
  have h0 := (heap_setCell_same W B 0 _ 90 (.int .i64 y.va) h).trans (by simp; rfl)
  have h1 := (heap_setCell_same _ B 1 _ 90 (.int .i64 y.n) h0).trans (by simp; rfl)
  have h2 := (heap_setCell_same _ B 2 _ 90 (.int .u64 y.cont) h1).trans (by simp; rfl)
  have h3 := (heap_setCell_same _ B 3 _ 90 (.int .u64 y.seg) h2).trans (by simp; rfl)
  have h4 := (heap_setCell_same _ B 4 _ 90 (.int .i64 y.off) h3).trans (by simp; rfl)
  exact (heap_setCell_same _ B 5 _ 90 (.bool y.wr) h4).trans (by simp)
theorem Mb.other6 (h : Mb W B x) (hne : B ≠ g) : Mb (Go.Proofs.Ytfpmkihlfhpgdaa.PgM.set6 W g y) B x := (((((h.other hne).other hne).other hne).other hne).other hne).other hne
theorem below_set6 {A : Nat} {w : World} (h : Below A w W) (hg : A ≤ g) : Below A w (Go.Proofs.Ytfpmkihlfhpgdaa.PgM.set6 W g y) := (((((h.setCell (p := ⟨g, 0, none⟩) hg _).setCell (p := ⟨g, 1, none⟩) hg _).setCell (p := ⟨g, 2, none⟩) hg _).setCell (p := ⟨g, 3, none⟩) hg _).setCell (p := ⟨g, 4, none⟩) hg _).setCell (p := ⟨g, 5, none⟩) hg _
end
/-- The slice of n maps at ao holds l in w, in a block of which D holds. -/
def MpsD (D : Nat → Prop) (w : World) (ao : Option Addr) (n cap : Nat) (l : List Mp) : Prop :=
  l.length = n ∧ n ≤ cap ∧ (cap ≤ 9223372036854775807 ∧ (ao = none → cap = 0)) ∧
  (0 < n → ∃ b off, ao = some ⟨b, off, none⟩ ∧ D b ∧ ∀ i, i < n → ∀ j v, (mpV (mat l i))[j]? = some v → w.cell? ⟨b, off + i * 6 + j, none⟩ = some v)
def Mps (B : Nat) (w : World) (ao : Option Addr) (n cap : Nat) (l : List Mp) : Prop := MpsD (fun b => b < B) w ao n cap l
section
variable {D : Nat → Prop} {w w' : World} {ao : Option Addr} {n cap B B' : Nat} {l : List Mp}
theorem MpsD.laterK (h : MpsD D w ao n cap l) (k : ∀ b, D b → w'.heap[b]? = w.heap[b]?) : MpsD D w' ao n cap l := by
  obtain ⟨h1, h2, h3, h4⟩ := h
  refine ⟨h1, h2, h3, fun hn => ?_⟩
  obtain ⟨b, off, e, hb, hc⟩ := h4 hn
  exact ⟨b, off, e, hb, fun i hi j v hv => (World.cell?_of_block (w := w) (a := ⟨b, off + i * 6 + j, none⟩) (k b hb)).trans (hc i hi j v hv)⟩
theorem Mps.later (h : Mps B w ao n cap l) (k : Below B w w') : Mps B w' ao n cap l := MpsD.laterK h fun b hb => k.block b hb
theorem MpsD.wide {D' : Nat → Prop} (h : MpsD D w ao n cap l) (k : ∀ b, D b → D' b) : MpsD D' w ao n cap l := by
  obtain ⟨h1, h2, h3, h4⟩ := h
  refine ⟨h1, h2, h3, fun hn => ?_⟩
  obtain ⟨b, off, e, hb, hc⟩ := h4 hn
  exact ⟨b, off, e, k b hb, hc⟩
theorem Mps.wide (h : Mps B w ao n cap l) (k : B ≤ B') : Mps B' w ao n cap l := MpsD.wide h fun b hb => Nat.lt_of_lt_of_le hb k
theorem Mps.next (h : Mps w.heap.size w ao n cap l) (k : Below w.heap.size w w') : Mps w'.heap.size w' ao n cap l := (h.later k).wide k.size
theorem Mps.nil (B : Nat) (w : World) : Mps B w none 0 0 [] := ⟨rfl, Nat.le_refl _, ⟨by omega, fun _ => rfl⟩, fun h => absurd h (by omega)⟩
theorem Mps.len (h : Mps B w ao n cap l) : l.length = n := h.1
/-- The k-th map's cells. -/
theorem MpsD.at (h : MpsD D w ao n cap l) {i : Nat} (hi : i < n) : ∃ (b off : Nat) (va nn cont seg of : Int) (wr : Bool), ao = some ⟨b, off, none⟩ ∧ D b ∧ Hid (mat l i = ⟨va, nn, cont, seg, of, wr⟩) ∧
    w.cell? ⟨b, off + i * 6, none⟩ = some (.int .i64 va) ∧ w.cell? ⟨b, off + i * 6 + 1, none⟩ = some (.int .i64 nn) ∧ w.cell? ⟨b, off + i * 6 + 2, none⟩ = some (.int .u64 cont) ∧ w.cell? ⟨b, off + i * 6 + 3, none⟩ = some (.int .u64 seg) ∧ w.cell? ⟨b, off + i * 6 + 4, none⟩ = some (.int .i64 of) ∧ w.cell? ⟨b, off + i * 6 + 5, none⟩ = some (.bool wr) := by
  obtain ⟨h1, h2, h3, h4⟩ := h
  obtain ⟨b, off, e, hb, hc⟩ := h4 (by omega)
  obtain ⟨x, hx⟩ : ∃ x, mat l i = x := ⟨_, rfl⟩
  obtain ⟨va, nn, cont, seg, of, wr⟩ := x
  have hc' := hc i hi
  rw [hx] at hc'
  exact ⟨b, off, va, nn, cont, seg, of, wr, e, hb, hx, hc' 0 _ rfl, hc' 1 _ rfl, hc' 2 _ rfl, hc' 3 _ rfl, hc' 4 _ rfl, hc' 5 _ rfl⟩
end
namespace Pg
def ivB (f n : Int) : Bool := decide (0 ≤ f) && (decide (1 ≤ n) && decide (f + n ≤ 1048576))
theorem one_iv (x : Mp) : oneB x = (ivB x.va x.n && ivB x.off x.n) := by
  unfold oneB ivB
  rw [Bool.eq_iff_iff]
  simp
  omega
end Pg

section
variable (va nn cont seg of : Int) (wr : Bool) (w : World)
theorem below_two (w : World) (o o' : Obj) : Below w.heap.size w ((w.alloc o).alloc o') := ((Below.refl _ w).alloc (Nat.le_refl _) o).alloc (by simp) o'
theorem stands_any : Calls Try.prog 92 #[.agg #[.int .i64 va, .int .i64 nn, .int .u64 cont, .int .u64 seg, .int .i64 of, .bool wr]] w fun e w' => e = .returned (.agg #[.int .i64 va, .int .i64 nn]) ∧ Below w.heap.size w w' := by
  go_enter Try.func92, Try.ntmps92
  go_wp2
  refine bodyPost_ret (v := .agg #[.int .i64 va, .int .i64 nn]) (by simp [results, Try.f92, go_sem]) rfl ?_
  exact ⟨rfl, below_two w _ _⟩
theorem shows_any : Calls Try.prog 105 #[.agg #[.int .i64 va, .int .i64 nn, .int .u64 cont, .int .u64 seg, .int .i64 of, .bool wr]] w fun e w' => e = .returned (.agg #[.int .i64 of, .int .i64 nn]) ∧ Below w.heap.size w w' := by
  go_enter Try.func105, Try.ntmps105
  go_wp2
  refine bodyPost_ret (v := .agg #[.int .i64 of, .int .i64 nn]) (by simp [results, Try.f105, go_sem]) rfl ?_
  exact ⟨rfl, below_two w _ _⟩
end
theorem fit0_any (f n : Int) (w : World) : Calls Try.prog 104 #[.agg #[.int .i64 f, .int .i64 n]] w fun e w' => e = .returned (.bool (ivB f n)) ∧ Below w.heap.size w w' := by
  have hr : Hid (ivB f n = (decide (0 ≤ f) && (decide (1 ≤ n) && decide (f + n ≤ 1048576)))) := rfl
  go_enter Try.func104, Try.ntmps104
  go_wp2
  all_goals (go_ret; refine ⟨?_, (Below.refl _ w).alloc (Nat.le_refl _) _⟩; rw [hr.out])
  · rename_i h1 h2 h3; refine congrArg (fun z => Ending.returned (.bool z)) (?_ : decide (f ≤ 1048576 - n) = _); rw [decide_eq_true h1, decide_eq_true h2]; simp only [Bool.true_and]; rw [decide_eq_decide]; omega
  · rename_i h1 h2 h3; rw [decide_eq_false (p := f + n ≤ 1048576) (by omega)]; simp
  · rename_i h1 h2; rw [decide_eq_false (p := 1 ≤ n) (by omega)]; simp
  · rename_i h1; rw [decide_eq_false (p := 0 ≤ f) (by omega)]; rfl
theorem end_any (f n : Int) (h0 : 0 ≤ f) (h1 : 0 ≤ n) (h2 : f + n ≤ 1048576) (w : World) : Calls Try.prog 106 #[.agg #[.int .i64 f, .int .i64 n]] w fun e w' => e = .returned (.int .i64 (f + n)) ∧ Below w.heap.size w w' := by
  go_enter Try.func106, Try.ntmps106
  go_wp2
  go_ret
  exact ⟨rfl, (Below.refl _ w).alloc (Nat.le_refl _) _⟩
theorem ends_any (f n p : Int) (h0 : 0 ≤ f) (h1 : 0 ≤ n) (h2 : f + n ≤ 1048576) (w : World) : Calls Try.prog 93 #[.agg #[.int .i64 f, .int .i64 n], .int .i64 p] w fun e w' => e = .returned (.bool (decide (f + n ≤ p))) ∧ Below w.heap.size w w' := by
  have hB := (Below.refl w.heap.size w).alloc (Nat.le_refl _) (.cells #[.int .i64 f, .int .i64 n] 105)
  go_enter Try.func93, Try.ntmps93
  go_wp2_with (go_at_call 106; refine (end_any f n h0 h1 h2 _).mono ?_; rintro e w1 ⟨rfl, hb1⟩)
  go_ret
  exact ⟨rfl, hB.trans (hb1.mono hB.size)⟩
section
variable (va nn cont seg of : Int) (wr : Bool) (w : World)
theorem isFit_any : Calls Try.prog 91 #[.agg #[.int .i64 va, .int .i64 nn, .int .u64 cont, .int .u64 seg, .int .i64 of, .bool wr]] w fun e w' => e = .returned (.bool (oneB ⟨va, nn, cont, seg, of, wr⟩)) ∧ Below w.heap.size w w' := by
  have hr : Hid (oneB ⟨va, nn, cont, seg, of, wr⟩ = (ivB va nn && ivB of nn)) := one_iv _
  have hM := Mb.new w ⟨va, nn, cont, seg, of, wr⟩
  have hB := (Below.refl w.heap.size w).alloc (Nat.le_refl _) (.cells #[.int .i64 va, .int .i64 nn, .int .u64 cont, .int .u64 seg, .int .i64 of, .bool wr] 90)
  have hf := fun w => fit0_any va nn w
  have hf' := fun w => fit0_any of nn w
  cases h : ivB va nn with
  | false =>
    rw [h] at hf
    go_enter Try.func91, Try.ntmps91
    go_wp2_with (first | (go_at_call 92; refine (stands_any _ _ _ _ _ _ _).mono ?_; rintro e w1 ⟨rfl, hb1⟩) | (go_at_call 104; refine (hf _).mono ?_; rintro e w2 ⟨rfl, hb2⟩))
    go_ret
    exact ⟨by rw [hr.out, h]; rfl, (hB.trans (hb1.mono hB.size)).trans (hb2.mono (Nat.le_trans hB.size hb1.size))⟩
  | true =>
    rw [h] at hf
    go_enter Try.func91, Try.ntmps91
    go_wp2_with (first | (go_at_call 92; refine (stands_any _ _ _ _ _ _ _).mono ?_; rintro e w1 ⟨rfl, hb1⟩) | (go_at_call 104; (with_reducible refine (hf _).mono ?_); rintro e w2 ⟨rfl, hb2⟩; obtain ⟨q0, q1, q2, q3, q4, q5⟩ := ((hM.next hb1).next hb2).cells) | (go_at_call 105; refine (shows_any _ _ _ _ _ _ _).mono ?_; rintro e w3 ⟨rfl, hb3⟩) | (go_at_call 104; (with_reducible refine (hf' _).mono ?_); rintro e w4 ⟨rfl, hb4⟩))
    go_ret
    have b1 := hB.trans (hb1.mono hB.size)
    have b2 := b1.trans (hb2.mono b1.size)
    have b3 := b2.trans (hb3.mono b2.size)
    exact ⟨congrArg (fun z => Ending.returned (.bool z)) (show ivB of nn = _ by rw [hr.out, h, Bool.true_and]), b3.trans (hb4.mono b3.size)⟩
theorem rone_any : Calls Try.prog 73 #[.agg #[.int .i64 va, .int .i64 nn, .int .u64 cont, .int .u64 seg, .int .i64 of, .bool wr]] w fun e w' => e = .returned (.bool (oneB ⟨va, nn, cont, seg, of, wr⟩)) ∧ Below w.heap.size w w' := by
  have hr : Hid (oneB ⟨va, nn, cont, seg, of, wr⟩ = decide (0 ≤ va ∧ 1 ≤ nn ∧ 0 ≤ of ∧ va + nn ≤ 1048576 ∧ of + nn ≤ 1048576)) := rfl
  go_enter Try.func73, Try.ntmps73
  go_wp2
  all_goals (go_ret; refine ⟨?_, (Below.refl _ w).alloc (Nat.le_refl _) _⟩; rw [hr.out]; first | (rw [decide_eq_false (by omega)]; rfl) | (refine congrArg (fun z => Ending.returned (.bool z)) (?_ : decide (nn ≤ 1048576 - of) = _); rw [decide_eq_decide]; omega))
end
namespace Pg
/-- The page of an address, the word in it, and whether there is one. -/
def spP (a : Int) : Int := if a / 16 < 1048576 then a / 16 else 0
def spW (a : Int) : Int := if a / 16 < 1048576 then a % 16 else 0
def spB (a : Int) : Bool := decide (a / 16 < 1048576)
end Pg
end
section
open Go.RowKit Go.Shelf
set_option linter.unusedVariables false
attribute [local go_sem] Oper.semAt_some
open Pg

theorem ownsRow_base {W : World} {b b' : Nat} {e : TypeId} {size : Nat} {v : Value} {k : Nat} {xs : List Value} (hb : b' ≤ b) (h : W.ownsRow b e size v k xs) : W.ownsRow b' e size v k xs := by
  obtain ⟨h2, h3⟩ := h
  refine ⟨h2, ?_⟩
  rcases h3 with h3 | ⟨g, c, cur, e, q, r⟩
  · exact .inl h3
  · exact .inr ⟨g, c, cur, e, Nat.le_trans hb q, r⟩
theorem below_grown {w w' : World} (h : Below w.heap.size w w') : w.grownBy w' none := ⟨h.os, h.tape, h.output, h.size, fun k hk _ => h.block k hk⟩
theorem row_next {W W' : World} {b : Nat} {e : TypeId} {size : Nat} {v : Value} {k : Nat} {xs : List Value} (h : W.ownsRow b e size v k xs) (hb : Below W.heap.size W W') : W'.ownsRow b e size v k xs := by
  refine h.kept (below_grown hb) ?_
  cases ho : v.ownBlock with
  | none => exact .inl rfl
  | some a => exact .inr (by simp)
theorem row_below {W W' : World} {b : Nat} {e : TypeId} {size : Nat} {v : Value} {k : Nat} {xs : List Value} (h : W.ownsRow b e size v k xs) {B : Nat} {w : World} (hb : Below B w W) (hs : B ≤ W.heap.size) (hB : B ≤ b) (hg : W.grownBy W' v.ownBlock) : Below B w W' := by
  refine hb.grown hg hs ?_
  intro j ej
  rcases h.2 with ⟨rfl, h0⟩ | ⟨g, c, cur, rfl, hbg, hgg, _⟩
  · cases ej
  · cases ej; exact Nat.le_trans hB hbg
/-- Maps as cells. -/
def mpC (l : List Mp) : List Value := l.flatMap fun x => (mpV x).toList
theorem mpC_len (l : List Mp) : (mpC l).length = l.length * 6 := by
  induction l with
  | nil => rfl
  | cons x l ih => show ((mpV x).toList ++ mpC l).length = _; rw [List.length_append, ih]; show 6 + _ = _; simp; omega
theorem mpC_app (l m : List Mp) : mpC (l ++ m) = mpC l ++ mpC m := by unfold mpC; rw [List.flatMap_append]
theorem mpC_snoc (l : List Mp) (x : Mp) : mpC (l ++ [x]) = mpC l ++ (mpV x).toList := by unfold mpC; rw [List.flatMap_append]; simp
theorem mpC_at {l : List Mp} : ∀ {i j : Nat} {v : Value}, i < l.length → (mpV (mat l i))[j]? = some v → (mpC l)[i * 6 + j]? = some v := by
  induction l with
  | nil => intro i j v hi; simp at hi
  | cons x l ih =>
    intro i j v hi hv
    have hs : (mpV x).toList.length = 6 := rfl
    show ((mpV x).toList ++ mpC l)[i * 6 + j]? = some v
    cases i with
    | zero =>
      have hj : j < 6 := (Array.getElem?_eq_some_iff.1 hv).1
      rw [List.getElem?_append_left (by omega)]
      simpa [mat] using hv
    | succ i =>
      rw [List.getElem?_append_right (by omega), hs, show (i + 1) * 6 + j - 6 = i * 6 + j by omega]
      exact ih (by simpa using hi) (by simpa [mat] using hv)
theorem mpC_back {l : List Mp} : ∀ {j : Nat} {v : Value}, (mpC l)[j]? = some v → j / 6 < l.length ∧ (mpV (mat l (j / 6)))[j % 6]? = some v := by
  intro j v h
  have hj : j < l.length * 6 := by rw [← mpC_len]; exact (List.getElem?_eq_some_iff.1 h).1
  have hl : j / 6 < l.length := by omega
  have hm : j % 6 < (mpV (mat l (j / 6))).size := by show _ < 6; omega
  refine ⟨hl, ?_⟩
  have := mpC_at hl (Array.getElem?_eq_getElem hm)
  rw [show j / 6 * 6 + j % 6 = j by omega, h] at this
  rw [Array.getElem?_eq_getElem hm, ← this]
theorem mpC_one (l : List Mp) : ∀ u ∈ mpC l, u.oneCell' = true := by
  intro u hu
  obtain ⟨x, _, hx⟩ := List.mem_flatMap.1 hu
  simp [mpV] at hx
  rcases hx with rfl | rfl | rfl | rfl | rfl | rfl <;> rfl
theorem mps_of_row {w : World} {v : Value} {C : Nat} {l : List Mp} (h : w.ownsRow C 90 6 v l.length (mpC l)) : ∃ ao cap, v = .slice ao l.length cap ∧ Mps w.heap.size w ao l.length cap l := by
  have hl := h
  rcases h.2 with ⟨rfl, h0⟩ | ⟨g, c, cur, rfl, hb, hg, hkc, hcm, hcs, htk⟩
  · refine ⟨none, 0, by rw [h0], rfl, by omega, ⟨by omega, fun _ => rfl⟩, fun hn => by omega⟩
  · refine ⟨some ⟨g, 0, none⟩, c, rfl, rfl, hkc, ⟨by unfold maxLen at hcm; omega, fun e => by cases e⟩, fun hn => ⟨g, 0, rfl, (Array.getElem?_eq_some_iff.1 hg).1, fun i hi j u hu => ?_⟩⟩
    have := hl.cells (g := g) rfl (i * 6 + j) u (mpC_at hi hu)
    have e : (⟨g, 0, none⟩ : Addr).add (i * 6 + j) = ⟨g, 0 + i * 6 + j, none⟩ := by simp [Addr.add]; omega
    rw [e] at this
    exact this
theorem infoMap : (Try.prog.info? 90).map (fun i => (i.zero, i.size, i.bytes)) = some (some (.agg #[.int .i64 0, .int .i64 0, .int .u64 0, .int .u64 0, .int .i64 0, .bool false]), 6, 48) := by kernel_rfl
theorem MpsD.cells {D : Nat → Prop} {w : World} {ad : Addr} {n cap : Nat} {l : List Mp} (h : MpsD D w (some ad) n cap l) : ∀ j u, (mpC l)[j]? = some u → w.cell? (ad.add j) = some u := by
  intro j u hj
  obtain ⟨h1, h2⟩ := mpC_back hj
  obtain ⟨e1, _, _, e4⟩ := h
  obtain ⟨b, off, e, hb, hc⟩ := e4 (by omega)
  cases e
  have := hc (j / 6) (by omega) (j % 6) u h2
  have ea : (⟨b, off, none⟩ : Addr).add j = ⟨b, off + j / 6 * 6 + j % 6, none⟩ := by
    unfold Addr.add
    split
    · rename_i h0; subst h0; rfl
    · rw [show off + j / 6 * 6 + j % 6 = off + j by omega]
  rw [ea]
  exact this
theorem grownBy_refl (w : World) (r : Option Nat) : w.grownBy w r := ⟨rfl, rfl, rfl, Nat.le_refl _, fun _ _ _ => rfl⟩
section
variable {ops : Array Oper} {rest : List Oper} {o : Oper} {a : Act} {Q : Exit → Act → World → Prop} {w : World}
theorem wpList_append_mps (hgd : o.guard = none) (s x : Operand) (ho : o.op = .call { callee := .builtin .append, args := #[s, x], argTypes := #[26, 26] })
    (base : Nat) (v : Value) (l' : List Mp) (hs : a.eval s = v) (hown : w.ownsRow base 90 6 v l'.length (mpC l')) (B : Nat) (ao : Option Addr) (n cap : Nat) (l : List Mp) (hx : a.eval x = .slice ao n cap) (hL : Mps B w ao n cap l) (hb : l'.length + n < 68719476736) (hbase : base ≤ w.heap.size)
    (h : ∀ v' w', w'.ownsRow base 90 6 v' (l' ++ l).length (mpC (l' ++ l)) → w.grownBy w' v.ownBlock → wpList Try.prog ops Q rest (a.put o.dst v') w') : wpList Try.prog ops Q (o :: rest) a w := by
  obtain ⟨i0, hi, hz0, hz1, hz2⟩ := info_parts infoMap
  have hlen := hL.1
  cases ao with
  | none =>
    have h0 := hL.2.2.1.2 rfl
    have hn0 : n = 0 := by have := hL.2.1; omega
    subst hn0
    have hl : l = [] := List.eq_nil_of_length_eq_zero hlen
    subst hl
    subst h0
    refine wpList_append_own_none hgd s x 26 ho base 90 i0 6 Try.underlying26 hi v _ _ hs hown hx ?_
    exact h v w (by simpa using hown) (grownBy_refl _ _)
  | some ad =>
    refine wpList_append_own w hgd s x 26 ho base 90 i0 (.agg #[.int .i64 0, .int .i64 0, .int .u64 0, .int .u64 0, .int .i64 0, .bool false]) 6 48 Try.underlying26 hi hz0 hz1 hz2 rfl (by decide) v _ _ hs hown ad n cap (mpC l) hx (by rw [mpC_len, hlen]) hL.cells (mpC_one l) (by unfold maxLen; omega) (by omega) hbase ?_
    intro v' w' h1 h2 _
    exact h v' w' (by rw [List.length_append, mpC_app, hlen]; exact h1) h2
theorem step_append_mps {E : Prop} {K : Act → World → Prop} (hgd : o.guard = none) (s x : Operand) (ho : o.op = .call { callee := .builtin .append, args := #[s, x], argTypes := #[26, 26] })
    (base : Nat) (v : Value) (l' : List Mp) (hs : a.eval s = v) (hown : w.ownsRow base 90 6 v l'.length (mpC l')) (B : Nat) (ao : Option Addr) (n cap : Nat) (l : List Mp) (hx : a.eval x = .slice ao n cap) (hL : Mps B w ao n cap l) (hb : l'.length + n < 68719476736) (hbase : base ≤ w.heap.size)
    (h : ∀ v' w', w'.ownsRow base 90 6 v' (l' ++ l).length (mpC (l' ++ l)) → w.grownBy w' v.ownBlock → K (a.put o.dst v') w') : if Region.wanted o (yielded ops a.tmps) = true then Oper.wp Try.prog o a w K Q else E := by
  have hw : Region.wanted o (yielded ops a.tmps) = true := by simp [Region.wanted, hgd]
  rw [if_pos hw]
  obtain ⟨i0, hi, hz0, hz1, hz2⟩ := info_parts infoMap
  have hlen := hL.1
  cases ao with
  | none =>
    have h0 := hL.2.2.1.2 rfl
    have hn0 : n = 0 := by have := hL.2.1; omega
    subst hn0
    have hl : l = [] := List.eq_nil_of_length_eq_zero hlen
    subst hl
    subst h0
    have hrun := run_append_owned_none (P := Try.prog) (w := w) base 26 o.type 90 i0 6 Try.underlying26 hi v _ _ hown
    unfold Oper.wp
    simp [execOp, ho, resolve, invoke, builtin, hs, hx, hrun, Result.andThen]
    exact h v w (by simpa using hown) (grownBy_refl _ _)
  | some ad =>
    refine wp_append_own w s x 26 ho base 90 i0 (.agg #[.int .i64 0, .int .i64 0, .int .u64 0, .int .u64 0, .int .i64 0, .bool false]) 6 48 Try.underlying26 hi hz0 hz1 hz2 rfl (by decide) v _ _ hs hown ad n cap (mpC l) hx (by rw [mpC_len, hlen]) hL.cells (mpC_one l) (by unfold maxLen; omega) (by omega) hbase ?_
    intro v' w' h1 h2 _
    exact h v' w' (by rw [List.length_append, mpC_app, hlen]; exact h1) h2
end
theorem mat_take {l : List Mp} {k i : Nat} (h : i < k) : mat (l.take k) i = mat l i := by
  unfold mat; rw [List.getD_eq_getElem?_getD, List.getElem?_take, if_pos h, List.getD_eq_getElem?_getD]
theorem mat_drop {l : List Mp} {k i : Nat} : mat (l.drop k) i = mat l (k + i) := by
  unfold mat; rw [List.getD_eq_getElem?_getD, List.getElem?_drop, List.getD_eq_getElem?_getD]
theorem MpsD.take {D : Nat → Prop} {w : World} {ao : Option Addr} {n cap k : Nat} {l : List Mp} (h : MpsD D w ao n cap l) (hk : k ≤ n) : MpsD D w ao k cap (l.take k) := by
  obtain ⟨h1, h2, h3, h4⟩ := h
  refine ⟨by rw [List.length_take]; omega, by omega, h3, fun hn => ?_⟩
  obtain ⟨b, off, e, hb, hc⟩ := h4 (by omega)
  exact ⟨b, off, e, hb, fun i hi => by rw [mat_take hi]; exact hc i (by omega)⟩
theorem MpsD.drop {D : Nat → Prop} {w : World} {b off : Nat} {ao : Option Addr} {n cap k : Nat} {l : List Mp} (h : MpsD D w (some ⟨b, off, none⟩) n cap l) (hk : k ≤ n) (ha : ao = some ⟨b, off + k * 6, none⟩ ∨ (ao = some ⟨b, off, none⟩ ∧ k = n)) : MpsD D w ao (n - k) (cap - k) (l.drop k) := by
  obtain ⟨h1, h2, h3, h4⟩ := h
  refine ⟨by rw [List.length_drop]; omega, by omega, ⟨by omega, fun hz => by rcases ha with ha | ha; rw [ha] at hz; cases hz; rw [ha.1] at hz; cases hz⟩, fun hn => ?_⟩
  obtain ⟨b', off', e, hb, hc⟩ := h4 (by omega)
  cases e
  refine ⟨b, off + k * 6, by rcases ha with ha | ha; exact ha; omega, hb, fun i hi j v hv => ?_⟩
  rw [mat_drop] at hv
  have := hc (k + i) (by omega) j v hv
  rw [show off + (k + i) * 6 + j = off + k * 6 + i * 6 + j by omega] at this
  exact this
theorem slice_to {ao : Option Addr} {n cap k : Nat} (hk : k ≤ n) (hn : n ≤ cap) (W : World) : (Instr.sliceAt 26 (.slice ao n cap) none (some (.int .i64 (k : Int))) none).run Try.prog W = .ok (.slice ao k cap) W := by
  have h2 : k ≤ cap := by omega
  unfold Instr.sliceAt Instr.slice Instr.sliceBounds
  simp [go_sem, run_underlying Try.underlying26, Result.andThen, h2]
theorem slice_from {D : Nat → Prop} {w : World} {ao : Option Addr} {n cap k : Nat} {l : List Mp} (h : MpsD D w ao n cap l) (hk : k ≤ n) : ∃ a', MpsD D w a' (n - k) (cap - k) (l.drop k) ∧ (∀ W, (Instr.sliceAt 26 (.slice ao n cap) (some (.int .i64 (k : Int))) none none).run Try.prog W = .ok (.slice a' (n - k) (cap - k)) W) ∧ ∀ {D' : Nat → Prop} {w' : World}, MpsD D' w' ao n cap l → MpsD D' w' a' (n - k) (cap - k) (l.drop k) := by
  cases ao with
  | none =>
    have h0 := h.2.2.1.2 rfl
    have hn := h.2.1
    obtain rfl : n = 0 := by omega
    obtain rfl : k = 0 := by omega
    subst h0
    refine ⟨none, by simpa using h, fun W => ?_, fun h => by simpa using h⟩
    unfold Instr.sliceAt Instr.slice Instr.sliceBounds
    simp [go_sem, run_underlying Try.underlying26, Result.andThen]
  | some a =>
    have hn := h.2.1
    by_cases hc : cap = k
    · have hkn : k = n := by omega
      have key : ∀ {D' : Nat → Prop} {w' : World}, MpsD D' w' (some a) n cap l → MpsD D' w' (some a) (n - k) (cap - k) (l.drop k) := fun h' => by
        obtain ⟨h1, h2, h3, h4⟩ := h'
        exact ⟨by rw [List.length_drop]; omega, by omega, ⟨by omega, fun e => by cases e⟩, fun hz => by omega⟩
      refine ⟨some a, key h, fun W => ?_, fun h => key h⟩
      subst hc
      unfold Instr.sliceAt Instr.slice Instr.sliceBounds
      simp [go_sem, run_underlying Try.underlying26, Result.andThen, hk]
    · have key : ∀ {D' : Nat → Prop} {w' : World}, MpsD D' w' (some a) n cap l → MpsD D' w' (some (a.add (k * 6))) (n - k) (cap - k) (l.drop k) := fun h' => by
        by_cases hkn : k = n
        · obtain ⟨h1, h2, h3, h4⟩ := h'
          exact ⟨by rw [List.length_drop]; omega, by omega, ⟨by omega, fun e => by cases e⟩, fun hz => by omega⟩
        · obtain ⟨b, off, e, _⟩ := h'.2.2.2 (by omega)
          cases e
          refine h'.drop hk (.inl ?_)
          unfold Addr.add
          split
          · rename_i h0; rw [h0]; rfl
          · rfl
      refine ⟨some (a.add (k * 6)), key h, fun W => ?_, fun h => key h⟩
      unfold Instr.sliceAt Instr.slice Instr.sliceBounds
      simp [go_sem, run_underlying Try.underlying26, Result.andThen, hk, hc]
/-- The function value q answers P of every fit map, in w and in every world that keeps the blocks of D. -/
def AsksM (D : Nat → Prop) (w : World) (q : Value) (P : Mp → Bool) : Prop := ∃ (g : Nat) (lb : Array Value), q = .func (.func g) #[] lb ∧ (∀ args w, (callFunc g args).run Try.prog w = .ok (.enter g args) w) ∧
  ∀ W, Keeps D w W → ∀ (va nn cont seg of : Int) (wr : Bool), oneB ⟨va, nn, cont, seg, of, wr⟩ = true → Calls Try.prog g (#[.agg #[.int .i64 va, .int .i64 nn, .int .u64 cont, .int .u64 seg, .int .i64 of, .bool wr]] ++ lb) W fun e W' => e = .returned (.bool (P ⟨va, nn, cont, seg, of, wr⟩)) ∧ Below W.heap.size W W'
/-- Function g answers Q of every fit interval and every page. -/
def AsksI (g : Nat) (Q : Int → Int → Int → Bool) : Prop := (∀ args w, (callFunc g args).run Try.prog w = .ok (.enter g args) w) ∧
  ∀ (W : World) (f n p : Int), 0 ≤ f → 0 ≤ n → f + n ≤ 1048576 → Calls Try.prog g #[.agg #[.int .i64 f, .int .i64 n], .int .i64 p] W fun e W' => e = .returned (.bool (Q f n p)) ∧ Below W.heap.size W W'
theorem asks_ends : AsksI 93 (fun f n p => decide (f + n ≤ p)) :=
  ⟨enters_of Try.func93 (by kernel_rfl) rfl, fun W f n p h0 h1 h2 => ends_any f n p h0 h1 h2 W⟩
/-- What lies in memory while place's question is asked. -/
def Pl (w : World) (A B Bp g : Nat) (p : Int) (x : Mp) (W : World) : Prop := W.cell? ⟨B, 0, none⟩ = some (.func (.func g) #[] #[]) ∧ W.cell? ⟨Bp, 0, none⟩ = some (.int .i64 p) ∧ Mb W A x ∧ Below w.heap.size w W
def PlS (w : World) (A B Bp g : Nat) (p va nn cont seg of : Int) (wr : Bool) (W : World) : Prop :=
  W.cell? ⟨A, 0, none⟩ = some (.int .i64 va) ∧ W.cell? ⟨A, 1, none⟩ = some (.int .i64 nn) ∧ W.cell? ⟨A, 2, none⟩ = some (.int .u64 cont) ∧ W.cell? ⟨A, 3, none⟩ = some (.int .u64 seg) ∧ W.cell? ⟨A, 4, none⟩ = some (.int .i64 of) ∧ W.cell? ⟨A, 5, none⟩ = some (.bool wr) ∧
  W.cell? ⟨B, 0, none⟩ = some (.func (.func g) #[] #[]) ∧ W.cell? ⟨Bp, 0, none⟩ = some (.int .i64 p) ∧ Pl w A B Bp g p ⟨va, nn, cont, seg, of, wr⟩ W
section
variable {w X Y : World} {A B Bp g : Nat} {p va nn cont seg of : Int} {wr : Bool}
theorem Pl.mem (h : Pl w A B Bp g p ⟨va, nn, cont, seg, of, wr⟩ X) : PlS w A B Bp g p va nn cont seg of wr X := by
  obtain ⟨c0, c1, c2, c3, c4, c5⟩ := h.2.2.1.cells
  exact ⟨c0, c1, c2, c3, c4, c5, h.1, h.2.1, h⟩
theorem PlS.pl (h : PlS w A B Bp g p va nn cont seg of wr X) : Pl w A B Bp g p ⟨va, nn, cont, seg, of, wr⟩ X := h.2.2.2.2.2.2.2.2
theorem Pl.next {x : Mp} (h : Pl w A B Bp g p x X) (hb : Below X.heap.size X Y) : Pl w A B Bp g p x Y :=
  ⟨(hb.cell (World.block_lt_of_cell? _ _ h.1)).trans h.1, (hb.cell (World.block_lt_of_cell? _ _ h.2.1)).trans h.2.1, h.2.2.1.next hb, h.2.2.2.trans (hb.mono h.2.2.2.size)⟩
theorem PlS.next (h : PlS w A B Bp g p va nn cont seg of wr X) (hb : Below X.heap.size X Y) : PlS w A B Bp g p va nn cont seg of wr Y := (h.pl.next hb).mem
end
end
section
open Go.RowKit Go.Shelf
set_option linter.unusedVariables false
attribute [local go_sem] Oper.semAt_some
open Pg

def z6 : Obj := .cells #[.int .i64 0, .int .i64 0, .int .u64 0, .int .u64 0, .int .i64 0, .bool false] 90
end
section
open Go.RowKit Go.Shelf
set_option linter.unusedVariables false
attribute [local go_sem] Oper.semAt_some
open Pg

/-- Twelve cells and all that lay lie as they lay. -/
def Pu (w2 : World) (b o A : Nat) (v0 v1 v2 v3 v4 : Int) (v5 : Bool) (u0 u1 u2 u3 u4 : Int) (u5 : Bool) (W : World) : Prop :=
  W.cell? ⟨b, o, none⟩ = some (.int .i64 v0) ∧ W.cell? ⟨b, o + 1, none⟩ = some (.int .i64 v1) ∧ W.cell? ⟨b, o + 2, none⟩ = some (.int .u64 v2) ∧ W.cell? ⟨b, o + 3, none⟩ = some (.int .u64 v3) ∧ W.cell? ⟨b, o + 4, none⟩ = some (.int .i64 v4) ∧ W.cell? ⟨b, o + 5, none⟩ = some (.bool v5) ∧
  W.cell? ⟨A, 0, none⟩ = some (.int .i64 u0) ∧ W.cell? ⟨A, 1, none⟩ = some (.int .i64 u1) ∧ W.cell? ⟨A, 2, none⟩ = some (.int .u64 u2) ∧ W.cell? ⟨A, 3, none⟩ = some (.int .u64 u3) ∧ W.cell? ⟨A, 4, none⟩ = some (.int .i64 u4) ∧ W.cell? ⟨A, 5, none⟩ = some (.bool u5) ∧ Below w2.heap.size w2 W
theorem Pu.next {w2 X Y : World} {b o A : Nat} {v0 v1 v2 v3 v4 : Int} {v5 : Bool} {u0 u1 u2 u3 u4 : Int} {u5 : Bool} (h : Pu w2 b o A v0 v1 v2 v3 v4 v5 u0 u1 u2 u3 u4 u5 X) (hb : Below X.heap.size X Y) : Pu w2 b o A v0 v1 v2 v3 v4 v5 u0 u1 u2 u3 u4 u5 Y := by
  have f : ∀ {a : Addr} {v : Value}, X.cell? a = some v → Y.cell? a = some v := fun h => (hb.cell (World.block_lt_of_cell? _ _ h)).trans h
  obtain ⟨a0, a1, a2, a3, a4, a5, b0, b1, b2, b3, b4, b5, hB⟩ := h
  exact ⟨f a0, f a1, f a2, f a3, f a4, f a5, f b0, f b1, f b2, f b3, f b4, f b5, hB.trans (hb.mono hB.size)⟩
theorem Pu.bel {w2 X : World} {b o A : Nat} {v0 v1 v2 v3 v4 : Int} {v5 : Bool} {u0 u1 u2 u3 u4 : Int} {u5 : Bool} (h : Pu w2 b o A v0 v1 v2 v3 v4 v5 u0 u1 u2 u3 u4 u5 X) : Below w2.heap.size w2 X := h.2.2.2.2.2.2.2.2.2.2.2.2
/-- A map in a block, and all that lay lies as it lay. -/
def Pw (w2 : World) (A : Nat) (u0 u1 u2 u3 u4 : Int) (u5 : Bool) (W : World) : Prop :=
  W.cell? ⟨A, 0, none⟩ = some (.int .i64 u0) ∧ W.cell? ⟨A, 1, none⟩ = some (.int .i64 u1) ∧ W.cell? ⟨A, 2, none⟩ = some (.int .u64 u2) ∧ W.cell? ⟨A, 3, none⟩ = some (.int .u64 u3) ∧ W.cell? ⟨A, 4, none⟩ = some (.int .i64 u4) ∧ W.cell? ⟨A, 5, none⟩ = some (.bool u5) ∧ Below w2.heap.size w2 W
theorem Pw.next {w2 X Y : World} {A : Nat} {u0 u1 u2 u3 u4 : Int} {u5 : Bool} (h : Pw w2 A u0 u1 u2 u3 u4 u5 X) (hA : A < w2.heap.size) (hb : Below w2.heap.size X Y) : Pw w2 A u0 u1 u2 u3 u4 u5 Y := by
  have f : ∀ {j : Nat} {v : Value}, X.cell? ⟨A, j, none⟩ = some v → Y.cell? ⟨A, j, none⟩ = some v := fun h => (hb.cell (p := ⟨A, _, none⟩) hA).trans h
  obtain ⟨b0, b1, b2, b3, b4, b5, hB⟩ := h
  exact ⟨f b0, f b1, f b2, f b3, f b4, f b5, hB.trans hb⟩
theorem Pw.bel {w2 X : World} {A : Nat} {u0 u1 u2 u3 u4 : Int} {u5 : Bool} (h : Pw w2 A u0 u1 u2 u3 u4 u5 X) : Below w2.heap.size w2 X := h.2.2.2.2.2.2
theorem mps_one {W : World} {B : Nat} {x : Mp} (h : Mb W B x) : Mps W.heap.size W (some ⟨B, 0, none⟩) 1 1 [x] := by
  refine ⟨rfl, Nat.le_refl _, ⟨by omega, fun e => by cases e⟩, fun _ => ⟨B, 0, rfl, h.lt, fun i hi j v hv => ?_⟩⟩
  obtain rfl : i = 0 := by omega
  have hj : j < 6 := (Array.getElem?_eq_some_iff.1 hv).1
  rw [show 0 + 0 * 6 + j = j by omega]
  simp only [World.cell?, show W.heap[B]? = _ from h]
  exact hv
theorem row_app {w0 X w6 : World} {b : Nat} {v v6 : Value} {l m : List Mp} (h0 : Below w0.heap.size w0 X) (hb : w0.heap.size ≤ b) (hown : X.ownsRow b 90 6 v l.length (mpC l)) (hown' : w6.ownsRow b 90 6 v6 m.length (mpC m)) (hg : X.grownBy w6 v.ownBlock) :
    Below w0.heap.size X w6 ∧ Below w0.heap.size w0 w6 ∧ w6.ownsRow w0.heap.size 90 6 v6 m.length (mpC m) := by
  have h := row_below (B := w0.heap.size) hown (Below.refl _ X) h0.size hb hg
  exact ⟨h, h0.trans h, ownsRow_base hb hown'⟩
end
end Go.Proofs.Ytfpmkihlfhpgdaa.PgM
