/-
  PROVED HERE: plain facts on tables of labels that are kept once, as lists (no Go text): what asking for a label and dropping a place make of one, and that it stays fit. No condition.
-/
import Derived.Test.YtjkncajcmdlmgaaLabPure
namespace Go.Proofs.Ytjkncajcmdlmgaa
set_option linter.unusedVariables false

abbrev Zt := List (List (Int × Int) × Int)
def zat (Z : Zt) (i : Nat) : List (Int × Int) × Int := Z.getD i ([], 0)
def hitB (l : List (Int × Int)) (x : List (Int × Int) × Int) : Bool := !decide (x.2 = 0) && sameB x.1 l
def fnd (Z : Zt) (l : List (Int × Int)) : Option Nat := Z.findIdx? (hitB l)
def usd (Z : Zt) : Nat := Z.countP fun x => !decide (x.2 = 0)
def keepB (l : List (Int × Int)) : Bool := decide (l.length ≤ 16) && fitB l
def standB (x : List (Int × Int) × Int) : Bool := decide (0 ≤ x.2) && decide (x.2 ≤ 1073741824) && keepB x.1 && (decide (0 < x.2) || decide (x.1.length = 0))
def onceAt (Z : Zt) (i : Nat) : Bool := decide ((zat Z i).2 = 0) || decide (fnd Z (zat Z i).1 = some i)
def onceB (Z : Zt) : Bool := (List.range Z.length).all (onceAt Z)
def lastB (Z : Zt) : Bool := decide (Z.length = 0) || !decide ((zat Z (Z.length - 1)).2 = 0)
def fitZ (Z : Zt) : Bool := decide (Z.length ≤ 64) && lastB Z && Z.all standB && onceB Z
def free (Z : Zt) : Nat := Z.findIdx fun x => decide (x.2 = 0)
def putAt (Z : Zt) (i : Nat) (x : List (Int × Int) × Int) : Zt := if i = Z.length then Z ++ [x] else Z.set i x
def addR (Z : Zt) (l : List (Int × Int)) : Zt × Int × Int :=
  if keepB l = false then (Z, 0, 4) else
  match fnd Z l with
  | some i => if (zat Z i).2 = 1073741824 then (Z, 0, 13) else (Z.set i ((zat Z i).1, (zat Z i).2 + 1), (i : Int), 0)
  | none => if free Z = 64 then (Z, 0, 6) else (putAt Z (free Z) (l, 1), (free Z : Int), 0)
def endOf : Zt → Nat
  | [] => 0
  | x :: Z => if endOf Z = 0 then (if x.2 = 0 then 0 else 1) else endOf Z + 1
def asksB (Z : Zt) (at_ : Int) : Bool := decide (0 ≤ at_) && (decide (at_ < (Z.length : Int)) && !decide ((zat Z at_.toNat).2 = 0))
def less (x : List (Int × Int) × Int) : List (Int × Int) × Int := (if x.2 - 1 = 0 then [] else x.1, x.2 - 1)
def dropI (Z : Zt) (i : Nat) : Zt := Z.set i (less (zat Z i))
def trim (Z : Zt) : Zt := Z.take (endOf Z)
def dropR (Z : Zt) (at_ : Int) : Zt × Int := if asksB Z at_ = true then (trim (dropI Z at_.toNat), 0) else (Z, 1)
def getR (Z : Zt) (at_ : Int) : List (Int × Int) × Int := if asksB Z at_ = true then ((zat Z at_.toNat).1, 0) else ([], 1)

theorem zat_lt {Z : Zt} {i : Nat} (h : i < Z.length) : Z[i]? = some (zat Z i) := by
  unfold zat; rw [List.getD_eq_getElem?_getD, List.getElem?_eq_getElem h]; rfl
theorem zat_of {Z : Zt} {i : Nat} {x : List (Int × Int) × Int} (h : Z[i]? = some x) : zat Z i = x := by
  unfold zat; rw [List.getD_eq_getElem?_getD, h]; rfl
theorem zat_len {Z : Zt} {i : Nat} {x : List (Int × Int) × Int} (h : Z[i]? = some x) : i < Z.length := (List.getElem?_eq_some_iff.1 h).1
theorem hitB_iff {l : List (Int × Int)} {x : List (Int × Int) × Int} : hitB l x = true ↔ x.2 ≠ 0 ∧ x.1 = l := by
  unfold hitB sameB; simp
theorem fnd_some {Z : Zt} {l : List (Int × Int)} {i : Nat} : fnd Z l = some i ↔ i < Z.length ∧ ((zat Z i).2 ≠ 0 ∧ (zat Z i).1 = l) ∧ ∀ j, j < i → ¬ ((zat Z j).2 ≠ 0 ∧ (zat Z j).1 = l) := by
  unfold fnd
  rw [List.findIdx?_eq_some_iff_getElem]
  constructor
  · rintro ⟨h, a, b⟩
    have e : Z[i] = zat Z i := by have := zat_lt h; rw [List.getElem?_eq_getElem h] at this; exact Option.some.inj this
    rw [e] at a
    refine ⟨h, hitB_iff.1 a, fun j hj hn => ?_⟩
    have hj' : j < Z.length := by omega
    have e' : Z[j] = zat Z j := by have := zat_lt hj'; rw [List.getElem?_eq_getElem hj'] at this; exact Option.some.inj this
    have := b j hj
    rw [e', hitB_iff.2 hn] at this
    exact absurd this (by simp)
  · rintro ⟨h, a, b⟩
    have e : Z[i] = zat Z i := by have := zat_lt h; rw [List.getElem?_eq_getElem h] at this; exact Option.some.inj this
    refine ⟨h, by rw [e]; exact hitB_iff.2 a, fun j hj => ?_⟩
    have hj' : j < Z.length := by omega
    have e' : Z[j] = zat Z j := by have := zat_lt hj'; rw [List.getElem?_eq_getElem hj'] at this; exact Option.some.inj this
    rw [e']
    intro hh
    exact b j hj (hitB_iff.1 hh)
theorem fnd_none {Z : Zt} {l : List (Int × Int)} : fnd Z l = none ↔ ∀ j, j < Z.length → ¬ ((zat Z j).2 ≠ 0 ∧ (zat Z j).1 = l) := by
  unfold fnd
  rw [List.findIdx?_eq_none_iff]
  constructor
  · intro h j hj hn
    have := h (zat Z j) (List.mem_of_getElem? (zat_lt hj))
    rw [hitB_iff.2 hn] at this
    exact absurd this (by simp)
  · intro h x hx
    obtain ⟨j, hj, e⟩ := List.getElem_of_mem hx
    have e' : Z[j] = zat Z j := by have := zat_lt hj; rw [List.getElem?_eq_getElem hj] at this; exact Option.some.inj this
    cases hq : hitB l x with
    | false => rfl
    | true => rw [← e, e'] at hq; exact absurd (hitB_iff.1 hq) (h j hj)
/-- Each label that is asked for has one place. -/
def Uniq (Z : Zt) : Prop := ∀ i j, i < Z.length → j < Z.length → (zat Z i).2 ≠ 0 → (zat Z j).2 ≠ 0 → (zat Z i).1 = (zat Z j).1 → i = j
theorem onceB_iff {Z : Zt} : onceB Z = true ↔ Uniq Z := by
  unfold onceB onceAt
  rw [List.all_eq_true]
  constructor
  · intro h i j hi hj a b e
    have h1 := h i (List.mem_range.2 hi)
    have h2 := h j (List.mem_range.2 hj)
    simp [a] at h1
    simp [b] at h2
    rw [e, h2] at h1
    exact (Option.some.inj h1).symm
  · intro h i hi
    have hi := List.mem_range.1 hi
    by_cases a : (zat Z i).2 = 0
    · simp [a]
    · simp [a]
      exact fnd_some.2 ⟨hi, ⟨a, rfl⟩, fun j hj hn => by have := h j i (by omega) hi hn.1 a hn.2; omega⟩
def StandP (x : List (Int × Int) × Int) : Prop := 0 ≤ x.2 ∧ x.2 ≤ 1073741824 ∧ keepB x.1 = true ∧ (0 < x.2 ∨ x.1 = [])
theorem standB_iff {x : List (Int × Int) × Int} : standB x = true ↔ StandP x := by
  unfold standB StandP; simp [and_assoc]
def FitP (Z : Zt) : Prop := Z.length ≤ 64 ∧ (0 < Z.length → (zat Z (Z.length - 1)).2 ≠ 0) ∧ (∀ i, i < Z.length → StandP (zat Z i)) ∧ Uniq Z
theorem FitP.len {Z : Zt} (h : FitP Z) : Z.length ≤ 64 := h.1
theorem FitP.last {Z : Zt} (h : FitP Z) : 0 < Z.length → (zat Z (Z.length - 1)).2 ≠ 0 := h.2.1
theorem FitP.stand {Z : Zt} (h : FitP Z) : ∀ i, i < Z.length → StandP (zat Z i) := h.2.2.1
theorem FitP.uniq {Z : Zt} (h : FitP Z) : Uniq Z := h.2.2.2
theorem fitZ_iff {Z : Zt} : fitZ Z = true ↔ FitP Z := by
  have hA : Z.all standB = true ↔ ∀ i, i < Z.length → StandP (zat Z i) := by
    rw [List.all_eq_true]
    constructor
    · intro h i hi; exact standB_iff.1 (h _ (List.mem_of_getElem? (zat_lt hi)))
    · intro h x hx
      obtain ⟨j, hj, e⟩ := List.getElem_of_mem hx
      have e' : Z[j] = zat Z j := by have := zat_lt hj; rw [List.getElem?_eq_getElem hj] at this; exact Option.some.inj this
      rw [← e, e']; exact standB_iff.2 (h j hj)
  have hL : lastB Z = true ↔ (0 < Z.length → (zat Z (Z.length - 1)).2 ≠ 0) := by
    unfold lastB
    by_cases h0 : Z.length = 0
    · simp [h0]
    · simp [h0]
      omega
  unfold fitZ
  rw [Bool.and_eq_true, Bool.and_eq_true, Bool.and_eq_true, decide_eq_true_iff, hL, hA, onceB_iff]
  exact ⟨fun ⟨⟨⟨a, b⟩, c⟩, d⟩ => ⟨a, b, c, d⟩, fun ⟨a, b, c, d⟩ => ⟨⟨⟨a, b⟩, c⟩, d⟩⟩

theorem zat_set {Z : Zt} {i j : Nat} {x : List (Int × Int) × Int} : zat (Z.set i x) j = if i = j ∧ j < Z.length then x else zat Z j := by
  unfold zat
  rw [List.getD_eq_getElem?_getD, List.getD_eq_getElem?_getD, List.getElem?_set]
  by_cases h : i = j
  · subst h
    by_cases h2 : i < Z.length
    · simp [h2]
    · simp [h2]
  · simp [h]
theorem zat_app {Z : Zt} {j : Nat} {x : List (Int × Int) × Int} : zat (Z ++ [x]) j = if j = Z.length then x else zat Z j := by
  unfold zat
  rw [List.getD_eq_getElem?_getD, List.getD_eq_getElem?_getD]
  by_cases h : j < Z.length
  · rw [List.getElem?_append_left h, if_neg (by omega)]
  · by_cases h2 : j = Z.length
    · subst h2; simp
    · rw [if_neg h2, List.getElem?_eq_none (by simp; omega), List.getElem?_eq_none (by omega)]
theorem zat_out {Z : Zt} {j : Nat} (h : Z.length ≤ j) : zat Z j = ([], 0) := by
  unfold zat; rw [List.getD_eq_getElem?_getD, List.getElem?_eq_none h]; rfl
theorem zat_putAt {Z : Zt} {i j : Nat} {x : List (Int × Int) × Int} (hi : i ≤ Z.length) : zat (putAt Z i x) j = if j = i then x else zat Z j := by
  unfold putAt
  by_cases h : i = Z.length
  · rw [if_pos h, zat_app, h]
  · rw [if_neg h, zat_set]
    by_cases h2 : i = j
    · subst h2; rw [if_pos ⟨rfl, by omega⟩, if_pos rfl]
    · rw [if_neg (by omega), if_neg (by omega)]
theorem len_putAt {Z : Zt} {i : Nat} {x : List (Int × Int) × Int} : (putAt Z i x).length = if i = Z.length then Z.length + 1 else Z.length := by
  unfold putAt; split <;> simp
theorem free_le (Z : Zt) : free Z ≤ Z.length := List.findIdx_le_length
theorem free_lt {Z : Zt} {j : Nat} (h : j < free Z) : (zat Z j).2 ≠ 0 := by
  have hj : j < Z.length := Nat.lt_of_lt_of_le h (free_le Z)
  have := List.not_of_lt_findIdx h
  have e' : Z[j] = zat Z j := by have := zat_lt hj; rw [List.getElem?_eq_getElem hj] at this; exact Option.some.inj this
  rw [e'] at this
  simpa using this
theorem free_at {Z : Zt} (h : free Z < Z.length) : (zat Z (free Z)).2 = 0 := by
  have := List.findIdx_getElem (w := h)
  have e' : Z[free Z] = zat Z (free Z) := by have := zat_lt h; rw [List.getElem?_eq_getElem h] at this; exact Option.some.inj this
  unfold free at e' h ⊢
  rw [e'] at this
  simpa using this
theorem free_of {Z : Zt} {k : Nat} (hk : k ≤ Z.length) (h : ∀ j, j < k → (zat Z j).2 ≠ 0) (h2 : k < Z.length → (zat Z k).2 = 0) : free Z = k := by
  rcases Nat.lt_trichotomy (free Z) k with h3 | h3 | h3
  · exact absurd (free_at (by omega)) (h _ h3)
  · exact h3
  · exact absurd (h2 (Nat.lt_of_lt_of_le h3 (free_le Z))) (free_lt h3)

theorem fit_add {Z : Zt} {l : List (Int × Int)} (h : FitP Z) : FitP (addR Z l).1 := by
  unfold addR
  by_cases hk : keepB l = false
  · rw [if_pos hk]; exact h
  rw [if_neg hk]
  have hk' : keepB l = true := by simpa using hk
  cases hf : fnd Z l with
  | some i =>
    obtain ⟨hi, ⟨h0, hl⟩, _⟩ := fnd_some.1 hf
    by_cases hc : (zat Z i).2 = 1073741824
    · simp [hc]; exact h
    · simp [hc]
      obtain ⟨s0, s1, s2, s3⟩ := h.stand i hi
      refine ⟨by simpa using h.len, fun hl => ?_, fun j hj => ?_, fun a b ha hb ca cb e => ?_⟩
      · simp at hl ⊢
        rw [zat_set]
        split
        · show _ + 1 ≠ (0 : Int); omega
        · exact h.last hl
      · simp at hj
        rw [zat_set]
        split
        · exact ⟨by show 0 ≤ _ + 1; omega, by show _ + 1 ≤ (1073741824 : Int); omega, s2, .inl (by show 0 < _ + (1 : Int); omega)⟩
        · exact h.stand j hj
      · simp at ha hb
        have key : ∀ c, (zat (Z.set i ((zat Z i).1, (zat Z i).2 + 1)) c).1 = (zat Z c).1 := fun c => by
          rw [zat_set]; split
          · rename_i q; rw [q.1]
          · rfl
        have key2 : ∀ c, (zat (Z.set i ((zat Z i).1, (zat Z i).2 + 1)) c).2 ≠ 0 → (zat Z c).2 ≠ 0 := fun c => by
          rw [zat_set]; split
          · rename_i q; rw [← q.1]; exact fun _ => h0
          · exact id
        rw [key, key] at e
        exact h.uniq a b ha hb (key2 a ca) (key2 b cb) e
  | none =>
    have hn := fnd_none.1 hf
    by_cases hc : free Z = 64
    · simp [hc]; exact h
    · simp [hc]
      have hfl := free_le Z
      have hlen := h.len
      refine ⟨?_, fun hl => ?_, fun j hj => ?_, fun a b ha hb ca cb e => ?_⟩
      · rw [len_putAt]; split <;> omega
      · rw [zat_putAt hfl, len_putAt]
        by_cases q : free Z = Z.length
        · simp [q]
        · have hz : 0 < Z.length := by omega
          rw [if_neg q]
          split
          · simp
          · exact h.last hz
      · rw [len_putAt] at hj
        rw [zat_putAt hfl]
        split
        · exact ⟨by simp, by simp, hk', .inl (by simp)⟩
        · rename_i q
          refine h.stand j ?_
          by_cases q2 : free Z = Z.length
          · rw [if_pos q2] at hj; omega
          · rw [if_neg q2] at hj; exact hj
      · rw [len_putAt] at ha hb
        rw [zat_putAt hfl] at ca cb
        rw [zat_putAt hfl, zat_putAt hfl] at e
        have bd : ∀ c, c < (if free Z = Z.length then Z.length + 1 else Z.length) → c ≠ free Z → c < Z.length := fun c hc hne => by
          by_cases q2 : free Z = Z.length
          · rw [if_pos q2] at hc; omega
          · rw [if_neg q2] at hc; exact hc
        by_cases qa : a = free Z <;> by_cases qb : b = free Z
        · omega
        · rw [if_pos qa, if_neg qb] at e
          rw [if_neg qb] at cb
          exact absurd ⟨cb, e.symm⟩ (hn b (bd b hb qb))
        · rw [if_neg qa, if_pos qb] at e
          rw [if_neg qa] at ca
          exact absurd ⟨ca, e⟩ (hn a (bd a ha qa))
        · rw [if_neg qa, if_neg qb] at e
          rw [if_neg qa] at ca
          rw [if_neg qb] at cb
          exact h.uniq a b (bd a ha qa) (bd b hb qb) ca cb e

theorem endOf_le (Z : Zt) : endOf Z ≤ Z.length := by
  induction Z with
  | nil => simp [endOf]
  | cons x Z ih => simp only [endOf, List.length_cons]; split <;> (try split) <;> omega
theorem endOf_zero {Z : Zt} : ∀ j, endOf Z ≤ j → (zat Z j).2 = 0 := by
  induction Z with
  | nil => intro j _; rw [zat_out (by simp)]
  | cons x Z ih =>
    intro j hj
    simp only [endOf] at hj
    cases j with
    | zero =>
      by_cases q : endOf Z = 0
      · rw [if_pos q] at hj
        by_cases q2 : x.2 = 0
        · exact q2
        · rw [if_neg q2] at hj; omega
      · rw [if_neg q] at hj; omega
    | succ j =>
      have : zat (x :: Z) (j + 1) = zat Z j := by simp [zat]
      rw [this]
      refine ih j ?_
      by_cases q : endOf Z = 0
      · omega
      · rw [if_neg q] at hj; omega
theorem endOf_last {Z : Zt} : 0 < endOf Z → (zat Z (endOf Z - 1)).2 ≠ 0 := by
  induction Z with
  | nil => simp [endOf]
  | cons x Z ih =>
    intro h
    simp only [endOf] at h ⊢
    by_cases q : endOf Z = 0
    · rw [if_pos q] at h ⊢
      by_cases q2 : x.2 = 0
      · rw [if_pos q2] at h; omega
      · rw [if_neg q2]; exact q2
    · rw [if_neg q]
      have : zat (x :: Z) (endOf Z + 1 - 1) = zat Z (endOf Z - 1) := by
        obtain ⟨m, hm⟩ : ∃ m, endOf Z = m + 1 := ⟨endOf Z - 1, by omega⟩
        rw [hm]; simp [zat]
      rw [this]; exact ih (by omega)
theorem endOf_of {Z : Zt} {k : Nat} (h : ∀ j, k ≤ j → j < Z.length → (zat Z j).2 = 0) (h2 : 0 < k → (zat Z (k - 1)).2 ≠ 0) : endOf Z = k := by
  rcases Nat.lt_trichotomy (endOf Z) k with h3 | h3 | h3
  · exact absurd (endOf_zero (k - 1) (by omega)) (h2 (by omega))
  · exact h3
  · exact absurd (h _ (by omega) (by have := endOf_le Z; omega)) (endOf_last (by omega))
theorem zat_take {Z : Zt} {k j : Nat} : zat (Z.take k) j = if j < k then zat Z j else ([], 0) := by
  unfold zat
  rw [List.getD_eq_getElem?_getD, List.getD_eq_getElem?_getD, List.getElem?_take]
  by_cases h : j < k
  · rw [if_pos h, if_pos h]
  · rw [if_neg h, if_neg h]; rfl
theorem zat_drop {Z : Zt} {i j : Nat} (hi : i < Z.length) : zat (dropI Z i) j = if j = i then less (zat Z i) else zat Z j := by
  unfold dropI
  rw [zat_set]
  by_cases h : i = j
  · subst h; rw [if_pos ⟨rfl, hi⟩, if_pos rfl]
  · rw [if_neg (by omega), if_neg (by omega)]
theorem fit_drop {Z : Zt} {at_ : Int} (h : FitP Z) : FitP (dropR Z at_).1 := by
  unfold dropR
  by_cases ha : asksB Z at_ = true
  · rw [if_pos ha]
    unfold asksB at ha
    simp at ha
    obtain ⟨h0, h1, h2⟩ := ha
    have hi : at_.toNat < Z.length := by omega
    generalize at_.toNat = i at h2 hi ⊢
    have hel := endOf_le (dropI Z i)
    have hdl : (dropI Z i).length = Z.length := by unfold dropI; simp
    have hlen := h.len
    obtain ⟨s0, s1, s2, s3⟩ := h.stand i hi
    have htl : (trim (dropI Z i)).length = endOf (dropI Z i) := by unfold trim; rw [List.length_take]; omega
    refine ⟨by show (trim (dropI Z i)).length ≤ 64; omega, fun hl => ?_, fun j hj => ?_, fun a b ha hb ca cb e => ?_⟩
    · show (zat (trim (dropI Z i)) ((trim (dropI Z i)).length - 1)).2 ≠ 0
      have hl' : 0 < (trim (dropI Z i)).length := hl
      rw [htl] at hl' ⊢
      unfold trim
      rw [zat_take, if_pos (by omega)]
      exact endOf_last hl'
    · have hj' : j < (trim (dropI Z i)).length := hj
      rw [htl] at hj'
      show StandP (zat (trim (dropI Z i)) j)
      unfold trim
      rw [zat_take, if_pos hj', zat_drop hi]
      split
      · unfold less
        refine ⟨by show 0 ≤ _ - (1 : Int); omega, by show _ - 1 ≤ (1073741824 : Int); omega, ?_, ?_⟩
        · show keepB (if _ then _ else _) = true
          split
          · rfl
          · exact s2
        · show 0 < _ - (1 : Int) ∨ (if _ then _ else _) = []
          by_cases q : (zat Z i).2 - 1 = 0
          · right; rw [if_pos q]
          · left; omega
      · exact h.stand j (by omega)
    · have ha' : a < (trim (dropI Z i)).length := ha
      have hb' : b < (trim (dropI Z i)).length := hb
      rw [htl] at ha' hb'
      have ca' : (zat (trim (dropI Z i)) a).2 ≠ 0 := ca
      have cb' : (zat (trim (dropI Z i)) b).2 ≠ 0 := cb
      have e' : (zat (trim (dropI Z i)) a).1 = (zat (trim (dropI Z i)) b).1 := e
      unfold trim at ca' cb' e'
      rw [zat_take, if_pos ha', zat_drop hi] at ca'
      rw [zat_take, if_pos hb', zat_drop hi] at cb'
      rw [zat_take, if_pos ha', zat_take, if_pos hb', zat_drop hi, zat_drop hi] at e'
      have key : ∀ c, (if c = i then less (zat Z i) else zat Z c).2 ≠ 0 → (zat Z c).2 ≠ 0 ∧ (if c = i then less (zat Z i) else zat Z c).1 = (zat Z c).1 := fun c => by
        by_cases q : c = i
        · rw [if_pos q, q]; intro hh
          have hh' : (zat Z i).2 - 1 ≠ 0 := hh
          refine ⟨h2, ?_⟩
          show (if (zat Z i).2 - 1 = 0 then [] else (zat Z i).1) = _
          rw [if_neg hh']
        · rw [if_neg q]; exact fun hh => ⟨hh, rfl⟩
      obtain ⟨ka, la⟩ := key a ca'
      obtain ⟨kb, lb⟩ := key b cb'
      rw [la, lb] at e'
      exact h.uniq a b (by omega) (by omega) ka kb e'
  · rw [if_neg ha]; exact h

end Go.Proofs.Ytjkncajcmdlmgaa
