/-
  PROVED HERE: plain facts on the maps of an address space as lists of six fields each (no Go text). No condition.
-/
import Derived.WalkKit
namespace Go.Proofs.Ytnfdmbbipkcdkaa
namespace Pg

structure Mp where
  va : Int
  n : Int
  cont : Int
  seg : Int
  off : Int
  wr : Bool
instance : Inhabited Mp := ⟨⟨0, 0, 0, 0, 0, false⟩⟩
/-- Its numbers are what Go's types hold. -/
def I64 (x : Int) : Prop := -9223372036854775808 ≤ x ∧ x ≤ 9223372036854775807
def Mp.ok (m : Mp) : Prop := I64 m.va ∧ I64 m.n ∧ I64 m.off
/-- A map is fit. -/
def oneB (m : Mp) : Bool := decide (0 ≤ m.va ∧ 1 ≤ m.n ∧ 0 ≤ m.off ∧ m.va + m.n ≤ 1048576 ∧ m.off + m.n ≤ 1048576)
theorem oneB_iff {m : Mp} : oneB m = true ↔ 0 ≤ m.va ∧ 1 ≤ m.n ∧ 0 ≤ m.off ∧ m.va + m.n ≤ 1048576 ∧ m.off + m.n ≤ 1048576 := by unfold oneB; rw [decide_eq_true_iff]
def mat (L : List Mp) (i : Nat) : Mp := L.getD i default
def okAt (L : List Mp) (i : Nat) : Bool := oneB (mat L i) && (decide (i = 0) || decide ((mat L (i - 1)).va + (mat L (i - 1)).n ≤ (mat L i).va))
def fitB (L : List Mp) : Bool := decide (L.length ≤ 16) && (List.range L.length).all (okAt L)
/-- The same, as a proposition. -/
def Fit (L : List Mp) : Prop := L.length ≤ 16 ∧ (∀ x ∈ L, oneB x = true) ∧ L.Pairwise (fun x y => x.va + x.n ≤ y.va)
section
variable {L M : List Mp} {i j k : Nat} {m x : Mp} {P : Mp → Bool} {p v : Int}
theorem mat_get (h : i < L.length) : mat L i = L[i] := by unfold mat; rw [List.getD_eq_getElem?_getD, List.getElem?_eq_getElem h]; rfl
theorem mat_mem (h : i < L.length) : mat L i ∈ L := by rw [mat_get h]; exact List.getElem_mem h
theorem mem_mat (h : x ∈ L) : ∃ i, i < L.length ∧ mat L i = x := by
  obtain ⟨i, hi, e⟩ := List.mem_iff_getElem.1 h
  exact ⟨i, hi, by rw [mat_get hi]; exact e⟩
theorem take_snoc (h : k < L.length) : L.take (k + 1) = L.take k ++ [mat L k] := by rw [List.take_succ_eq_append_getElem h, mat_get h]
theorem fitB_long (h : 16 < L.length) : fitB L = false := by unfold fitB; rw [decide_eq_false (by omega)]; rfl
theorem fitB_no (h : k < L.length) (e : okAt L k = false) : fitB L = false := by
  unfold fitB
  rw [Bool.and_eq_false_iff]
  right
  rw [List.all_eq_false]
  exact ⟨k, List.mem_range.2 h, by simp [e]⟩
theorem fitB_yes (hl : L.length ≤ 16) (h : ∀ k, k < L.length → okAt L k = true) : fitB L = true := by
  unfold fitB
  rw [decide_eq_true hl, Bool.true_and, List.all_eq_true]
  exact fun k hk => h k (List.mem_range.1 hk)
theorem fit_iff : fitB L = true ↔ Fit L := by
  constructor
  · intro h
    unfold fitB at h
    rw [Bool.and_eq_true, decide_eq_true_iff, List.all_eq_true] at h
    obtain ⟨h1, h2⟩ := h
    have hok : ∀ k, k < L.length → oneB (mat L k) = true ∧ (0 < k → (mat L (k - 1)).va + (mat L (k - 1)).n ≤ (mat L k).va) := by
      intro k hk
      have := h2 k (List.mem_range.2 hk)
      unfold okAt at this
      rw [Bool.and_eq_true, Bool.or_eq_true, decide_eq_true_iff, decide_eq_true_iff] at this
      exact ⟨this.1, fun h0 => this.2.resolve_left (by omega)⟩
    refine ⟨h1, fun x hx => ?_, ?_⟩
    · obtain ⟨i, hi, rfl⟩ := mem_mat hx
      exact (hok i hi).1
    · rw [List.pairwise_iff_getElem]
      have key : ∀ d i, i + d + 1 < L.length → (mat L i).va + (mat L i).n ≤ (mat L (i + d + 1)).va := by
        intro d
        induction d with
        | zero => intro i hi; exact (hok (i + 1) hi).2 (by omega)
        | succ d ih =>
          intro i hi
          have a := ih i (by omega)
          have b := (hok (i + (d + 1) + 1) hi).2 (by omega)
          have c := oneB_iff.1 (hok (i + d + 1) (by omega)).1
          rw [show i + (d + 1) + 1 - 1 = i + d + 1 by omega] at b
          omega
      intro i j hi hj hij
      have := key (j - i - 1) i (by omega)
      rw [show i + (j - i - 1) + 1 = j by omega, mat_get hi, mat_get hj] at this
      exact this
  · rintro ⟨h1, h2, h3⟩
    refine fitB_yes h1 fun k hk => ?_
    unfold okAt
    rw [h2 _ (mat_mem hk), Bool.true_and, Bool.or_eq_true, decide_eq_true_iff, decide_eq_true_iff]
    by_cases h0 : k = 0
    · exact .inl h0
    · right
      have := List.pairwise_iff_getElem.1 h3 (k - 1) k (by omega) hk (by omega)
      rw [mat_get hk, mat_get (by omega)]
      exact this
theorem Fit.rise (h : Fit L) (hij : i < j) (hj : j < L.length) : (mat L i).va + (mat L i).n ≤ (mat L j).va := by
  have := List.pairwise_iff_getElem.1 h.2.2 i j (by omega) hj hij
  rw [mat_get hj, mat_get (by omega)]
  exact this
theorem Fit.one (h : Fit L) (hi : i < L.length) : 0 ≤ (mat L i).va ∧ 1 ≤ (mat L i).n ∧ 0 ≤ (mat L i).off ∧ (mat L i).va + (mat L i).n ≤ 1048576 ∧ (mat L i).off + (mat L i).n ≤ 1048576 := oneB_iff.1 (h.2.1 _ (mat_mem hi))
theorem Fit.nil : Fit [] := ⟨by simp, fun x (hx : x ∈ []) => (by cases hx), List.Pairwise.nil⟩
theorem Fit.sub (h : Fit L) (s : M.Sublist L) : Fit M := ⟨Nat.le_trans s.length_le h.1, fun x hx => h.2.1 x (s.mem hx), h.2.2.sublist s⟩

/-- How many are so, from the first on. -/
def ps (P : Mp → Bool) (L : List Mp) : Nat := (L.takeWhile P).length
theorem ps_spec (hk : k ≤ L.length) (h : ∀ i, i < k → P (mat L i) = true) (h' : k < L.length → P (mat L k) = false) : ps P L = k := by
  induction L generalizing k with
  | nil => have : k = 0 := by simpa using hk
           subst this; rfl
  | cons x r ih =>
    cases k with
    | zero =>
      have : P x = false := h' (by simp)
      unfold ps
      rw [List.takeWhile_cons, this]; rfl
    | succ k =>
      have hx : P x = true := h 0 (by omega)
      unfold ps
      rw [List.takeWhile_cons, hx]
      have := ih (k := k) (by simpa using hk) (fun i hi => h (i + 1) (by omega)) (fun hl => h' (by simpa using hl))
      simpa [ps] using this
theorem ps_all : ps P L ≤ L.length ∧ (∀ i, i < ps P L → P (mat L i) = true) ∧ (ps P L < L.length → P (mat L (ps P L)) = false) := by
  induction L with
  | nil => exact ⟨Nat.le_refl _, fun i hi => absurd hi (by simp [ps]), fun h => absurd h (by simp)⟩
  | cons x r ih =>
    cases hx : P x with
    | false =>
      have e : ps P (x :: r) = 0 := by unfold ps; rw [List.takeWhile_cons, hx]; rfl
      rw [e]
      exact ⟨Nat.zero_le _, fun i hi => absurd hi (by omega), fun _ => hx⟩
    | true =>
      have e : ps P (x :: r) = ps P r + 1 := by unfold ps; rw [List.takeWhile_cons, hx]; rfl
      rw [e]
      refine ⟨by simpa using ih.1, fun i hi => ?_, fun hl => ih.2.2 (by simpa using hl)⟩
      cases i with
      | zero => exact hx
      | succ i => exact ih.2.1 i (by omega)
theorem ps_le : ps P L ≤ L.length := ps_all.1
/-- All of it is ahead of a page; it begins ahead of a page; it has a page. -/
def eP (p : Int) (x : Mp) : Bool := decide (x.va + x.n ≤ p)
def bP (p : Int) (x : Mp) : Bool := decide (x.va < p)
def hasB (x : Mp) (p : Int) : Bool := decide (x.va ≤ p ∧ p < x.va + x.n)
theorem eP_iff : eP p x = true ↔ x.va + x.n ≤ p := by unfold eP; rw [decide_eq_true_iff]
theorem eP_no : eP p x = false ↔ p < x.va + x.n := by unfold eP; rw [decide_eq_false_iff_not]; omega
theorem bP_iff : bP p x = true ↔ x.va < p := by unfold bP; rw [decide_eq_true_iff]
theorem bP_no : bP p x = false ↔ p ≤ x.va := by unfold bP; rw [decide_eq_false_iff_not]; omega
theorem hasB_iff : hasB x p = true ↔ x.va ≤ p ∧ p < x.va + x.n := by unfold hasB; rw [decide_eq_true_iff]
/-- What holds of one holds of all ahead of it. -/
def Falls (P : Mp → Bool) (L : List Mp) : Prop := ∀ i j, i < j → j < L.length → P (mat L j) = true → P (mat L i) = true
theorem falls_e (h : Fit L) : Falls (eP p) L := fun i j hij hj e => by
  rw [eP_iff] at e ⊢
  have := h.rise hij hj
  have := (h.one hj).2.1
  omega
theorem falls_b (h : Fit L) : Falls (bP p) L := fun i j hij hj e => by
  rw [bP_iff] at e ⊢
  have := h.rise hij hj
  have := (h.one (i := i) (by omega)).2.1
  omega
/-- The map of a page. -/
def fnd (L : List Mp) (p : Int) : Option Mp := if ps (eP p) L < L.length ∧ (mat L (ps (eP p) L)).va ≤ p then some (mat L (ps (eP p) L)) else none
theorem fnd_some (h : Fit L) : fnd L p = some x ↔ x ∈ L ∧ hasB x p = true := by
  obtain ⟨h1, h2, h3⟩ := ps_all (P := eP p) (L := L)
  unfold fnd
  constructor
  · intro e
    split at e
    · rename_i hc
      cases e
      exact ⟨mat_mem hc.1, hasB_iff.2 ⟨hc.2, eP_no.1 (h3 hc.1)⟩⟩
    · cases e
  · rintro ⟨hx, hp⟩
    obtain ⟨i, hi, rfl⟩ := mem_mat hx
    rw [hasB_iff] at hp
    have hki : ¬ i < ps (eP p) L := fun hlt => by have := eP_iff.1 (h2 i hlt); omega
    have hkl : ps (eP p) L < L.length := by omega
    have hk3 := eP_no.1 (h3 hkl)
    have : ps (eP p) L = i := by
      by_cases hlt : ps (eP p) L < i
      · have := h.rise hlt hi; omega
      · omega
    rw [this, if_pos ⟨hi, hp.1⟩]
theorem fnd_none (h : Fit L) : fnd L p = none ↔ ∀ x ∈ L, hasB x p = false := by
  constructor
  · intro e x hx
    cases hh : hasB x p with
    | false => rfl
    | true => have := (fnd_some h).2 ⟨hx, hh⟩; rw [e] at this; cases this
  · intro e
    cases hh : fnd L p with
    | none => rfl
    | some x => obtain ⟨a, b⟩ := (fnd_some h).1 hh; rw [e x a] at b; cases b
def fM (L : List Mp) (p : Int) : Mp := (fnd L p).getD default
def fN (L : List Mp) (p : Int) : Int := match fnd L p with
  | none => 0
  | some x => x.off + p - x.va
def fF (L : List Mp) (p : Int) : Bool := (fnd L p).isSome
/-- Where a map is put, the error, and the maps. -/
def pk (L : List Mp) (m : Mp) : Nat := ps (eP m.va) L
def reB (L : List Mp) (m : Mp) : Bool := decide (pk L m < L.length ∧ (mat L (pk L m)).va < m.va + m.n)
def putE (L : List Mp) (m : Mp) : Int := if oneB m = false then 4 else if reB L m = true then 12 else if 16 ≤ L.length then 6 else 0
def insL (L : List Mp) (k : Nat) (m : Mp) : List Mp := L.take k ++ [m] ++ L.drop k
def putL (L : List Mp) (m : Mp) : List Mp := if putE L m = 0 then insL L (pk L m) m else L
/-- Two maps have no page in common. -/
def Apart (x m : Mp) : Prop := x.va + x.n ≤ m.va ∨ m.va + m.n ≤ x.va
theorem re_iff (h : Fit L) (hm : oneB m = true) : reB L m = false ↔ ∀ x ∈ L, Apart x m := by
  obtain ⟨h1, h2, h3⟩ := ps_all (P := eP m.va) (L := L)
  have hm' := oneB_iff.1 hm
  unfold reB pk
  rw [decide_eq_false_iff_not]
  constructor
  · intro hc x hx
    obtain ⟨i, hi, rfl⟩ := mem_mat hx
    by_cases hlt : i < ps (eP m.va) L
    · exact .inl (eP_iff.1 (h2 i hlt))
    · right
      have hk : ps (eP m.va) L < L.length := by omega
      have : m.va + m.n ≤ (mat L (ps (eP m.va) L)).va := by
        rcases Int.lt_or_le (mat L (ps (eP m.va) L)).va (m.va + m.n) with q | q
        · exact absurd ⟨hk, q⟩ hc
        · exact q
      by_cases he : ps (eP m.va) L = i
      · rw [← he]; exact this
      · have r := h.rise (i := ps (eP m.va) L) (j := i) (by omega) hi
        have := (h.one hk).2.1
        omega
  · rintro hc ⟨hk, hv⟩
    rcases hc _ (mat_mem hk) with q | q
    · have := eP_no.1 (h3 hk); omega
    · omega
theorem put_ok (h : Fit L) : putE L m = 0 ↔ oneB m = true ∧ (∀ x ∈ L, Apart x m) ∧ L.length < 16 := by
  unfold putE
  cases hm : oneB m with
  | false => simp
  | true =>
    have hr := re_iff h hm
    cases hq : reB L m with
    | true => simp; intro hc; have := hr.2 hc; rw [hq] at this; cases this
    | false =>
      have := hr.1 hq
      by_cases hl : 16 ≤ L.length
      · simp [hl]
      · simp [hl]; exact ⟨this, by omega⟩
theorem ins_perm : (insL L k m).Perm (m :: L) := by
  unfold insL
  rw [List.append_assoc]
  refine List.perm_middle.trans ?_
  show (m :: (L.take k ++ L.drop k)).Perm (m :: L)
  rw [List.take_append_drop]
theorem ins_len : (insL L k m).length = L.length + 1 := by rw [ins_perm.length_eq]; rfl
theorem put_yes (e : putE L m = 0) : putL L m = insL L (pk L m) m := by unfold putL; rw [if_pos e]
theorem put_no (e : putE L m ≠ 0) : putL L m = L := by unfold putL; rw [if_neg e]
theorem put_mem (e : putE L m = 0) : x ∈ putL L m ↔ x = m ∨ x ∈ L := by rw [put_yes e, ins_perm.mem_iff, List.mem_cons]
theorem fit_put (h : Fit L) : Fit (putL L m) := by
  by_cases e : putE L m = 0
  · obtain ⟨hm, ha, hl⟩ := (put_ok h).1 e
    obtain ⟨h1, h2, h3⟩ := ps_all (P := eP m.va) (L := L)
    have hm' := oneB_iff.1 hm
    refine ⟨by rw [put_yes e, ins_len]; omega, fun x hx => ?_, ?_⟩
    · rcases (put_mem e).1 hx with rfl | hx
      · exact hm
      · exact h.2.1 x hx
    · rw [put_yes e]
      unfold insL
      have hp : (L.take (pk L m) ++ L.drop (pk L m)).Pairwise (fun x y => x.va + x.n ≤ y.va) := by rw [List.take_append_drop]; exact h.2.2
      rw [List.pairwise_append] at hp
      have hA : ∀ x ∈ L.take (pk L m), x.va + x.n ≤ m.va := by
        intro x hx
        obtain ⟨i, hi, rfl⟩ := List.mem_iff_getElem.1 hx
        have hi' : i < pk L m := by rw [List.length_take] at hi; omega
        have := eP_iff.1 (h2 i hi')
        rw [mat_get (show i < L.length by unfold pk at hi'; omega)] at this
        simpa using this
      have hB : ∀ x ∈ L.drop (pk L m), m.va + m.n ≤ x.va := by
        intro x hx
        obtain ⟨i, hi, rfl⟩ := List.mem_iff_getElem.1 hx
        rw [List.length_drop] at hi
        have hxm : (L.drop (pk L m))[i] = mat L (pk L m + i) := by rw [mat_get (by omega)]; simp
        rw [hxm]
        rcases ha _ (mat_mem (L := L) (i := pk L m + i) (by omega)) with q | q
        · exfalso
          have : eP m.va (mat L (pk L m)) = true := by
            by_cases h0 : i = 0
            · subst h0; exact eP_iff.2 q
            · exact falls_e h (pk L m) (pk L m + i) (by omega) (by omega) (eP_iff.2 q)
          rw [show eP m.va (mat L (pk L m)) = false from h3 (by unfold pk at *; omega)] at this
          cases this
        · exact q
      rw [List.append_assoc, List.pairwise_append]
      refine ⟨hp.1, ?_, ?_⟩
      · show (m :: L.drop (pk L m)).Pairwise _
        rw [List.pairwise_cons]
        exact ⟨hB, hp.2.1⟩
      · intro x hx y hy
        rcases List.mem_cons.1 (show y ∈ m :: L.drop (pk L m) from hy) with rfl | hy
        · exact hA x hx
        · exact hp.2.2 x hx y hy
  · rw [put_no e]; exact h
/-- Which map goes, the error, and the maps. -/
def dk (L : List Mp) (v : Int) : Nat := ps (bP v) L
def thB (L : List Mp) (v : Int) : Bool := decide (dk L v < L.length ∧ (mat L (dk L v)).va = v)
def drE (L : List Mp) (v : Int) : Int := if thB L v = true then 0 else 1
def delL (L : List Mp) (k : Nat) : List Mp := L.take k ++ L.drop (k + 1)
def drL (L : List Mp) (v : Int) : List Mp := if thB L v = true then delL L (dk L v) else L
theorem fit_drop (h : Fit L) : Fit (drL L v) := by
  unfold drL
  split
  · refine h.sub ?_
    unfold delL
    have : (L.take (dk L v) ++ L.drop (dk L v + 1)).Sublist (L.take (dk L v) ++ L.drop (dk L v)) := List.Sublist.append_left (List.drop_sublist_drop_left L (Nat.le_succ _)) _
    rwa [List.take_append_drop] at this
  · exact h
theorem th_iff (h : Fit L) : thB L v = false ↔ ∀ i, i < L.length → (mat L i).va ≠ v := by
  obtain ⟨h1, h2, h3⟩ := ps_all (P := bP v) (L := L)
  unfold thB dk
  rw [decide_eq_false_iff_not]
  constructor
  · intro hc i hi e
    have hk : ¬ i < ps (bP v) L := fun q => by have := bP_iff.1 (h2 i q); omega
    have hl : ps (bP v) L < L.length := by omega
    have h4 := bP_no.1 (h3 hl)
    by_cases he : ps (bP v) L = i
    · exact hc ⟨hl, by rw [he]; exact e⟩
    · have r := h.rise (i := ps (bP v) L) (j := i) (by omega) hi
      have := (h.one hl).2.1
      omega
  · rintro hc ⟨a, b⟩
    exact hc _ a b
theorem ins_at (hk : k ≤ L.length) : (∀ i, i < k → mat (insL L k m) i = mat L i) ∧ mat (insL L k m) k = m := by
  unfold insL
  have hl : (L.take k).length = k := by rw [List.length_take]; omega
  constructor
  · intro i hi
    unfold mat
    rw [List.append_assoc, List.getD_eq_getElem?_getD, List.getElem?_append_left (by omega), List.getElem?_take, if_pos hi, List.getD_eq_getElem?_getD]
  · unfold mat
    rw [List.append_assoc, List.getD_eq_getElem?_getD, List.getElem?_append_right (by omega), hl, Nat.sub_self]
    rfl
theorem drop_put (h : Fit L) (e : putE L m = 0) : thB (putL L m) m.va = true ∧ drL (putL L m) m.va = L := by
  obtain ⟨hm, ha, hl⟩ := (put_ok h).1 e
  obtain ⟨h1, h2, h3⟩ := ps_all (P := eP m.va) (L := L)
  have hm' := oneB_iff.1 hm
  have hk : pk L m ≤ L.length := h1
  obtain ⟨hi1, hi2⟩ := ins_at (m := m) hk
  have hlen := ins_len (L := L) (k := pk L m) (m := m)
  have hd : dk (putL L m) m.va = pk L m := by
    rw [put_yes e]
    refine ps_spec (by omega) (fun i hi => ?_) (fun _ => ?_)
    · rw [hi1 i hi, bP_iff]
      have := eP_iff.1 (h2 i hi)
      have := (h.one (i := i) (by omega)).2.1
      omega
    · rw [hi2, bP_no]; omega
  have ht : thB (putL L m) m.va = true := by
    unfold thB
    rw [hd, decide_eq_true_iff, put_yes e, hi2]
    exact ⟨by omega, rfl⟩
  refine ⟨ht, ?_⟩
  unfold drL delL
  rw [if_pos ht, hd, put_yes e]
  unfold insL
  have hlt : (L.take (pk L m)).length = pk L m := by rw [List.length_take]; omega
  rw [List.take_append_of_le_length (by rw [List.length_append, hlt]; omega), List.take_append_of_le_length (by omega), List.take_of_length_le (by omega), List.drop_append_of_le_length (by rw [List.length_append, hlt]; simp), List.drop_of_length_le (by rw [List.length_append, hlt]; simp), List.nil_append, List.take_append_drop]
end
/-- How many maps have a page. -/
def cnt (L : List Mp) (p : Int) : Nat := L.countP (fun x => hasB x p)
section
variable {L M : List Mp} {m x : Mp} {p a : Int}
theorem cnt_fnd (h : Fit L) : cnt L p = if (fnd L p).isSome then 1 else 0 := by
  cases hf : fnd L p with
  | none =>
    unfold cnt
    rw [if_neg (by simp), List.countP_eq_zero]
    intro x hx; rw [(fnd_none h).1 hf x hx]; simp
  | some y =>
    rw [if_pos (by simp)]
    obtain ⟨hy, hp⟩ := (fnd_some h).1 hf
    obtain ⟨A, C, rfl⟩ := List.append_of_mem hy
    have h3 := h.2.2
    rw [List.pairwise_append, List.pairwise_cons] at h3
    obtain ⟨_, ⟨hC, _⟩, hA⟩ := h3
    rw [hasB_iff] at hp
    have zA : A.countP (fun x => hasB x p) = 0 := by
      rw [List.countP_eq_zero]
      intro x hx e
      have := hA x hx y (by simp)
      rw [hasB_iff] at e
      omega
    have zC : C.countP (fun x => hasB x p) = 0 := by
      rw [List.countP_eq_zero]
      intro x hx e
      have := hC x hx
      rw [hasB_iff] at e
      omega
    unfold cnt
    rw [List.countP_append, List.countP_cons, zA, zC, if_pos (hasB_iff.2 hp)]
theorem fnd_put (h : Fit L) (e : putE L m = 0) : fnd (putL L m) p = if hasB m p = true then some m else fnd L p := by
  have hf := fit_put (m := m) h
  obtain ⟨hm, ha, hl⟩ := (put_ok h).1 e
  split
  · rename_i hp
    exact (fnd_some hf).2 ⟨(put_mem e).2 (.inl rfl), hp⟩
  · rename_i hp
    cases hq : fnd L p with
    | some y =>
      obtain ⟨a, b⟩ := (fnd_some h).1 hq
      exact (fnd_some hf).2 ⟨(put_mem e).2 (.inr a), b⟩
    | none =>
      rw [fnd_none hf]
      intro x hx
      rcases (put_mem e).1 hx with rfl | hx
      · simpa using hp
      · exact (fnd_none h).1 hq x hx
theorem fnd_was (h : Fit L) (e : putE L m = 0) (hp : hasB m p = true) : fnd L p = none := by
  obtain ⟨hm, ha, hl⟩ := (put_ok h).1 e
  rw [fnd_none h]
  intro x hx
  cases hq : hasB x p with
  | false => rfl
  | true =>
    rw [hasB_iff] at hp hq
    rcases ha x hx with q | q <;> omega
/-- The first pages of a map, and the others. -/
def fstM (m : Mp) (a : Int) : Mp := ⟨m.va, a, m.cont, m.seg, m.off, m.wr⟩
def sndM (m : Mp) (a : Int) : Mp := ⟨m.va + a, m.n - a, m.cont, m.seg, m.off + a, m.wr⟩
theorem sorted_eq (h : Fit L) (h' : Fit M) (hp : L.Perm M) : L = M := by
  refine List.Perm.eq_of_pairwise ?_ h.2.2 h'.2.2 hp
  intro x y hx hy a b
  have := oneB_iff.1 (h.2.1 x hx)
  have := oneB_iff.1 (h'.2.1 y hy)
  omega
theorem put_perm (e : putE L m = 0) : (putL L m).Perm (m :: L) := by rw [put_yes e]; exact ins_perm
theorem put_len (e : putE L m = 0) : (putL L m).length = L.length + 1 := by rw [put_yes e]; exact ins_len
theorem parts (h : Fit L) (hl : L.length ≤ 14) (e : putE L m = 0) (h1 : 1 ≤ a) (h2 : a < m.n) :
    putE L (fstM m a) = 0 ∧ putE (putL L (fstM m a)) (sndM m a) = 0 ∧ putE L (sndM m a) = 0 ∧ putE (putL L (sndM m a)) (fstM m a) = 0 ∧
    putL (putL L (fstM m a)) (sndM m a) = putL (putL L (sndM m a)) (fstM m a) ∧ (putL (putL L (fstM m a)) (sndM m a)).length = (putL L m).length + 1 := by
  obtain ⟨hm, ha, _⟩ := (put_ok h).1 e
  have hm' := oneB_iff.1 hm
  have o1 : oneB (fstM m a) = true := oneB_iff.2 ⟨by show 0 ≤ m.va; omega, by show 1 ≤ a; omega, by show 0 ≤ m.off; omega, by show m.va + a ≤ _; omega, by show m.off + a ≤ _; omega⟩
  have o2 : oneB (sndM m a) = true := oneB_iff.2 (⟨by show 0 ≤ m.va + a; omega, by show 1 ≤ m.n - a; omega, by show 0 ≤ m.off + a; omega, by show m.va + a + (m.n - a) ≤ _; omega, by show m.off + a + (m.n - a) ≤ _; omega⟩)
  have a1 : ∀ x ∈ L, Apart x (fstM m a) := fun x hx => by
    rcases ha x hx with q | q
    · exact .inl q
    · right; show m.va + a ≤ x.va; omega
  have a2 : ∀ x ∈ L, Apart x (sndM m a) := fun x hx => by
    rcases ha x hx with q | q
    · left; show x.va + x.n ≤ m.va + a; omega
    · right; show m.va + a + (m.n - a) ≤ x.va; omega
  have e1 : putE L (fstM m a) = 0 := (put_ok h).2 ⟨o1, a1, by omega⟩
  have e3 : putE L (sndM m a) = 0 := (put_ok h).2 ⟨o2, a2, by omega⟩
  have f1 := fit_put (m := fstM m a) h
  have f2 := fit_put (m := sndM m a) h
  have e2 : putE (putL L (fstM m a)) (sndM m a) = 0 := (put_ok f1).2 ⟨o2, fun x hx => by
    rcases (put_mem e1).1 hx with rfl | hx
    · left; show m.va + a ≤ m.va + a; omega
    · exact a2 x hx, by rw [put_len e1]; omega⟩
  have e4 : putE (putL L (sndM m a)) (fstM m a) = 0 := (put_ok f2).2 ⟨o1, fun x hx => by
    rcases (put_mem e3).1 hx with rfl | hx
    · right; show m.va + a ≤ m.va + a; omega
    · exact a1 x hx, by rw [put_len e3]; omega⟩
  refine ⟨e1, e2, e3, e4, ?_, by rw [put_len e2, put_len e1, put_len e]⟩
  refine sorted_eq (fit_put f1) (fit_put f2) ?_
  refine (put_perm e2).trans ?_
  refine (List.Perm.cons _ (put_perm e1)).trans ?_
  refine (List.Perm.swap _ _ _).trans ?_
  refine List.Perm.trans ?_ (put_perm e4).symm
  exact List.Perm.cons _ (put_perm e3).symm
theorem parts_fnd (h : Fit L) (hl : L.length ≤ 14) (e : putE L m = 0) (h1 : 1 ≤ a) (h2 : a < m.n) :
    fF (putL L m) p = fF (putL (putL L (fstM m a)) (sndM m a)) p ∧ fN (putL L m) p = fN (putL (putL L (fstM m a)) (sndM m a)) p ∧ (fM (putL L m) p).cont = (fM (putL (putL L (fstM m a)) (sndM m a)) p).cont ∧ (fM (putL L m) p).seg = (fM (putL (putL L (fstM m a)) (sndM m a)) p).seg ∧ (fM (putL L m) p).wr = (fM (putL (putL L (fstM m a)) (sndM m a)) p).wr := by
  obtain ⟨e1, e2, _⟩ := parts h hl e h1 h2
  have q0 := fnd_put (p := p) h e
  have q1 := fnd_put (p := p) h e1
  have q2 := fnd_put (p := p) (fit_put (m := fstM m a) h) e2
  rw [q1] at q2
  unfold fF fN fM
  rw [q0, q2]
  by_cases hs : hasB (sndM m a) p = true
  · have hs' := hasB_iff.1 hs
    have : hasB m p = true := hasB_iff.2 (by have a1 : m.va + a ≤ p := hs'.1; have a2 : p < m.va + a + (m.n - a) := hs'.2; omega)
    rw [if_pos this, if_pos hs]
    refine ⟨rfl, ?_, rfl, rfl, rfl⟩
    show m.off + p - m.va = m.off + a + p - (m.va + a)
    omega
  · rw [if_neg hs]
    by_cases hf : hasB (fstM m a) p = true
    · have hf' := hasB_iff.1 hf
      have : hasB m p = true := hasB_iff.2 (by have a1 : m.va ≤ p := hf'.1; have a2 : p < m.va + a := hf'.2; omega)
      rw [if_pos this, if_pos hf]
      exact ⟨rfl, rfl, rfl, rfl, rfl⟩
    · have : ¬ hasB m p = true := fun q => by
        have q := hasB_iff.1 q
        by_cases hlt : p < m.va + a
        · exact hf (hasB_iff.2 ⟨q.1, hlt⟩)
        · exact hs (hasB_iff.2 ⟨by show m.va + a ≤ p; omega, by show p < m.va + a + (m.n - a); omega⟩)
      rw [if_neg this, if_neg hf]
      exact ⟨rfl, rfl, rfl, rfl, rfl⟩
end
/-- Two lists are the same. -/
def eqB (x y : Mp) : Bool := x.va == y.va && x.n == y.n && x.cont == y.cont && x.seg == y.seg && x.off == y.off && x.wr == y.wr
theorem eqB_iff {x y : Mp} : eqB x y = true ↔ x = y := by
  cases x; cases y
  simp [eqB, and_assoc]
theorem eqB_refl (x : Mp) : eqB x x = true := eqB_iff.2 rfl
def sameB (A C : List Mp) : Bool := A.length == C.length && (List.range A.length).all (fun i => eqB (mat A i) (mat C i))
theorem sameB_len {A C : List Mp} (h : A.length ≠ C.length) : sameB A C = false := by
  unfold sameB; rw [beq_eq_false_iff_ne.2 h]; rfl
theorem sameB_at {A C : List Mp} {k : Nat} (hk : k < A.length) (h : eqB (mat A k) (mat C k) = false) : sameB A C = false := by
  unfold sameB
  rw [Bool.and_eq_false_iff]; right
  rw [List.all_eq_false]
  exact ⟨k, List.mem_range.2 hk, by simp [h]⟩
theorem sameB_all {A C : List Mp} (h : A.length = C.length) (k : ∀ i, i < A.length → eqB (mat A i) (mat C i) = true) : sameB A C = true := by
  unfold sameB
  rw [beq_iff_eq.2 h, Bool.true_and, List.all_eq_true]
  exact fun i hi => k i (List.mem_range.1 hi)
theorem sameB_refl (A : List Mp) : sameB A A = true := sameB_all rfl fun _ _ => eqB_refl _
end Pg
end Go.Proofs.Ytnfdmbbipkcdkaa
