/-
  PROVED HERE: plain facts on levels as integers (no Go text): the level that a number stands for, the order, the greater and the lesser one. No condition.
-/
import Derived.WalkKit
namespace Go.Proofs.Ytfpmkihlfhpgdaa.Lv

/-- The level that a number stands for. -/
def lv (n : Int) : Int := if 0 ≤ n ∧ n ≤ 5 then n else 2
def fit (n : Int) : Bool := decide (0 ≤ n ∧ n ≤ 5)
def leq (a b : Int) : Bool := decide (lv a ≤ lv b)
def join (a b : Int) : Int := if lv a < lv b then lv b else lv a
def meet (a b : Int) : Int := if lv a < lv b then lv a else lv b
def raise (n : Int) : Int := if lv n = 0 then 5 else lv n
def lower (n : Int) : Int := if lv n = 5 then 0 else lv n

theorem lv_lo (n : Int) : 0 ≤ lv n := by unfold lv; split <;> omega
theorem lv_hi (n : Int) : lv n ≤ 5 := by unfold lv; split <;> omega
theorem lv_of {n : Int} (h : 0 ≤ n) (k : n ≤ 5) : lv n = n := by unfold lv; rw [if_pos ⟨h, k⟩]
theorem lv_no {n : Int} (h : ¬ (0 ≤ n ∧ n ≤ 5)) : lv n = 2 := by unfold lv; rw [if_neg h]
theorem lv_lv (n : Int) : lv (lv n) = lv n := lv_of (lv_lo n) (lv_hi n)
theorem join_lo (a b : Int) : 0 ≤ join a b := by unfold join; have := lv_lo a; have := lv_lo b; split <;> omega
theorem join_hi (a b : Int) : join a b ≤ 5 := by unfold join; have := lv_hi a; have := lv_hi b; split <;> omega
theorem meet_lo (a b : Int) : 0 ≤ meet a b := by unfold meet; have := lv_lo a; have := lv_lo b; split <;> omega
theorem meet_hi (a b : Int) : meet a b ≤ 5 := by unfold meet; have := lv_hi a; have := lv_hi b; split <;> omega

/-- A level's sign. -/
def txt (n : Int) : ByteArray := if lv n = 0 then ⟨#[42]⟩ else if lv n = 1 then ⟨#[48]⟩ else if lv n = 2 then ⟨#[49]⟩ else if lv n = 3 then ⟨#[50]⟩ else if lv n = 4 then ⟨#[51]⟩ else ⟨#[74]⟩
theorem lv_cases (n : Int) : lv n = 0 ∨ lv n = 1 ∨ lv n = 2 ∨ lv n = 3 ∨ lv n = 4 ∨ lv n = 5 := by have := lv_lo n; have := lv_hi n; omega
/-- The first level whose sign a text is; 6: none. -/
def at_ (s : ByteArray) : Nat := if txt 0 = s then 0 else if txt 1 = s then 1 else if txt 2 = s then 2 else if txt 3 = s then 3 else if txt 4 = s then 4 else if txt 5 = s then 5 else 6
theorem at_le (s : ByteArray) : at_ s ≤ 6 := by unfold at_; repeat' split
                                                all_goals omega
theorem at_hit {s : ByteArray} {k : Nat} (h : k ≤ at_ s) (h5 : k ≤ 5) (e : txt (k : Int) = s) : at_ s = k := by
  have hk : k = 0 ∨ k = 1 ∨ k = 2 ∨ k = 3 ∨ k = 4 ∨ k = 5 := by omega
  revert h
  unfold at_
  rcases hk with rfl | rfl | rfl | rfl | rfl | rfl <;> simp at e <;> (repeat' split) <;> simp_all
theorem at_miss {s : ByteArray} {k : Nat} (h : k ≤ at_ s) (h5 : k ≤ 5) (e : txt (k : Int) ≠ s) : k + 1 ≤ at_ s := by
  have hk : k = 0 ∨ k = 1 ∨ k = 2 ∨ k = 3 ∨ k = 4 ∨ k = 5 := by omega
  have : at_ s ≠ k := by
    unfold at_
    rcases hk with rfl | rfl | rfl | rfl | rfl | rfl <;> simp at e <;> (repeat' split) <;> simp_all
  omega

def rdN (s : ByteArray) : Int := if at_ s < 6 then at_ s else 0
def rdE (s : ByteArray) : Int := if at_ s < 6 then 0 else 11
theorem rdN_hit {s : ByteArray} {k : Nat} (h : at_ s = k) (h6 : k < 6) : rdN s = k := by unfold rdN; rw [h, if_pos h6]
theorem rdE_hit {s : ByteArray} {k : Nat} (h : at_ s = k) (h6 : k < 6) : rdE s = 0 := by unfold rdE; rw [h, if_pos h6]
theorem rdN_no {s : ByteArray} (h : at_ s = 6) : rdN s = 0 := by unfold rdN; rw [h, if_neg (by omega)]
theorem rdE_no {s : ByteArray} (h : at_ s = 6) : rdE s = 11 := by unfold rdE; rw [h, if_neg (by omega)]
theorem toList_inj {a b : ByteArray} (h : a.toList = b.toList) : a = b := by
  rw [Go.ByteArray.toList_eq, Go.ByteArray.toList_eq] at h
  rw [ByteArray.ext_iff]
  simpa using h

theorem raise_lo (n : Int) : 0 ≤ raise n := by unfold raise; have := lv_lo n; split <;> omega
theorem raise_hi (n : Int) : raise n ≤ 5 := by unfold raise; have := lv_hi n; split <;> omega
theorem lower_lo (n : Int) : 0 ≤ lower n := by unfold lower; have := lv_lo n; split <;> omega
theorem lower_hi (n : Int) : lower n ≤ 5 := by unfold lower; have := lv_hi n; split <;> omega
theorem lv_raise (n : Int) : lv (raise n) = raise n := lv_of (raise_lo n) (raise_hi n)
theorem lv_lower (n : Int) : lv (lower n) = lower n := lv_of (lower_lo n) (lower_hi n)
theorem lv_join (a b : Int) : lv (join a b) = join a b := lv_of (join_lo a b) (join_hi a b)
theorem lv_meet (a b : Int) : lv (meet a b) = meet a b := lv_of (meet_lo a b) (meet_hi a b)
theorem raise_ne (a : Int) : (raise a == 0) = false := by rw [beq_eq_false_iff_ne]; unfold raise; split <;> omega
theorem lower_ne (a : Int) : (lower a == 5) = false := by rw [beq_eq_false_iff_ne]; unfold lower; split <;> omega
theorem leq_raise (a : Int) : leq a (raise a) = true := by unfold leq; rw [lv_raise]; unfold raise; have := lv_hi a; split <;> simp <;> omega
theorem lower_leq (a : Int) : leq (lower a) a = true := by unfold leq; rw [lv_lower]; unfold lower; have := lv_lo a; split <;> simp <;> omega
theorem lower_raise {a : Int} (h : lv a ≠ 5) : (lower (raise a) != lv a) = false := by
  unfold lower; rw [lv_raise]; unfold raise; rcases lv_cases a with k | k | k | k | k | k <;> simp_all
theorem raise_lower {a : Int} (h : lv a ≠ 0) : (raise (lower a) != lv a) = false := by
  unfold raise; rw [lv_lower]; unfold lower; rcases lv_cases a with k | k | k | k | k | k <;> simp_all
theorem lower_raise5 {a : Int} (h : lv a = 5) : (lower (raise a) != lv a) = true := by
  unfold lower; rw [lv_raise]; unfold raise; simp [h]
theorem raise_lower0 {a : Int} (h : lv a = 0) : (raise (lower a) != lv a) = true := by
  unfold raise; rw [lv_lower]; unfold lower; simp [h]
theorem leq_raise2 {a b : Int} (h : lv a ≠ 0) (k : lv b ≠ 0) : (leq a b == leq (raise a) (raise b)) = true := by
  unfold leq; rw [lv_raise, lv_raise]; unfold raise; simp [h, k]

theorem rdE_lo (s : ByteArray) : 0 ≤ rdE s := by unfold rdE; split <;> omega
theorem rdE_hi (s : ByteArray) : rdE s ≤ 11 := by unfold rdE; split <;> omega
theorem txt_lv (n : Int) : txt (lv n) = txt n := by unfold txt; rw [lv_lv]
theorem txt_inj {a b : Int} (h : txt a = txt b) : lv a = lv b := by
  unfold txt at h
  rcases lv_cases a with k | k | k | k | k | k <;> rcases lv_cases b with l | l | l | l | l | l <;> simp_all
theorem at_txt (n : Int) : (at_ (txt n) : Int) = lv n := by
  rw [← txt_lv]
  rcases lv_cases n with k | k | k | k | k | k <;> rw [k] <;> decide +kernel
theorem rdN_txt (n : Int) : rdN (txt n) = lv n := by
  have h := at_txt n
  have := lv_hi n
  unfold rdN; rw [if_pos (by omega)]; exact h
theorem rdE_txt (n : Int) : rdE (txt n) = 0 := by
  have h := at_txt n
  have := lv_hi n
  unfold rdE; rw [if_pos (by omega)]
theorem txt_size (n : Int) : (txt n).size = 1 := by
  unfold txt
  rcases lv_cases n with k | k | k | k | k | k <;> simp [k] <;> rfl
theorem fit_lv {n : Int} (h : fit n = true) : lv n = n := by unfold fit at h; simp at h; exact lv_of h.1 h.2
theorem txt_ne {a b : Int} (h : fit a = true) (k : fit b = true) (e : a ≠ b) : ((txt a).toList == (txt b).toList) = false := by
  rw [beq_eq_false_iff_ne]
  intro x
  have := txt_inj (toList_inj x)
  rw [fit_lv h, fit_lv k] at this
  exact e this
theorem leq_0 (a : Int) : leq 0 a = true := by unfold leq; rw [lv_of (n := 0) (by omega) (by omega)]; simpa using lv_lo a
theorem leq_5 (a : Int) : leq a 5 = true := by unfold leq; rw [lv_of (n := 5) (by omega) (by omega)]; simpa using lv_hi a
theorem join_0 (a : Int) : join a 0 = lv a := by unfold join; rw [lv_of (n := 0) (by omega) (by omega)]; have := lv_lo a; split <;> omega
theorem meet_5 (a : Int) : meet a 5 = lv a := by unfold meet; rw [lv_of (n := 5) (by omega) (by omega)]; have := lv_hi a; split <;> omega
theorem join_comm (a b : Int) : join a b = join b a := by unfold join; split <;> split <;> omega
theorem meet_comm (a b : Int) : meet a b = meet b a := by unfold meet; split <;> split <;> omega
theorem join_max (a b : Int) : join a b = max (lv a) (lv b) := by unfold join; split <;> omega
theorem meet_min (a b : Int) : meet a b = min (lv a) (lv b) := by unfold meet; split <;> omega
theorem join_assoc (a b c : Int) : join a (join b c) = join (join a b) c := by
  rw [join_max a, lv_join, join_max b, join_max _ c, lv_join, join_max a]; omega
theorem meet_assoc (a b c : Int) : meet a (meet b c) = meet (meet a b) c := by
  rw [meet_min a, lv_meet, meet_min b, meet_min _ c, lv_meet, meet_min a]; omega
theorem join_self (a : Int) : join a a = lv a := by rw [join_max]; omega
theorem meet_self (a : Int) : meet a a = lv a := by rw [meet_min]; omega
theorem join_meet (a b : Int) : join a (meet a b) = lv a := by rw [join_max, lv_meet, meet_min]; omega
theorem meet_join (a b : Int) : meet a (join a b) = lv a := by rw [meet_min, lv_join, join_max]; omega
theorem leq_join (a b : Int) : (join a b == lv b) = leq a b := by
  rw [join_max]; unfold leq; by_cases h : lv a ≤ lv b
  · rw [decide_eq_true h, beq_iff_eq]; omega
  · rw [decide_eq_false h, beq_eq_false_iff_ne]; omega
theorem leq_meet (a b : Int) : (meet a b == lv a) = leq a b := by
  rw [meet_min]; unfold leq; by_cases h : lv a ≤ lv b
  · rw [decide_eq_true h, beq_iff_eq]; omega
  · rw [decide_eq_false h, beq_eq_false_iff_ne]; omega
theorem leq_iff {a b : Int} : leq a b = true ↔ lv a ≤ lv b := by unfold leq; simp
theorem leq_no {a b : Int} : leq a b = false ↔ lv b < lv a := by unfold leq; simp
theorem leq_j1 (a b : Int) : leq a (join a b) = true := by rw [leq_iff, lv_join, join_max]; omega
theorem leq_j2 (a b : Int) : leq b (join a b) = true := by rw [leq_iff, lv_join, join_max]; omega
theorem m1_leq (a b : Int) : leq (meet a b) a = true := by rw [leq_iff, lv_meet, meet_min]; omega
theorem m2_leq (a b : Int) : leq (meet a b) b = true := by rw [leq_iff, lv_meet, meet_min]; omega
theorem j_leq {a b c : Int} (h : leq a c = true) (k : leq b c = true) : leq (join a b) c = true := by rw [leq_iff] at *; rw [lv_join, join_max]; omega
theorem leq_m {a b c : Int} (h : leq c a = true) (k : leq c b = true) : leq c (meet a b) = true := by rw [leq_iff] at *; rw [lv_meet, meet_min]; omega
end Go.Proofs.Ytfpmkihlfhpgdaa.Lv
