/-
  PROVED HERE: plain facts on natural numbers (no Go text): a word that is stirred is stirred back, halves go through rounds and back, a number is made of its halves. No condition.
-/
import Derived.WalkKit
namespace Go.Proofs.Ytjgdafpciilfeaa.Pm
set_option linter.unusedVariables false

/-- A word that is stirred. -/
def xs (k x : Nat) : Nat := x ^^^ (x / 2 ^ k)
def mixN (x : Nat) : Nat := xs 31 (xs 27 (xs 30 x * 13787848793156543929 % 18446744073709551616) * 10723151780598845931 % 18446744073709551616)

theorem div_lt {x k : Nat} (h : x < 18446744073709551616) : x / 2 ^ k < 18446744073709551616 := Nat.lt_of_le_of_lt (Nat.div_le_self _ _) h
theorem xor_lt {x y : Nat} (h : x < 18446744073709551616) (k : y < 18446744073709551616) : x ^^^ y < 18446744073709551616 := Nat.xor_lt_two_pow (n := 64) h k
theorem xs_lt {k x : Nat} (h : x < 18446744073709551616) : xs k x < 18446744073709551616 := xor_lt h (div_lt h)
theorem mixN_lt (x : Nat) : mixN x < 18446744073709551616 := xs_lt (Nat.mod_lt _ (by omega))
theorem xs_back {k x : Nat} (hk : 22 ≤ k) (h : x < 18446744073709551616) : xs k x ^^^ (xs k x / 2 ^ k) ^^^ (xs k x / 2 ^ (k + k)) = x := by
  refine Nat.eq_of_testBit_eq fun i => ?_
  have h0 : x.testBit (k + (k + k + i)) = false := Nat.testBit_lt_two_pow (Nat.lt_of_lt_of_le h (Nat.le_trans (by decide : 18446744073709551616 ≤ 2 ^ 66) (Nat.pow_le_pow_right (by omega) (by omega))))
  unfold xs
  rw [← Nat.shiftRight_eq_div_pow, ← Nat.shiftRight_eq_div_pow, ← Nat.shiftRight_eq_div_pow]
  simp only [Nat.testBit_xor, Nat.testBit_shiftRight]
  rw [h0, show k + (k + i) = k + k + i by omega]
  cases x.testBit i <;> cases x.testBit (k + i) <;> cases x.testBit (k + k + i) <;> rfl
theorem xs_inj {k x y : Nat} (hk : 22 ≤ k) (hx : x < 18446744073709551616) (hy : y < 18446744073709551616) (e : xs k x = xs k y) : x = y := by
  rw [← xs_back hk hx, e, xs_back hk hy]
theorem mul_inj {c d x y : Nat} (hcd : c * d % 18446744073709551616 = 1) (hx : x < 18446744073709551616) (hy : y < 18446744073709551616) (e : x * c % 18446744073709551616 = y * c % 18446744073709551616) : x = y := by
  have key : ∀ z, z < 18446744073709551616 → z * c % 18446744073709551616 * d % 18446744073709551616 = z := by
    intro z hz
    rw [Nat.mod_mul_mod, Nat.mul_assoc, Nat.mul_mod, hcd, Nat.mul_one, Nat.mod_mod, Nat.mod_eq_of_lt hz]
  rw [← key x hx, e, key y hy]
theorem mod_lt64 (x : Nat) : x % 18446744073709551616 < 18446744073709551616 := Nat.mod_lt _ (by decide)
theorem mixN_inj {x y : Nat} (hx : x < 18446744073709551616) (hy : y < 18446744073709551616) (e : mixN x = mixN y) : x = y := by
  unfold mixN at e
  have e1 := xs_inj (k := 31) (by decide) (mod_lt64 _) (mod_lt64 _) e
  have e2 := mul_inj (c := 10723151780598845931) (d := 3573116690164977347) (by decide +kernel) (xs_lt (mod_lt64 _)) (xs_lt (mod_lt64 _)) e1
  have e3 := xs_inj (k := 27) (by decide) (mod_lt64 _) (mod_lt64 _) e2
  have e4 := mul_inj (c := 13787848793156543929) (d := 10871156337175269513) (by decide +kernel) (xs_lt hx) (xs_lt hy) e3
  exact xs_inj (k := 30) (by decide) hx hy e4
theorem mixN_0 : mixN 0 = 0 := by decide +kernel
theorem mixN_1 : mixN 1 ≠ 0 := fun e => by have := mixN_inj (x := 1) (y := 0) (by omega) (by omega) (e.trans mixN_0.symm); omega

/-- What a round makes of a word. -/
def rndN (key r v : Nat) : Nat := mixN (((key + v * 11400714819323198485 % 18446744073709551616) % 18446744073709551616 + r * 15111065706836454659 % 18446744073709551616) % 18446744073709551616) / 1048576
/-- Halves behind a round. -/
def trnN (key r : Nat) (p : Nat × Nat) : Nat × Nat := if r % 2 = 0 then (p.1 ^^^ rndN key r p.2 % 2147483648, p.2) else (p.1, p.2 ^^^ rndN key r p.1 % 1073741824)
def Dom (p : Nat × Nat) : Prop := p.1 < 2147483648 ∧ p.2 < 1073741824
theorem trn_dom {key r : Nat} {p : Nat × Nat} (h : Dom p) : Dom (trnN key r p) := by
  unfold trnN
  split
  · exact ⟨Nat.xor_lt_two_pow (n := 31) h.1 (Nat.mod_lt _ (by omega)), h.2⟩
  · exact ⟨h.1, Nat.xor_lt_two_pow (n := 30) h.2 (Nat.mod_lt _ (by omega))⟩
theorem trn_back (key r : Nat) (p : Nat × Nat) : trnN key r (trnN key r p) = p := by
  unfold trnN
  split <;> simp [Nat.xor_assoc]
def goes (key : Nat) (rs : List Nat) (p : Nat × Nat) : Nat × Nat := rs.foldl (fun q r => trnN key r q) p
theorem goes_snoc (key : Nat) (rs : List Nat) (r : Nat) (p : Nat × Nat) : goes key (rs ++ [r]) p = trnN key r (goes key rs p) := by simp [goes]
theorem goes_dom {key : Nat} {rs : List Nat} {p : Nat × Nat} (h : Dom p) : Dom (goes key rs p) := by
  induction rs generalizing p with
  | nil => exact h
  | cons r rs ih => exact ih (trn_dom h)
theorem goes_back (key : Nat) (rs : List Nat) (p : Nat × Nat) : goes key rs.reverse (goes key rs p) = p := by
  induction rs generalizing p with
  | nil => rfl
  | cons r rs ih =>
    rw [List.reverse_cons, goes_snoc]
    show trnN key r (goes key rs.reverse (goes key rs (trnN key r p))) = p
    rw [ih, trn_back]
/-- The rounds, from the first on or back. -/
def rs (back : Bool) : List Nat := if back then [7, 6, 5, 4, 3, 2, 1, 0] else [0, 1, 2, 3, 4, 5, 6, 7]
theorem rs_back (b : Bool) : (rs b).reverse = rs !b := by cases b <;> rfl
def splitN (n : Nat) : Nat × Nat := (n / 1073741824 % 2147483648, n % 1073741824)
def joinN (p : Nat × Nat) : Nat := p.1 * 1073741824 + p.2
theorem split_dom (n : Nat) : Dom (splitN n) := ⟨Nat.mod_lt _ (by omega), Nat.mod_lt _ (by omega)⟩
theorem split_join {p : Nat × Nat} (h : Dom p) : splitN (joinN p) = p := by
  obtain ⟨a, b⟩ := p
  obtain ⟨h1, h2⟩ := h
  simp only at h1 h2
  simp only [splitN, joinN, Prod.mk.injEq]
  omega
theorem join_split (n : Nat) : joinN (splitN n) = n % 2305843009213693952 := by simp only [splitN, joinN]; omega
theorem join_lt {p : Nat × Nat} (h : Dom p) : joinN p < 2305843009213693952 := by
  obtain ⟨h1, h2⟩ := h
  simp only [joinN]; omega
theorem split_mod (n : Nat) : splitN (n % 2305843009213693952) = splitN n := by simp only [splitN, Prod.mk.injEq]; omega
def nameN (key n : Nat) : Nat := joinN (goes key (rs false) (splitN n)) + 1
def numN (key m : Nat) : Nat := joinN (goes key (rs true) (splitN ((m + 18446744073709551615) % 18446744073709551616)))
theorem name_lo (key n : Nat) : 1 ≤ nameN key n := by unfold nameN; omega
theorem name_hi (key n : Nat) : nameN key n ≤ 2305843009213693952 := by have := join_lt (goes_dom (key := key) (rs := rs false) (split_dom n)); unfold nameN; omega
theorem num_lt (key n : Nat) : numN key n < 2305843009213693952 := join_lt (goes_dom (split_dom _))
theorem num_name (key n : Nat) : numN key (nameN key n) = n % 2305843009213693952 := by
  have hd := goes_dom (key := key) (rs := rs false) (split_dom n)
  have hl := join_lt hd
  unfold numN nameN
  rw [show (joinN (goes key (rs false) (splitN n)) + 1 + 18446744073709551615) % 18446744073709551616 = joinN (goes key (rs false) (splitN n)) by omega, split_join hd]
  rw [show rs true = (rs false).reverse from rfl, goes_back, join_split]
theorem name_num {key m : Nat} (hm : m < 18446744073709551616) : nameN key (numN key m) = (m + 18446744073709551615) % 18446744073709551616 % 2305843009213693952 + 1 := by
  unfold numN nameN
  rw [split_join (goes_dom (split_dom _)), show rs false = (rs true).reverse from rfl, goes_back, join_split]
theorem name_mod (key n : Nat) : nameN key (n % 2305843009213693952) = nameN key n := by unfold nameN; rw [split_mod]
theorem name_inj {key n m : Nat} (e : nameN key n = nameN key m) : n % 2305843009213693952 = m % 2305843009213693952 := by
  rw [← num_name key n, e, num_name]
theorem name_iff (key n m : Nat) : (nameN key n == nameN key m) = (n % 2305843009213693952 == m % 2305843009213693952) := by
  rw [Bool.eq_iff_iff, beq_iff_eq, beq_iff_eq]
  exact ⟨name_inj, fun e => by rw [← name_mod key n, e, name_mod]⟩
/-- A number's lower 61 bits decide its halves. -/
theorem split_of {n m : Nat} (h : n % 2305843009213693952 = m % 2305843009213693952) : splitN n = splitN m := by rw [← split_mod, h, split_mod]
theorem other_iff (key other n : Nat) : (numN other (nameN key n) == n % 2305843009213693952) = (nameN other n == nameN key n) := by
  rw [Bool.eq_iff_iff, beq_iff_eq, beq_iff_eq]
  have h1 := name_lo key n
  have h2 := name_hi key n
  constructor
  · intro e
    rw [← name_mod other n, ← e, name_num (by omega)]
    omega
  · intro e
    rw [← e, num_name]
end Go.Proofs.Ytjgdafpciilfeaa.Pm
