/-
  PROVED HERE: what operations make of words, as plain functions of numbers, and what follows of them (no program is looked at). Words are numbers below 2^64.
-/
import Derived.Test.YtnlooiejigmlcaaRows
import Derived.WalkKit
import Derived.ProofKit
import Derived.OpenShut
import Derived.Below
import Derived.Laws.BitsAllLaws
namespace Go.Proofs.Ytnlooiejigmlcaa
open Go.ChangeShapes Go.WideShapes Go.ChangeAt Go.RowKit
set_option linter.unusedVariables false
namespace Al

def addN (b c : Nat) : Nat := (b + c) % 18446744073709551616
def subN (b c : Nat) : Nat := (b + (18446744073709551616 - c)) % 18446744073709551616
def mulN (b c : Nat) : Nat := b * c % 18446744073709551616
def quoN (b c : Nat) : Nat := if c = 0 then 18446744073709551615 else b / c
def remN (b c : Nat) : Nat := b % c
def andN (b c : Nat) : Nat := b &&& c
def orN (b c : Nat) : Nat := b ||| c
def xorN (b c : Nat) : Nat := b ^^^ c
def shlN (b c : Nat) : Nat := b * 2 ^ (c % 64) % 18446744073709551616
def shrN (b c : Nat) : Nat := b / 2 ^ (c % 64)
def eqN (b c : Nat) : Nat := if b = c then 1 else 0
def ltuN (b c : Nat) : Nat := if b < c then 1 else 0
/-- A word as a number, moved up by 2^63. -/
def upN (b : Nat) : Nat := (b + 9223372036854775808) % 18446744073709551616
def ltsN (b c : Nat) : Nat := if upN b < upN c then 1 else 0
def movhN (a : Nat) (i : Int) : Nat := a % 4294967296 + (i % 4294967296).toNat * 4294967296
def extN (i : Int) : Nat := (i % 18446744073709551616).toNat

def doN (op : Int) (b c : Nat) : Nat :=
  if op = 4 then addN b c else if op = 5 then subN b c else if op = 6 then mulN b c else if op = 7 then quoN b c else if op = 8 then remN b c
  else if op = 9 then andN b c else if op = 10 then orN b c else if op = 11 then xorN b c else if op = 12 then shlN b c else if op = 13 then shrN b c
  else if op = 15 then eqN b c else if op = 16 then ltuN b c else if op = 17 then ltsN b c else 0
def okB (op : Int) : Bool := (decide (4 ≤ op) && decide (op ≤ 13)) || (decide (15 ≤ op) && decide (op ≤ 17))

abbrev W (b : Nat) : Prop := b < 18446744073709551616

theorem and_add_or : ∀ n b c : Nat, b < 2 ^ n → c < 2 ^ n → (b &&& c) + (b ||| c) = b + c := by
  intro n
  induction n with
  | zero => intro b c hb hc; have : b = 0 := by omega
            have : c = 0 := by omega
            subst b; subst c; rfl
  | succ n ih =>
    intro b c hb hc
    have hp : 2 ^ (n + 1) = 2 * 2 ^ n := by rw [Nat.pow_succ]; omega
    have h := ih (b / 2) (c / 2) (by omega) (by omega)
    have a1 := @Nat.and_div_two b c
    have o1 := @Nat.or_div_two b c
    have a2 : (b &&& c) % 2 = (b % 2) &&& (c % 2) := by have := @Nat.and_mod_two_pow b c 1; simpa using this
    have o2 : (b ||| c) % 2 = (b % 2) ||| (c % 2) := by have := @Nat.or_mod_two_pow b c 1; simpa using this
    have m : ((b % 2) &&& (c % 2)) + ((b % 2) ||| (c % 2)) = b % 2 + c % 2 := by
      rcases Nat.mod_two_eq_zero_or_one b with h | h <;> rcases Nat.mod_two_eq_zero_or_one c with k | k <;> rw [h, k] <;> rfl
    omega
theorem xor_add_and : ∀ n b c : Nat, b < 2 ^ n → c < 2 ^ n → (b ^^^ c) + 2 * (b &&& c) = b + c := by
  intro n
  induction n with
  | zero => intro b c hb hc; have : b = 0 := by omega
            have : c = 0 := by omega
            subst b; subst c; rfl
  | succ n ih =>
    intro b c hb hc
    have hp : 2 ^ (n + 1) = 2 * 2 ^ n := by rw [Nat.pow_succ]; omega
    have h := ih (b / 2) (c / 2) (by omega) (by omega)
    have a1 := @Nat.and_div_two b c
    have o1 := @Nat.xor_div_two b c
    have a2 : (b &&& c) % 2 = (b % 2) &&& (c % 2) := by have := @Nat.and_mod_two_pow b c 1; simpa using this
    have o2 : (b ^^^ c) % 2 = (b % 2) ^^^ (c % 2) := by have := @Nat.xor_mod_two_pow b c 1; simpa using this
    have m : ((b % 2) ^^^ (c % 2)) + 2 * ((b % 2) &&& (c % 2)) = b % 2 + c % 2 := by
      rcases Nat.mod_two_eq_zero_or_one b with h | h <;> rcases Nat.mod_two_eq_zero_or_one c with k | k <;> rw [h, k] <;> rfl
    omega
theorem and_top {b : Nat} (hb : W b) : b &&& 9223372036854775808 = b / 9223372036854775808 * 9223372036854775808 := by
  have h1 : b &&& 9223372036854775807 = b % 9223372036854775808 := Nat.and_two_pow_sub_one_eq_mod b 63
  have h2 : b &&& 18446744073709551615 = b % 18446744073709551616 := Nat.and_two_pow_sub_one_eq_mod b 64
  have h3 : (b &&& 9223372036854775807) ||| (b &&& 9223372036854775808) = b &&& 18446744073709551615 := by rw [← Nat.and_or_distrib_left]; rfl
  have h4 : (b &&& 9223372036854775807) &&& (b &&& 9223372036854775808) = 0 := by
    have e : (b &&& 9223372036854775807) &&& (b &&& 9223372036854775808) = (b &&& b) &&& (9223372036854775807 &&& 9223372036854775808) := by ac_rfl
    rw [e, show (9223372036854775807 &&& 9223372036854775808 : Nat) = 0 from rfl, Nat.and_zero]
  have h5 := and_add_or 64 (b &&& 9223372036854775807) (b &&& 9223372036854775808) (Nat.lt_of_le_of_lt Nat.and_le_left hb) (Nat.lt_of_le_of_lt Nat.and_le_left hb)
  rw [h3, h4, h1, h2] at h5
  unfold W at hb
  omega
theorem xor_top {b : Nat} (hb : W b) : b ^^^ 9223372036854775808 = upN b := by
  have h := xor_add_and 64 b 9223372036854775808 hb (by omega)
  rw [and_top hb] at h
  unfold upN
  unfold W at hb
  omega

theorem add_lt (b c : Nat) : W (addN b c) := Nat.mod_lt _ (by omega)
theorem sub_lt (b c : Nat) : W (subN b c) := Nat.mod_lt _ (by omega)
theorem mul_lt (b c : Nat) : W (mulN b c) := Nat.mod_lt _ (by omega)
theorem shl_lt (b c : Nat) : W (shlN b c) := Nat.mod_lt _ (by omega)
theorem quo_lt {b : Nat} (hb : W b) (c : Nat) : W (quoN b c) := by
  unfold quoN; split
  · show _ < _; omega
  · exact Nat.lt_of_le_of_lt (Nat.div_le_self _ _) hb
theorem shr_lt {b : Nat} (hb : W b) (c : Nat) : W (shrN b c) := Nat.lt_of_le_of_lt (Nat.div_le_self _ _) hb
theorem rem_lt {b : Nat} (hb : W b) (c : Nat) : W (remN b c) := Nat.lt_of_le_of_lt (Nat.mod_le _ _) hb
theorem and_lt {b c : Nat} (hb : W b) (hc : W c) : W (andN b c) := Nat.lt_of_le_of_lt Nat.and_le_left hb
theorem or_lt {b c : Nat} (hb : W b) (hc : W c) : W (orN b c) := Nat.or_lt_two_pow (n := 64) hb hc
theorem xor_lt {b c : Nat} (hb : W b) (hc : W c) : W (xorN b c) := Nat.xor_lt_two_pow (n := 64) hb hc
theorem eq_lt (b c : Nat) : W (eqN b c) := by unfold eqN; split <;> (show _ < _; omega)
theorem ltu_lt (b c : Nat) : W (ltuN b c) := by unfold ltuN; split <;> (show _ < _; omega)
theorem lts_lt (b c : Nat) : W (ltsN b c) := by unfold ltsN; split <;> (show _ < _; omega)
theorem do4 (b c : Nat) : doN 4 b c = addN b c := by unfold doN; simp
theorem do5 (b c : Nat) : doN 5 b c = subN b c := by unfold doN; simp
theorem do6 (b c : Nat) : doN 6 b c = mulN b c := by unfold doN; simp
theorem do7 (b c : Nat) : doN 7 b c = quoN b c := by unfold doN; simp
theorem do8 (b c : Nat) : doN 8 b c = remN b c := by unfold doN; simp
theorem do9 (b c : Nat) : doN 9 b c = andN b c := by unfold doN; simp
theorem do10 (b c : Nat) : doN 10 b c = orN b c := by unfold doN; simp
theorem do11 (b c : Nat) : doN 11 b c = xorN b c := by unfold doN; simp
theorem do12 (b c : Nat) : doN 12 b c = shlN b c := by unfold doN; simp
theorem do13 (b c : Nat) : doN 13 b c = shrN b c := by unfold doN; simp
theorem do15 (b c : Nat) : doN 15 b c = eqN b c := by unfold doN; simp
theorem do16 (b c : Nat) : doN 16 b c = ltuN b c := by unfold doN; simp
theorem do17 (b c : Nat) : doN 17 b c = ltsN b c := by unfold doN; simp
theorem do_lt (op : Int) {b c : Nat} (hb : W b) (hc : W c) : W (doN op b c) := by
  by_cases h4 : op = 4
  · subst h4; rw [do4]; exact add_lt _ _
  by_cases h5 : op = 5
  · subst h5; rw [do5]; exact sub_lt _ _
  by_cases h6 : op = 6
  · subst h6; rw [do6]; exact mul_lt _ _
  by_cases h7 : op = 7
  · subst h7; rw [do7]; exact quo_lt hb _
  by_cases h8 : op = 8
  · subst h8; rw [do8]; exact rem_lt hb _
  by_cases h9 : op = 9
  · subst h9; rw [do9]; exact and_lt hb hc
  by_cases h10 : op = 10
  · subst h10; rw [do10]; exact or_lt hb hc
  by_cases h11 : op = 11
  · subst h11; rw [do11]; exact xor_lt hb hc
  by_cases h12 : op = 12
  · subst h12; rw [do12]; exact shl_lt _ _
  by_cases h13 : op = 13
  · subst h13; rw [do13]; exact shr_lt hb _
  by_cases h15 : op = 15
  · subst h15; rw [do15]; exact eq_lt _ _
  by_cases h16 : op = 16
  · subst h16; rw [do16]; exact ltu_lt _ _
  by_cases h17 : op = 17
  · subst h17; rw [do17]; exact lts_lt _ _
  unfold doN
  rw [if_neg h4, if_neg h5, if_neg h6, if_neg h7, if_neg h8, if_neg h9, if_neg h10, if_neg h11, if_neg h12, if_neg h13, if_neg h15, if_neg h16, if_neg h17]
  show _ < _; omega

/-! P9.3, P9.4 -/
theorem back_add {b c : Nat} (hb : W b) (hc : W c) : doN 5 (doN 4 b c) c = b := by
  show subN (addN b c) c = b
  unfold subN addN W at *; omega
theorem back_quo {b c : Nat} (hb : W b) (hc : W c) (h : c ≠ 0) : doN 4 (doN 6 (doN 7 b c) c) (doN 8 b c) = b := by
  show addN (mulN (quoN b c) c) (remN b c) = b
  unfold addN mulN quoN remN
  rw [if_neg h]
  have h1 : b / c * c ≤ b := Nat.div_mul_le_self b c
  have h2 := Nat.div_add_mod' b c
  unfold W at *
  rw [Nat.mod_eq_of_lt (by omega : b / c * c < 18446744073709551616), h2]; omega
theorem back_rest {b c : Nat} (h : c ≠ 0) : doN 16 (doN 8 b c) c = 1 := by
  show ltuN (remN b c) c = 1
  unfold ltuN remN; rw [if_pos (Nat.mod_lt _ (by omega))]
theorem quo_zero (b : Nat) : doN 7 b 0 = 18446744073709551615 := rfl
theorem rem_zero (b : Nat) : doN 8 b 0 = b := Nat.mod_zero b

theorem just_u (b c : Nat) : doN 16 b c + doN 16 c b + doN 15 b c = 1 := by
  rw [do16, do16, do15]
  unfold ltuN eqN
  split <;> split <;> split <;> omega
theorem just_s {b c : Nat} (hb : W b) (hc : W c) : doN 17 b c + doN 17 c b + doN 15 b c = 1 := by
  rw [do17, do17, do15]
  unfold ltsN eqN upN W at *
  split <;> split <;> split <;> omega
theorem lts_ltu {b c : Nat} (hb : W b) (hc : W c) : doN 17 b c = doN 16 (doN 11 b 9223372036854775808) (doN 11 c 9223372036854775808) := by
  rw [do17, do16, do11, do11]; unfold xorN
  rw [xor_top hb, xor_top hc]; rfl
theorem and_or {b c : Nat} (hb : W b) (hc : W c) : doN 4 (doN 9 b c) (doN 10 b c) = doN 4 b c := by
  show addN (b &&& c) (b ||| c) = addN b c
  unfold addN; rw [and_add_or 64 b c hb hc]
theorem xor_xor (b c : Nat) : doN 11 (doN 11 b c) c = b := by
  show b ^^^ c ^^^ c = b
  rw [Nat.xor_assoc, Nat.xor_self, Nat.xor_zero]
theorem and63 (c : Nat) : doN 9 c 63 = c % 64 := Nat.and_two_pow_sub_one_eq_mod c 6
theorem pow_lt (c : Nat) : 2 ^ (c % 64) < 18446744073709551616 := Nat.pow_lt_pow_right (a := 2) (n := 64) (by omega) (Nat.mod_lt _ (by omega))
theorem one_shl (c : Nat) : doN 12 1 (doN 9 c 63) = 2 ^ (c % 64) := by
  rw [and63, do12]; unfold shlN
  rw [Nat.mod_mod, Nat.one_mul, Nat.mod_eq_of_lt (pow_lt c)]
theorem shl_mul (b c : Nat) : doN 12 b c = doN 6 b (doN 12 1 (doN 9 c 63)) := by rw [one_shl, do12, do6]; unfold shlN mulN; rfl
theorem shr_quo (b c : Nat) : doN 13 b c = doN 7 b (doN 12 1 (doN 9 c 63)) := by
  rw [one_shl, do13, do7]; unfold shrN quoN; rw [if_neg (by have := Nat.one_le_two_pow (n := c % 64); omega)]

theorem mul_add (a b c : Nat) : doN 6 a (doN 4 b c) = doN 4 (doN 6 a b) (doN 6 a c) := by
  rw [do6, do6, do6, do4, do4]; unfold mulN addN
  rw [Nat.mul_mod_mod, Nat.mul_add, ← Nat.add_mod]
theorem and_xor (a b c : Nat) : doN 9 a (doN 11 b c) = doN 11 (doN 9 a b) (doN 9 a c) := Nat.and_xor_distrib_left
theorem or_and (a b c : Nat) : doN 10 a (doN 9 b c) = doN 9 (doN 10 a b) (doN 10 a c) := Nat.or_and_distrib_left a b c
/-- The five operations that hang on no order. -/
def opK (k : Nat) : Int := if k = 0 then 4 else if k = 1 then 6 else if k = 2 then 9 else if k = 3 then 10 else 11
theorem opK_cases (k : Nat) : opK k = 4 ∨ opK k = 6 ∨ opK k = 9 ∨ opK k = 10 ∨ opK k = 11 := by unfold opK; omega
theorem comm (k a b : Nat) : doN (opK k) a b = doN (opK k) b a := by
  rcases opK_cases k with h | h | h | h | h <;> rw [h]
  · show addN a b = addN b a; unfold addN; rw [Nat.add_comm]
  · show mulN a b = mulN b a; unfold mulN; rw [Nat.mul_comm]
  · exact Nat.and_comm a b
  · exact Nat.or_comm a b
  · exact Nat.xor_comm a b
theorem assoc (k a b c : Nat) : doN (opK k) a (doN (opK k) b c) = doN (opK k) (doN (opK k) a b) c := by
  rcases opK_cases k with h | h | h | h | h <;> rw [h]
  · rw [do4, do4, do4, do4]; unfold addN; rw [Nat.add_mod_mod, Nat.mod_add_mod, Nat.add_assoc]
  · rw [do6, do6, do6, do6]; unfold mulN; rw [Nat.mul_mod_mod, Nat.mod_mul_mod, Nat.mul_assoc]
  · exact (Nat.and_assoc a b c).symm
  · exact (Nat.or_assoc a b c).symm
  · exact (Nat.xor_assoc a b c).symm
theorem shl_one (a c : Nat) : doN 12 a (c % 63 + 1) = doN 4 (doN 12 a (c % 63)) (doN 12 a (c % 63)) := by
  have h : c % 63 < 63 := Nat.mod_lt _ (by omega)
  rw [do12, do12, do4]; unfold shlN addN
  rw [Nat.mod_eq_of_lt (by omega : c % 63 + 1 < 64), Nat.mod_eq_of_lt (by omega : c % 63 < 64), ← Nat.add_mod, Nat.pow_succ, ← Nat.mul_assoc]
  congr 1; omega
theorem shl_mod (a c : Nat) : doN 12 a c = doN 12 a (c % 64) := by
  rw [do12, do12]; unfold shlN; rw [Nat.mod_mod]

/-- A half of a word as a number. -/
def halfI (n : Nat) : Int := if n % 4294967296 < 2147483648 then (n % 4294967296 : Nat) else (n % 4294967296 : Nat) - 4294967296
theorem halves {b : Nat} (hb : W b) : movhN (extN (halfI b)) (halfI (b / 4294967296)) = b := by
  unfold movhN extN halfI W at *
  split <;> split <;> omega
theorem movh_lt (a : Nat) (i : Int) : W (movhN a i) := by
  unfold movhN
  have h : i % 4294967296 < 4294967296 := Int.emod_lt_of_pos _ (by omega)
  have h0 : 0 ≤ i % 4294967296 := Int.emod_nonneg _ (by omega)
  show _ < _; omega
theorem ext_lt (i : Int) : W (extN i) := by
  unfold extN
  have h : i % 18446744073709551616 < 18446744073709551616 := Int.emod_lt_of_pos _ (by omega)
  show _ < _; omega
end Al
end Go.Proofs.Ytnlooiejigmlcaa
