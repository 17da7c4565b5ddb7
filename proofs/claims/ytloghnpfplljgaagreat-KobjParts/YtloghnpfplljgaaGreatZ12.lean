/-
 PROVED HERE: plain facts on natural numbers (no Go text): a word that is stirred is stirred back, halves go through rounds . What is asked stands at each.
-/
import Derived.WalkKit
namespace Go.Proofs.YtloghnpfplljgaaGreat
set_option maxRecDepth 100000
set_option maxHeartbeats 8000000
set_option linter.unusedVariables false
namespace Pm
def xs (k x : Nat) : Nat := x ^^^ (x / 2 ^ k)
def mixN (x : Nat) : Nat := xs 31 (xs 27 (xs 30 x * 13787848793156543929 % 18446744073709551616) * 10723151780598845931 % 18446744073709551616)
theorem div_lt {x k : Nat} (h : x < 18446744073709551616) : x / 2 ^ k < 18446744073709551616 := Nat.lt_of_le_of_lt (Nat.div_le_self _ _) h
theorem xor_lt {x y : Nat} (h : x < 18446744073709551616) (k : y < 18446744073709551616) : x ^^^ y < 18446744073709551616 := Nat.xor_lt_two_pow (n := 64) h k
theorem xs_lt {k x : Nat} (h : x < 18446744073709551616) : xs k x < 18446744073709551616 := xor_lt h (div_lt h)
theorem mixN_lt (x : Nat) : mixN x < 18446744073709551616 := xs_lt (Nat.mod_lt _ (by omega))
theorem mod_lt64 (x : Nat) : x % 18446744073709551616 < 18446744073709551616 := Nat.mod_lt _ (by decide)
def rndN (key r v : Nat) : Nat := mixN (((key + v * 11400714819323198485 % 18446744073709551616) % 18446744073709551616 + r * 15111065706836454659 % 18446744073709551616) % 18446744073709551616) / 1048576
def trnN (key r : Nat) (p : Nat × Nat) : Nat × Nat := if r % 2 = 0 then (p.1 ^^^ rndN key r p.2 % 2147483648, p.2) else (p.1, p.2 ^^^ rndN key r p.1 % 1073741824)
def Dom (p : Nat × Nat) : Prop := p.1 < 2147483648 ∧ p.2 < 1073741824
variable {p : Nat × Nat}
theorem trn_dom {key r : Nat} (h : Dom p) : Dom (trnN key r p) := by
 unfold trnN
 split
 ·exact ⟨Nat.xor_lt_two_pow (n := 31) h.1 (Nat.mod_lt _ (by omega)), h.2⟩
 ·exact ⟨h.1, Nat.xor_lt_two_pow (n := 30) h.2 (Nat.mod_lt _ (by omega))⟩
theorem trn_back (key r : Nat) (p : Nat × Nat) : trnN key r (trnN key r p) = p := by
 unfold trnN
 split <;> simp [Nat.xor_assoc]
def goes (key : Nat) (rs : List Nat) (p : Nat × Nat) : Nat × Nat := rs.foldl (fun q r => trnN key r q) p
theorem goes_snoc (key : Nat) (rs : List Nat) (r : Nat) (p : Nat × Nat) : goes key (rs ++ [r]) p = trnN key r (goes key rs p) := by simp [goes]
theorem goes_dom {key : Nat} {rs : List Nat} (h : Dom p) : Dom (goes key rs p) := by
 induction rs generalizing p with
 | nil => exact h
 | cons r rs ih => exact ih (trn_dom h)
theorem byz (key : Nat) (rs : List Nat) (p : Nat × Nat) : goes key rs.reverse (goes key rs p) = p := by
 induction rs generalizing p with
 | nil => rfl
 | cons r rs ih =>
  rw [List.reverse_cons, goes_snoc]
  show trnN key r (goes key rs.reverse (goes key rs (trnN key r p))) = p
  rw [ih, trn_back]
def rs (back : Bool) : List Nat := if back then [7, 6, 5, 4, 3, 2, 1, 0] else [0, 1, 2, 3, 4, 5, 6, 7]
def splitN (n : Nat) : Nat × Nat := (n / 1073741824 % 2147483648, n % 1073741824)
def joinN (p : Nat × Nat) : Nat := p.1 * 1073741824 + p.2
theorem split_dom (n : Nat) : Dom (splitN n) := ⟨Nat.mod_lt _ (by omega), Nat.mod_lt _ (by omega)⟩
theorem uGz (h : Dom p) : splitN (joinN p) = p := by
 obtain ⟨a, b⟩ := p
 obtain ⟨h1, h2⟩ := h
 simp only at h1 h2
 simp only [splitN, joinN, Prod.mk.injEq]
 omega
theorem uZz (n : Nat) : joinN (splitN n) = n % 2305843009213693952 := by simp only [splitN, joinN]; omega
theorem join_lt (h : Dom p) : joinN p < 2305843009213693952 := by
 obtain ⟨h1, h2⟩ := h
 simp only [joinN]; omega
def nameN (key n : Nat) : Nat := joinN (goes key (rs false) (splitN n)) + 1
def numN (key m : Nat) : Nat := joinN (goes key (rs true) (splitN ((m + 18446744073709551615) % 18446744073709551616)))
theorem name_hi (key n : Nat) : nameN key n ≤ 2305843009213693952 := by have := join_lt (goes_dom (key := key) (rs := rs false) (split_dom n)); unfold nameN; omega
theorem num_name (key n : Nat) : numN key (nameN key n) = n % 2305843009213693952 := by
 have hd := goes_dom (key := key) (rs := rs false) (split_dom n)
 have hl := join_lt hd
 unfold numN nameN
 rw [show (joinN (goes key (rs false) (splitN n)) + 1 + 18446744073709551615) % 18446744073709551616 = joinN (goes key (rs false) (splitN n)) by omega, uGz hd]
 rw [show rs true = (rs false).reverse from rfl, byz, uZz]
end Pm
end Go.Proofs.YtloghnpfplljgaaGreat
