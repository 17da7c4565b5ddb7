/-
  DEFINED AND PROVED HERE: instructions as rows of integers: which parts an operation uses, which are fit, their words, and the instruction of a word. No condition.
-/
import Derived.Test.YtnghendglcblkaaGreatDoorRows
import Derived.WalkKit
namespace Go.Proofs.YtnghendglcblkaaGreatDoor
namespace Ins

/-- The letters that an operation uses. -/
def shp (op : Int) : List UInt8 :=
  if op = 1 ∨ op = 2 ∨ op = 19 ∨ op = 20 ∨ op = 21 then [97, 105]
  else if op = 3 then [97, 98]
  else if op = 4 ∨ op = 5 ∨ op = 6 ∨ op = 7 ∨ op = 8 ∨ op = 9 ∨ op = 10 ∨ op = 11 ∨ op = 12 ∨ op = 13 ∨ op = 15 ∨ op = 16 ∨ op = 17 then [97, 98, 99]
  else if op = 14 ∨ op = 23 ∨ op = 24 then [97, 98, 105]
  else if op = 18 ∨ op = 25 then [105]
  else if op = 22 then [97]
  else []
def shS (op : Int) : ByteArray := ⟨(shp op).toArray⟩
theorem shp_cases (op : Int) : shp op = [97, 105] ∨ shp op = [97, 98] ∨ shp op = [97, 98, 99] ∨ shp op = [97, 98, 105] ∨ shp op = [105] ∨ shp op = [97] ∨ shp op = [] := by
  unfold shp
  repeat' split
  all_goals simp
/-- Does it use that letter? -/
def us (op : Int) (c : UInt8) : Bool := (shp op).contains c
def rg (n : Int) (u : Bool) : Bool := n == 0 || (u && decide (0 < n) && decide (n < 16))
def opB (op : Int) : Bool := decide (0 ≤ op) && decide (op < 26)
def fitB (op a b c i : Int) : Bool := opB op && rg a (us op 97) && rg b (us op 98) && rg c (us op 99) && (i == 0 || us op 105)
/-- A fit instruction's word. -/
def encI (op a b c i : Int) : Int := op + a * 256 + b * 4096 + c * 65536 + (i % 4294967296) * 4294967296
def wordI (op a b c i : Int) : Int := if fitB op a b c i then encI op a b c i else 0
/-- A word's parts. -/
def fOp (w : Int) : Int := w % 256
def fA (w : Int) : Int := w / 256 % 16
def fB (w : Int) : Int := w / 4096 % 16
def fC (w : Int) : Int := w / 65536 % 16
def fI (w : Int) : Int := if w / 4294967296 < 2147483648 then w / 4294967296 else w / 4294967296 - 4294967296
def fitW (w : Int) : Bool := fitB (fOp w) (fA w) (fB w) (fC w) (fI w)
def decB (w : Int) : Bool := fitW w && decide (w / 1048576 % 4096 = 0)

theorem rg_bounds {n : Int} {u : Bool} (h : rg n u = true) : 0 ≤ n ∧ n < 16 := by
  unfold rg at h
  simp at h
  omega
theorem fit_bounds {op a b c i : Int} (h : fitB op a b c i = true) : (0 ≤ op ∧ op < 26) ∧ (0 ≤ a ∧ a < 16) ∧ (0 ≤ b ∧ b < 16) ∧ (0 ≤ c ∧ c < 16) := by
  simp only [fitB, opB, Bool.and_eq_true, decide_eq_true_eq] at h
  exact ⟨h.1.1.1.1, rg_bounds h.1.1.1.2, rg_bounds h.1.1.2, rg_bounds h.1.2⟩
theorem fI_mod {w : Int} (h0 : 0 ≤ w) (h1 : w < 18446744073709551616) : fI w % 4294967296 = w / 4294967296 := by
  unfold fI; split <;> omega
theorem enc_fields {w : Int} (h0 : 0 ≤ w) (h1 : w < 18446744073709551616) : encI (fOp w) (fA w) (fB w) (fC w) (fI w) + w / 1048576 % 4096 * 1048576 = w := by
  unfold encI fOp fA fB fC
  rw [fI_mod h0 h1]
  omega
theorem enc_iff {w : Int} (h0 : 0 ≤ w) (h1 : w < 18446744073709551616) : encI (fOp w) (fA w) (fB w) (fC w) (fI w) = w ↔ w / 1048576 % 4096 = 0 := by
  have := enc_fields h0 h1
  omega
theorem enc_bounds {op a b c i : Int} (ho : 0 ≤ op ∧ op < 26) (ha : 0 ≤ a ∧ a < 16) (hb : 0 ≤ b ∧ b < 16) (hc : 0 ≤ c ∧ c < 16) : 0 ≤ encI op a b c i ∧ encI op a b c i < 18446744073709551616 := by
  unfold encI; omega
theorem fields_enc {op a b c i : Int} (ho : 0 ≤ op ∧ op < 26) (ha : 0 ≤ a ∧ a < 16) (hb : 0 ≤ b ∧ b < 16) (hc : 0 ≤ c ∧ c < 16) (hi : -2147483648 ≤ i ∧ i < 2147483648) :
    fOp (encI op a b c i) = op ∧ fA (encI op a b c i) = a ∧ fB (encI op a b c i) = b ∧ fC (encI op a b c i) = c ∧ fI (encI op a b c i) = i ∧ encI op a b c i / 1048576 % 4096 = 0 := by
  obtain ⟨m, hm⟩ : ∃ m, m = i % 4294967296 := ⟨_, rfl⟩
  have e : encI op a b c i = op + a * 256 + b * 4096 + c * 65536 + m * 4294967296 := by rw [hm]; rfl
  rw [e]
  unfold fOp fA fB fC fI
  refine ⟨by omega, by omega, by omega, by omega, ?_, by omega⟩
  have e2 : (op + a * 256 + b * 4096 + c * 65536 + m * 4294967296) / 4294967296 = m := by omega
  rw [e2]
  split <;> omega
theorem fields_bounds {w : Int} (h0 : 0 ≤ w) (h1 : w < 18446744073709551616) : (0 ≤ fOp w ∧ fOp w < 256) ∧ (0 ≤ fA w ∧ fA w < 16) ∧ (0 ≤ fB w ∧ fB w < 16) ∧ (0 ≤ fC w ∧ fC w < 16) ∧ (-2147483648 ≤ fI w ∧ fI w < 2147483648) := by
  unfold fOp fA fB fC fI
  refine ⟨by omega, by omega, by omega, by omega, ?_⟩
  split <;> omega
end Ins
end Go.Proofs.YtnghendglcblkaaGreatDoor
