/-
  PROVED HERE: what the laws of layer 9 ask of arguments (words are numbers; a word's halves). No condition.
-/
import Derived.Test.YtnlooiejigmlcaaAlu3
namespace Go.Proofs.Ytnlooiejigmlcaa
open Go.ChangeShapes Go.WideShapes Go.ChangeAt Go.RowKit
set_option linter.unusedVariables false

theorem word_of {a : Int} (h : (Lit.int .u64 a).wf = true) : ∃ n : Nat, a = (n : Int) ∧ Al.W n := by
  have h1 : IntKind.u64.min ≤ a ∧ a ≤ IntKind.u64.max := by simpa [Lit.wf] using h
  obtain ⟨h1, h2⟩ := h1
  have e1 : IntKind.u64.min = 0 := rfl
  have e2 : IntKind.u64.max = 18446744073709551615 := rfl
  rw [e1] at h1
  rw [e2] at h2
  exact ⟨a.toNat, by omega, by show _ < _; omega⟩
theorem half_lo' (b : Nat) : wrap32 ((b : Int) % 4294967296) = Al.halfI b := by
  unfold wrap32 Al.halfI; split <;> omega
theorem half_hi {b : Nat} (hb : Al.W b) : wrap32 ((b : Int) / 4294967296) = Al.halfI (b / 4294967296) := by
  unfold wrap32 Al.halfI Al.W at *; split <;> omega
theorem half_hi' {b : Nat} (hb : Al.W b) : wrap32 ((b : Int) / 4294967296 % 4294967296) = Al.halfI (b / 4294967296) := by
  unfold wrap32 Al.halfI Al.W at *; split <;> omega
theorem sum_one {x y z : Nat} (h : x + y + z = 1) : (IntKind.u64.wrap (IntKind.u64.wrap ((x : Int) + (y : Int)) + (z : Int)) != 1) = false := by
  rw [cut64a, cut64a, Nat.mod_add_mod, h]; rfl
theorem bneN {x y : Nat} (h : x = y) : ((x : Int) != (y : Int)) = false := by rw [h]; simp
end Go.Proofs.Ytnlooiejigmlcaa
