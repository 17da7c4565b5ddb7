/-
  PROVED HERE: what each function of package alu, and its like of the document's answer, returns when it is called (contracts over this translation). No condition but that words are words.
-/
import Derived.Test.YtnlooiejigmlcaaAlu1
import Derived.Deep.RegionWith
namespace Go.Proofs.Ytnlooiejigmlcaa
open Go.ChangeShapes Go.WideShapes Go.ChangeAt Go.RowKit
set_option linter.unusedVariables false

theorem cut64 (a : Nat) : IntKind.u64.wrap (a : Int) = ((a % 18446744073709551616 : Nat) : Int) := by simp [IntKind.wrap, IntKind.bits, IntKind.signed]
theorem cut64m (a c : Nat) : IntKind.u64.wrap ((a : Int) * (c : Int)) = ((a * c % 18446744073709551616 : Nat) : Int) := by rw [← Int.natCast_mul, cut64]
theorem cut64a (a c : Nat) : IntKind.u64.wrap ((a : Int) + (c : Int)) = (((a + c) % 18446744073709551616 : Nat) : Int) := by rw [← Int.natCast_add, cut64]

theorem quo_any {b : Nat} (hb : Al.W b) (c : Nat) (w : World) :
    Calls Try.prog 15 #[.int .u64 b, .int .u64 c] w fun e w' => e = .returned (.int .u64 (Al.quoN b c : Nat)) ∧ w = w' := by
  by_cases hc : c = 0
  · subst hc
    go_enter Try.func15, Try.ntmps15
    go_wp2
    go_ret
    exact ⟨rfl, rfl⟩
  · have e : Al.quoN b c = b / c := by unfold Al.quoN; rw [if_neg hc]
    rw [e]
    go_enter Try.func15, Try.ntmps15
    go_wp2
    go_ret
    refine ⟨congrArg (fun z => Ending.returned (.int .u64 z)) (?_ : IntKind.u64.wrap ((b : Int) / (c : Int)) = ((b / c : Nat) : Int)), rfl⟩
    rw [← Int.natCast_ediv, cut64, Nat.mod_eq_of_lt (Nat.lt_of_le_of_lt (Nat.div_le_self _ _) hb)]
theorem less_any (b c : Nat) (w : World) :
    Calls Try.prog 16 #[.int .u64 b, .int .u64 c] w fun e w' => e = .returned (.int .u64 (Al.ltuN b c : Nat)) ∧ w = w' := by
  by_cases h : b < c
  · have e : Al.ltuN b c = 1 := by unfold Al.ltuN; rw [if_pos h]
    rw [e]
    go_enter Try.func16, Try.ntmps16
    go_wp2
    go_ret
    exact ⟨rfl, rfl⟩
  · have e : Al.ltuN b c = 0 := by unfold Al.ltuN; rw [if_neg h]
    rw [e]
    go_enter Try.func16, Try.ntmps16
    go_wp2
    go_ret
    exact ⟨rfl, rfl⟩
def lessI (b c : Int) : Nat := if b < c then 1 else 0
theorem lessI_any (b c : Int) (w : World) :
    Calls Try.prog 17 #[.int .i64 b, .int .i64 c] w fun e w' => e = .returned (.int .u64 (lessI b c : Nat)) ∧ w = w' := by
  by_cases h : b < c
  · have e : lessI b c = 1 := by unfold lessI; rw [if_pos h]
    rw [e]
    go_enter Try.func17, Try.ntmps17
    go_wp2
    go_ret
    exact ⟨rfl, rfl⟩
  · have e : lessI b c = 0 := by unfold lessI; rw [if_neg h]
    rw [e]
    go_enter Try.func17, Try.ntmps17
    go_wp2
    go_ret
    exact ⟨rfl, rfl⟩

theorem raw4 (b c : Nat) : IntKind.u64.wrap ((b : Int) + (c : Int)) = ((Al.doN 4 b c : Nat) : Int) := by rw [cut64a, Al.do4]; rfl
theorem raw5 {b c : Nat} (hc : Al.W c) : IntKind.u64.wrap ((b : Int) + IntKind.u64.wrap (-(c : Int))) = ((Al.doN 5 b c : Nat) : Int) := by
  rw [Al.do5, IntKind.wrap_u64, IntKind.wrap_u64]; unfold Al.subN Al.W at *; omega
theorem raw5' {b c : Nat} (hc : Al.W c) : IntKind.u64.wrap ((b : Int) - (c : Int)) = ((Al.doN 5 b c : Nat) : Int) := by
  rw [Al.do5, IntKind.wrap_u64]; unfold Al.subN Al.W at *; omega
theorem raw6 (b c : Nat) : IntKind.u64.wrap ((b : Int) * (c : Int)) = ((Al.doN 6 b c : Nat) : Int) := by rw [cut64m, Al.do6]; rfl
theorem raw8 {b c : Nat} (hb : Al.W b) (hc : Al.W c) : IntKind.u64.wrap ((b : Int) + IntKind.u64.wrap (-IntKind.u64.wrap ((c : Int) * ((Al.quoN b c : Nat) : Int)))) = ((Al.doN 8 b c : Nat) : Int) := by
  rw [Al.do8, cut64m, raw5 (Nat.mod_lt _ (by omega)), Al.do5]
  by_cases h : c = 0
  · subst h
    unfold Al.subN Al.remN; rw [Nat.zero_mul, Nat.mod_zero]; unfold Al.W at *; omega
  · have e : Al.quoN b c = b / c := by unfold Al.quoN; rw [if_neg h]
    have h1 : c * (b / c) ≤ b := Nat.mul_div_le b c
    have h2 := Nat.div_add_mod b c
    unfold Al.W at *
    rw [e, Nat.mod_eq_of_lt (by omega : c * (b / c) < 18446744073709551616)]
    unfold Al.subN Al.remN
    omega
theorem raw12 (b c : Nat) : IntKind.u64.wrap ((b : Int) * 2 ^ (c % 64)) = ((Al.doN 12 b c : Nat) : Int) := by
  rw [show (2 : Int) ^ (c % 64) = ((2 ^ (c % 64) : Nat) : Int) by simp, cut64m, Al.do12]; rfl
theorem raw13 (b c : Nat) : (b : Int) / 2 ^ (c % 64) = ((Al.doN 13 b c : Nat) : Int) := by
  rw [show (2 : Int) ^ (c % 64) = ((2 ^ (c % 64) : Nat) : Int) by simp, ← Int.natCast_ediv, Al.do13]; rfl
theorem raw15 (b c : Nat) : Al.ltuN (b ^^^ c) 1 = Al.doN 15 b c := by
  rw [Al.do15]; unfold Al.ltuN Al.eqN
  by_cases h : b = c
  · subst h; rw [Nat.xor_self]; simp
  · rw [if_neg h, if_neg]
    intro k
    have e : b ^^^ c = 0 := by omega
    refine h ?_
    have := congrArg (fun z => z ^^^ c) e
    simpa [Nat.xor_assoc] using this
theorem raw17 {b c : Nat} (hb : Al.W b) (hc : Al.W c) : lessI (wrap64 (b : Int)) (wrap64 (c : Int)) = Al.doN 17 b c := by
  rw [Al.do17]; unfold lessI Al.ltsN Al.upN wrap64 Al.W at *
  split <;> split <;> omega
end Go.Proofs.Ytnlooiejigmlcaa
