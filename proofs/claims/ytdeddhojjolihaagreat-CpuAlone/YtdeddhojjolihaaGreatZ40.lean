/-
 PROVED HERE: what each function of package alu, and its like of the document's answer, returns when it is called (contracts. What is asked stands at each.
-/
import Derived.Deep.RegionWith
import Derived.Test.YtdeddhojjolihaaGreatZ39
namespace Go.Proofs.YtdeddhojjolihaaGreat
set_option maxRecDepth 100000
set_option maxHeartbeats 8000000
set_option linter.unusedVariables false
open Go.Proofs.Tryz
section
open Go.ChangeShapes Go.WideShapes Go.ChangeAt Go.RowKit
theorem cut64 (a : Nat) : IntKind.u64.wrap (a : Int) = ((a % 18446744073709551616 : Nat) : Int) := by simp [IntKind.wrap, IntKind.bits, IntKind.signed]
theorem cut64m (a c : Nat) : IntKind.u64.wrap ((a : Int) * (c : Int)) = ((a * c % 18446744073709551616 : Nat) : Int) := by rw [← Int.natCast_mul, cut64]
theorem cut64a (a c : Nat) : IntKind.u64.wrap ((a : Int) + (c : Int)) = (((a + c) % 18446744073709551616 : Nat) : Int) := by rw [← Int.natCast_add, cut64]
theorem wpz {b : Nat} (hb : Al.W b) (c : Nat) (w : World) :
  Calls prog 126 #[.int .u64 b, .int .u64 c] w fun e w' => e = .returned (.int .u64 (Al.quoN b c : Nat)) ∧ w = w' := by
 by_cases hc : c = 0
 ·subst hc
  go_enter func126, ntmps126
  go_wp2
  go_ret
  exact ⟨rfl, rfl⟩
 ·have e : Al.quoN b c = b / c := by unfold Al.quoN; rw [if_neg hc]
  rw [e]
  go_enter func126, ntmps126
  go_wp2
  go_ret
  refine ⟨congrArg (fun z => Ending.returned (.int .u64 z)) (?_ : IntKind.u64.wrap ((b : Int) / (c : Int)) = ((b / c : Nat) : Int)), rfl⟩
  rw [← Int.natCast_ediv, cut64, Nat.mod_eq_of_lt (Nat.lt_of_le_of_lt (Nat.div_le_self _ _) hb)]
theorem wez (b c : Nat) (w : World) :
  Calls prog 127 #[.int .u64 b, .int .u64 c] w fun e w' => e = .returned (.int .u64 (Al.ltuN b c : Nat)) ∧ w = w' := by
 by_cases h : b < c
 ·have e : Al.ltuN b c = 1 := by unfold Al.ltuN; rw [if_pos h]
  rw [e]
  go_enter func127, ntmps127
  go_wp2
  go_ret
  exact ⟨rfl, rfl⟩
 ·have e : Al.ltuN b c = 0 := by unfold Al.ltuN; rw [if_neg h]
  rw [e]
  go_enter func127, ntmps127
  go_wp2
  go_ret
  exact ⟨rfl, rfl⟩
def vEz (b c : Int) : Nat := if b < c then 1 else 0
theorem qZz (b c : Int) (w : World) :
  Calls prog 128 #[.int .i64 b, .int .i64 c] w fun e w' => e = .returned (.int .u64 (vEz b c : Nat)) ∧ w = w' := by
 by_cases h : b < c
 ·have e : vEz b c = 1 := by unfold vEz; rw [if_pos h]
  rw [e]
  go_enter func128, ntmps128
  go_wp2
  go_ret
  exact ⟨rfl, rfl⟩
 ·have e : vEz b c = 0 := by unfold vEz; rw [if_neg h]
  rw [e]
  go_enter func128, ntmps128
  go_wp2
  go_ret
  exact ⟨rfl, rfl⟩
theorem raw4 (b c : Nat) : IntKind.u64.wrap ((b : Int) + (c : Int)) = ((Al.doN 4 b c : Nat) : Int) := by rw [cut64a, Al.do4]; rfl
variable {b c : Nat}
theorem raw5 (hc : Al.W c) : IntKind.u64.wrap ((b : Int) + IntKind.u64.wrap (-(c : Int))) = ((Al.doN 5 b c : Nat) : Int) := by
 rw [Al.do5, IntKind.wrap_u64, IntKind.wrap_u64]; unfold Al.subN Al.W at *; omega
theorem raw6 (b c : Nat) : IntKind.u64.wrap ((b : Int) * (c : Int)) = ((Al.doN 6 b c : Nat) : Int) := by rw [cut64m, Al.do6]; rfl
theorem raw8 (hb : Al.W b) (hc : Al.W c) : IntKind.u64.wrap ((b : Int) + IntKind.u64.wrap (-IntKind.u64.wrap ((c : Int) * ((Al.quoN b c : Nat) : Int)))) = ((Al.doN 8 b c : Nat) : Int) := by
 rw [Al.do8, cut64m, raw5 (Nat.mod_lt _ (by omega)), Al.do5]
 by_cases h : c = 0
 ·subst h
  unfold Al.subN Al.remN; rw [Nat.zero_mul, Nat.mod_zero]; unfold Al.W at *; omega
 ·have e : Al.quoN b c = b / c := by unfold Al.quoN; rw [if_neg h]
  have h1 : c * (b / c) ≤ b := Nat.mul_div_le b c
  have h2 := Nat.div_add_mod b c
  unfold Al.W at *
  rw [e, Nat.mod_eq_of_lt (by omega : c * (b / c) < 18446744073709551616)]
  unfold Al.subN Al.remN
  omega
theorem raw12 (b c : Nat) : IntKind.u64.wrap ((b : Int) * 2 ^ (c % 64)) = ((Al.doN 12 b c : Nat) : Int) := by
 rw [show (2 : Int) ^ (c % 64) = ((2 ^ (c % 64) : Nat) : Int) by simp, cut64m, Al.do12]; rfl
theorem raw13 (b c : Nat) : (b : Int) / 2 ^ (c % 64) = ((Al.doN 13 b c : Nat) : Int) := by
 rw [show (2 : Int) ^ (c % 64) = ((2 ^ (c % 64) : Nat) : Int) by simp, ← Int.natCast_ediv, Al.do13]; rfl
theorem raw15 (b c : Nat) : Al.ltuN (b ^^^ c) 1 = Al.doN 15 b c := by
 rw [Al.do15]; unfold Al.ltuN Al.eqN
 by_cases h : b = c
 ·subst h; rw [Nat.xor_self]; simp
 ·rw [if_neg h, if_neg]
  intro k
  have e : b ^^^ c = 0 := by omega
  refine h ?_
  have := congrArg (fun z => z ^^^ c) e
  simpa [Nat.xor_assoc] using this
theorem raw17 (hb : Al.W b) (hc : Al.W c) : vEz (wrap64 (b : Int)) (wrap64 (c : Int)) = Al.doN 17 b c := by
 rw [Al.do17]; unfold vEz Al.ltsN Al.upN wrap64 Al.W at *
 split <;> split <;> omega
end
section
open Go.ChangeShapes Go.WideShapes Go.ChangeAt Go.RowKit
variable {b c : Nat}
theorem ado4_any (hb : Al.W b) (hc : Al.W c) (w : World) :
  Calls prog 106 #[.int .i64 4, .int .u64 b, .int .u64 c] w fun e w' => e = .returned (.tuple #[.int .u64 (Al.doN 4 b c : Nat), .bool true]) ∧ w = w' := by
 go_enter func106, ntmps106
 go_wp2_with (first | (go_at_call 126; refine (wpz hb _ _).mono ?_; rintro e w1 ⟨rfl, rfl⟩) | (go_at_call 127; refine (wez _ _ _).mono ?_; rintro e w1 ⟨rfl, rfl⟩) | (go_at_call 128; refine (qZz _ _ _).mono ?_; rintro e w1 ⟨rfl, rfl⟩))
 go_ret2
 refine ⟨congrArg (fun z => Ending.returned (.tuple #[.int .u64 z, .bool true])) ?_, rfl⟩
 exact raw4 b c
theorem ado5_any (hb : Al.W b) (hc : Al.W c) (w : World) :
  Calls prog 106 #[.int .i64 5, .int .u64 b, .int .u64 c] w fun e w' => e = .returned (.tuple #[.int .u64 (Al.doN 5 b c : Nat), .bool true]) ∧ w = w' := by
 go_enter func106, ntmps106
 go_wp2_with (first | (go_at_call 126; refine (wpz hb _ _).mono ?_; rintro e w1 ⟨rfl, rfl⟩) | (go_at_call 127; refine (wez _ _ _).mono ?_; rintro e w1 ⟨rfl, rfl⟩) | (go_at_call 128; refine (qZz _ _ _).mono ?_; rintro e w1 ⟨rfl, rfl⟩))
 go_ret2
 refine ⟨congrArg (fun z => Ending.returned (.tuple #[.int .u64 z, .bool true])) ?_, rfl⟩
 exact raw5 hc
theorem ado6_any (hb : Al.W b) (hc : Al.W c) (w : World) :
  Calls prog 106 #[.int .i64 6, .int .u64 b, .int .u64 c] w fun e w' => e = .returned (.tuple #[.int .u64 (Al.doN 6 b c : Nat), .bool true]) ∧ w = w' := by
 go_enter func106, ntmps106
 go_wp2_with (first | (go_at_call 126; refine (wpz hb _ _).mono ?_; rintro e w1 ⟨rfl, rfl⟩) | (go_at_call 127; refine (wez _ _ _).mono ?_; rintro e w1 ⟨rfl, rfl⟩) | (go_at_call 128; refine (qZz _ _ _).mono ?_; rintro e w1 ⟨rfl, rfl⟩))
 go_ret2
 refine ⟨congrArg (fun z => Ending.returned (.tuple #[.int .u64 z, .bool true])) ?_, rfl⟩
 exact raw6 b c
theorem ado7_any (hb : Al.W b) (hc : Al.W c) (w : World) :
  Calls prog 106 #[.int .i64 7, .int .u64 b, .int .u64 c] w fun e w' => e = .returned (.tuple #[.int .u64 (Al.doN 7 b c : Nat), .bool true]) ∧ w = w' := by
 go_enter func106, ntmps106
 go_wp2_with (first | (go_at_call 126; refine (wpz hb _ _).mono ?_; rintro e w1 ⟨rfl, rfl⟩) | (go_at_call 127; refine (wez _ _ _).mono ?_; rintro e w1 ⟨rfl, rfl⟩) | (go_at_call 128; refine (qZz _ _ _).mono ?_; rintro e w1 ⟨rfl, rfl⟩))
 go_ret2
 refine ⟨congrArg (fun z => Ending.returned (.tuple #[.int .u64 z, .bool true])) ?_, rfl⟩
 rw [Al.do7]
end
end Go.Proofs.YtdeddhojjolihaaGreat
