/-
  PROVED HERE: what alu.Do returns of some operations (contracts over this translation). Words are words.
-/
import Derived.Test.YtnlooiejigmlcaaAlu2
namespace Go.Proofs.Ytnlooiejigmlcaa
open Go.ChangeShapes Go.WideShapes Go.ChangeAt Go.RowKit
set_option linter.unusedVariables false

set_option maxRecDepth 100000 in
set_option maxHeartbeats 4000000 in
theorem ado11_any {b c : Nat} (hb : Al.W b) (hc : Al.W c) (w : World) :
    Calls Try.prog 7 #[.int .i64 11, .int .u64 b, .int .u64 c] w fun e w' => e = .returned (.tuple #[.int .u64 (Al.doN 11 b c : Nat), .bool true]) ∧ w = w' := by
  have hx := u64_xor_nat b c hb hc
  go_enter Try.func7, Try.ntmps7
  go_wp2_with (first | (go_at_call 15; refine (quo_any hb _ _).mono ?_; rintro e w1 ⟨rfl, rfl⟩) | (go_at_call 16; refine (less_any _ _ _).mono ?_; rintro e w1 ⟨rfl, rfl⟩) | (go_at_call 17; refine (lessI_any _ _ _).mono ?_; rintro e w1 ⟨rfl, rfl⟩))
  go_ret2
  refine ⟨congrArg (fun z => Ending.returned (.tuple #[.int .u64 z, .bool true])) ?_, rfl⟩
  rw [Al.do11]; rfl
set_option maxRecDepth 100000 in
set_option maxHeartbeats 4000000 in
theorem ado12_any {b c : Nat} (hb : Al.W b) (hc : Al.W c) (w : World) :
    Calls Try.prog 7 #[.int .i64 12, .int .u64 b, .int .u64 c] w fun e w' => e = .returned (.tuple #[.int .u64 (Al.doN 12 b c : Nat), .bool true]) ∧ w = w' := by
  go_enter Try.func7, Try.ntmps7
  go_wp2_with (first | (go_at_call 15; refine (quo_any hb _ _).mono ?_; rintro e w1 ⟨rfl, rfl⟩) | (go_at_call 16; refine (less_any _ _ _).mono ?_; rintro e w1 ⟨rfl, rfl⟩) | (go_at_call 17; refine (lessI_any _ _ _).mono ?_; rintro e w1 ⟨rfl, rfl⟩))
  go_ret2
  refine ⟨congrArg (fun z => Ending.returned (.tuple #[.int .u64 z, .bool true])) ?_, rfl⟩
  exact raw12 b c
set_option maxRecDepth 100000 in
set_option maxHeartbeats 4000000 in
theorem ado13_any {b c : Nat} (hb : Al.W b) (hc : Al.W c) (w : World) :
    Calls Try.prog 7 #[.int .i64 13, .int .u64 b, .int .u64 c] w fun e w' => e = .returned (.tuple #[.int .u64 (Al.doN 13 b c : Nat), .bool true]) ∧ w = w' := by
  go_enter Try.func7, Try.ntmps7
  go_wp2_with (first | (go_at_call 15; refine (quo_any hb _ _).mono ?_; rintro e w1 ⟨rfl, rfl⟩) | (go_at_call 16; refine (less_any _ _ _).mono ?_; rintro e w1 ⟨rfl, rfl⟩) | (go_at_call 17; refine (lessI_any _ _ _).mono ?_; rintro e w1 ⟨rfl, rfl⟩))
  go_ret2
  refine ⟨congrArg (fun z => Ending.returned (.tuple #[.int .u64 z, .bool true])) ?_, rfl⟩
  exact raw13 b c
end Go.Proofs.Ytnlooiejigmlcaa
