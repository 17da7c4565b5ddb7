/-
  PROVED HERE: what alu.Do returns of some operations (contracts over this translation). Words are words.
-/
import Derived.Test.YtnlooiejigmlcaaAlu2
namespace Go.Proofs.Ytnlooiejigmlcaa
open Go.ChangeShapes Go.WideShapes Go.ChangeAt Go.RowKit
set_option linter.unusedVariables false

set_option maxRecDepth 100000 in
set_option maxHeartbeats 4000000 in
theorem ado8_any {b c : Nat} (hb : Al.W b) (hc : Al.W c) (w : World) :
    Calls Try.prog 7 #[.int .i64 8, .int .u64 b, .int .u64 c] w fun e w' => e = .returned (.tuple #[.int .u64 (Al.doN 8 b c : Nat), .bool true]) ∧ w = w' := by
  go_enter Try.func7, Try.ntmps7
  go_wp2_with (first | (go_at_call 15; refine (quo_any hb _ _).mono ?_; rintro e w1 ⟨rfl, rfl⟩) | (go_at_call 16; refine (less_any _ _ _).mono ?_; rintro e w1 ⟨rfl, rfl⟩) | (go_at_call 17; refine (lessI_any _ _ _).mono ?_; rintro e w1 ⟨rfl, rfl⟩))
  go_ret2
  refine ⟨congrArg (fun z => Ending.returned (.tuple #[.int .u64 z, .bool true])) ?_, rfl⟩
  exact raw8 hb hc
set_option maxRecDepth 100000 in
set_option maxHeartbeats 4000000 in
theorem ado9_any {b c : Nat} (hb : Al.W b) (hc : Al.W c) (w : World) :
    Calls Try.prog 7 #[.int .i64 9, .int .u64 b, .int .u64 c] w fun e w' => e = .returned (.tuple #[.int .u64 (Al.doN 9 b c : Nat), .bool true]) ∧ w = w' := by
  have hx := u64_and_nat b c hb hc
  go_enter Try.func7, Try.ntmps7
  go_wp2_with (first | (go_at_call 15; refine (quo_any hb _ _).mono ?_; rintro e w1 ⟨rfl, rfl⟩) | (go_at_call 16; refine (less_any _ _ _).mono ?_; rintro e w1 ⟨rfl, rfl⟩) | (go_at_call 17; refine (lessI_any _ _ _).mono ?_; rintro e w1 ⟨rfl, rfl⟩))
  go_ret2
  refine ⟨congrArg (fun z => Ending.returned (.tuple #[.int .u64 z, .bool true])) ?_, rfl⟩
  rw [Al.do9]; rfl
set_option maxRecDepth 100000 in
set_option maxHeartbeats 4000000 in
theorem ado10_any {b c : Nat} (hb : Al.W b) (hc : Al.W c) (w : World) :
    Calls Try.prog 7 #[.int .i64 10, .int .u64 b, .int .u64 c] w fun e w' => e = .returned (.tuple #[.int .u64 (Al.doN 10 b c : Nat), .bool true]) ∧ w = w' := by
  have hx := u64_or_nat b c hb hc
  go_enter Try.func7, Try.ntmps7
  go_wp2_with (first | (go_at_call 15; refine (quo_any hb _ _).mono ?_; rintro e w1 ⟨rfl, rfl⟩) | (go_at_call 16; refine (less_any _ _ _).mono ?_; rintro e w1 ⟨rfl, rfl⟩) | (go_at_call 17; refine (lessI_any _ _ _).mono ?_; rintro e w1 ⟨rfl, rfl⟩))
  go_ret2
  refine ⟨congrArg (fun z => Ending.returned (.tuple #[.int .u64 z, .bool true])) ?_, rfl⟩
  rw [Al.do10]; rfl
end Go.Proofs.Ytnlooiejigmlcaa
