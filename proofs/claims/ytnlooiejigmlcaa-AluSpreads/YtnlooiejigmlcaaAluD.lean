/-
  PROVED HERE: what alu.Do returns of some operations (contracts over this translation). Words are words.
-/
import Derived.Test.YtnlooiejigmlcaaAlu2
namespace Go.Proofs.Ytnlooiejigmlcaa
open Go.ChangeShapes Go.WideShapes Go.ChangeAt Go.RowKit
set_option linter.unusedVariables false

set_option maxRecDepth 100000 in
set_option maxHeartbeats 4000000 in
theorem ado15_any {b c : Nat} (hb : Al.W b) (hc : Al.W c) (w : World) :
    Calls Try.prog 7 #[.int .i64 15, .int .u64 b, .int .u64 c] w fun e w' => e = .returned (.tuple #[.int .u64 (Al.doN 15 b c : Nat), .bool true]) ∧ w = w' := by
  have hx := u64_xor_nat b c hb hc
  go_enter Try.func7, Try.ntmps7
  go_wp2_with (first | (go_at_call 15; refine (quo_any hb _ _).mono ?_; rintro e w1 ⟨rfl, rfl⟩) | (go_at_call 16; refine (less_any _ _ _).mono ?_; rintro e w1 ⟨rfl, rfl⟩) | (go_at_call 17; refine (lessI_any _ _ _).mono ?_; rintro e w1 ⟨rfl, rfl⟩))
  go_ret2
  refine ⟨congrArg (fun z => Ending.returned (.tuple #[.int .u64 z, .bool true])) ?_, rfl⟩
  exact congrArg _ (raw15 b c)
set_option maxRecDepth 100000 in
set_option maxHeartbeats 4000000 in
theorem ado16_any {b c : Nat} (hb : Al.W b) (hc : Al.W c) (w : World) :
    Calls Try.prog 7 #[.int .i64 16, .int .u64 b, .int .u64 c] w fun e w' => e = .returned (.tuple #[.int .u64 (Al.doN 16 b c : Nat), .bool true]) ∧ w = w' := by
  go_enter Try.func7, Try.ntmps7
  go_wp2_with (first | (go_at_call 15; refine (quo_any hb _ _).mono ?_; rintro e w1 ⟨rfl, rfl⟩) | (go_at_call 16; refine (less_any _ _ _).mono ?_; rintro e w1 ⟨rfl, rfl⟩) | (go_at_call 17; refine (lessI_any _ _ _).mono ?_; rintro e w1 ⟨rfl, rfl⟩))
  go_ret2
  refine ⟨congrArg (fun z => Ending.returned (.tuple #[.int .u64 z, .bool true])) ?_, rfl⟩
  rw [Al.do16]
set_option maxRecDepth 100000 in
set_option maxHeartbeats 4000000 in
theorem ado17_any {b c : Nat} (hb : Al.W b) (hc : Al.W c) (w : World) :
    Calls Try.prog 7 #[.int .i64 17, .int .u64 b, .int .u64 c] w fun e w' => e = .returned (.tuple #[.int .u64 (Al.doN 17 b c : Nat), .bool true]) ∧ w = w' := by
  go_enter Try.func7, Try.ntmps7
  go_wp2_with (first | (go_at_call 15; refine (quo_any hb _ _).mono ?_; rintro e w1 ⟨rfl, rfl⟩) | (go_at_call 16; refine (less_any _ _ _).mono ?_; rintro e w1 ⟨rfl, rfl⟩) | (go_at_call 17; refine (lessI_any _ _ _).mono ?_; rintro e w1 ⟨rfl, rfl⟩))
  go_ret2
  refine ⟨congrArg (fun z => Ending.returned (.tuple #[.int .u64 z, .bool true])) ?_, rfl⟩
  exact congrArg _ (raw17 hb hc)
end Go.Proofs.Ytnlooiejigmlcaa
