/-
 PROVED HERE: what alu.Do returns of some operations (contracts over this translation); what alu.Do, alu.Movh and alu.Extend. What is asked stands at each.
-/
import Derived.Test.YtdeddhojjolihaaGreatZ40
namespace Go.Proofs.YtdeddhojjolihaaGreat
set_option maxRecDepth 100000
set_option maxHeartbeats 8000000
set_option linter.unusedVariables false
open Go.Proofs.Tryz
section
open Go.ChangeShapes Go.WideShapes Go.ChangeAt Go.RowKit
variable {b c : Nat}
theorem ado8_any (hb : Al.W b) (hc : Al.W c) (w : World) :
  Calls prog 106 #[.int .i64 8, .int .u64 b, .int .u64 c] w fun e w' => e = .returned (.tuple #[.int .u64 (Al.doN 8 b c : Nat), .bool true]) ∧ w = w' := by
 go_enter func106, ntmps106
 go_wp2_with (first | (go_at_call 126; refine (wpz hb _ _).mono ?_; rintro e w1 ⟨rfl, rfl⟩) | (go_at_call 127; refine (wez _ _ _).mono ?_; rintro e w1 ⟨rfl, rfl⟩) | (go_at_call 128; refine (qZz _ _ _).mono ?_; rintro e w1 ⟨rfl, rfl⟩))
 go_ret2
 refine ⟨congrArg (fun z => Ending.returned (.tuple #[.int .u64 z, .bool true])) ?_, rfl⟩
 exact raw8 hb hc
theorem ado9_any (hb : Al.W b) (hc : Al.W c) (w : World) :
  Calls prog 106 #[.int .i64 9, .int .u64 b, .int .u64 c] w fun e w' => e = .returned (.tuple #[.int .u64 (Al.doN 9 b c : Nat), .bool true]) ∧ w = w' := by
 have hx := u64_and_nat b c hb hc
 go_enter func106, ntmps106
 go_wp2_with (first | (go_at_call 126; refine (wpz hb _ _).mono ?_; rintro e w1 ⟨rfl, rfl⟩) | (go_at_call 127; refine (wez _ _ _).mono ?_; rintro e w1 ⟨rfl, rfl⟩) | (go_at_call 128; refine (qZz _ _ _).mono ?_; rintro e w1 ⟨rfl, rfl⟩))
 go_ret2
 refine ⟨congrArg (fun z => Ending.returned (.tuple #[.int .u64 z, .bool true])) ?_, rfl⟩
 rw [Al.do9]; rfl
theorem gKz (hb : Al.W b) (hc : Al.W c) (w : World) :
  Calls prog 106 #[.int .i64 10, .int .u64 b, .int .u64 c] w fun e w' => e = .returned (.tuple #[.int .u64 (Al.doN 10 b c : Nat), .bool true]) ∧ w = w' := by
 have hx := u64_or_nat b c hb hc
 go_enter func106, ntmps106
 go_wp2_with (first | (go_at_call 126; refine (wpz hb _ _).mono ?_; rintro e w1 ⟨rfl, rfl⟩) | (go_at_call 127; refine (wez _ _ _).mono ?_; rintro e w1 ⟨rfl, rfl⟩) | (go_at_call 128; refine (qZz _ _ _).mono ?_; rintro e w1 ⟨rfl, rfl⟩))
 go_ret2
 refine ⟨congrArg (fun z => Ending.returned (.tuple #[.int .u64 z, .bool true])) ?_, rfl⟩
 rw [Al.do10]; rfl
end
section
open Go.ChangeShapes Go.WideShapes Go.ChangeAt Go.RowKit
variable {b c : Nat}
theorem gJz (hb : Al.W b) (hc : Al.W c) (w : World) :
  Calls prog 106 #[.int .i64 11, .int .u64 b, .int .u64 c] w fun e w' => e = .returned (.tuple #[.int .u64 (Al.doN 11 b c : Nat), .bool true]) ∧ w = w' := by
 have hx := u64_xor_nat b c hb hc
 go_enter func106, ntmps106
 go_wp2_with (first | (go_at_call 126; refine (wpz hb _ _).mono ?_; rintro e w1 ⟨rfl, rfl⟩) | (go_at_call 127; refine (wez _ _ _).mono ?_; rintro e w1 ⟨rfl, rfl⟩) | (go_at_call 128; refine (qZz _ _ _).mono ?_; rintro e w1 ⟨rfl, rfl⟩))
 go_ret2
 refine ⟨congrArg (fun z => Ending.returned (.tuple #[.int .u64 z, .bool true])) ?_, rfl⟩
 rw [Al.do11]; rfl
theorem gIz (hb : Al.W b) (hc : Al.W c) (w : World) :
  Calls prog 106 #[.int .i64 12, .int .u64 b, .int .u64 c] w fun e w' => e = .returned (.tuple #[.int .u64 (Al.doN 12 b c : Nat), .bool true]) ∧ w = w' := by
 go_enter func106, ntmps106
 go_wp2_with (first | (go_at_call 126; refine (wpz hb _ _).mono ?_; rintro e w1 ⟨rfl, rfl⟩) | (go_at_call 127; refine (wez _ _ _).mono ?_; rintro e w1 ⟨rfl, rfl⟩) | (go_at_call 128; refine (qZz _ _ _).mono ?_; rintro e w1 ⟨rfl, rfl⟩))
 go_ret2
 refine ⟨congrArg (fun z => Ending.returned (.tuple #[.int .u64 z, .bool true])) ?_, rfl⟩
 exact raw12 b c
theorem gHz (hb : Al.W b) (hc : Al.W c) (w : World) :
  Calls prog 106 #[.int .i64 13, .int .u64 b, .int .u64 c] w fun e w' => e = .returned (.tuple #[.int .u64 (Al.doN 13 b c : Nat), .bool true]) ∧ w = w' := by
 go_enter func106, ntmps106
 go_wp2_with (first | (go_at_call 126; refine (wpz hb _ _).mono ?_; rintro e w1 ⟨rfl, rfl⟩) | (go_at_call 127; refine (wez _ _ _).mono ?_; rintro e w1 ⟨rfl, rfl⟩) | (go_at_call 128; refine (qZz _ _ _).mono ?_; rintro e w1 ⟨rfl, rfl⟩))
 go_ret2
 refine ⟨congrArg (fun z => Ending.returned (.tuple #[.int .u64 z, .bool true])) ?_, rfl⟩
 exact raw13 b c
end
section
open Go.ChangeShapes Go.WideShapes Go.ChangeAt Go.RowKit
variable {b c : Nat}
theorem gGz (hb : Al.W b) (hc : Al.W c) (w : World) :
  Calls prog 106 #[.int .i64 15, .int .u64 b, .int .u64 c] w fun e w' => e = .returned (.tuple #[.int .u64 (Al.doN 15 b c : Nat), .bool true]) ∧ w = w' := by
 have hx := u64_xor_nat b c hb hc
 go_enter func106, ntmps106
 go_wp2_with (first | (go_at_call 126; refine (wpz hb _ _).mono ?_; rintro e w1 ⟨rfl, rfl⟩) | (go_at_call 127; refine (wez _ _ _).mono ?_; rintro e w1 ⟨rfl, rfl⟩) | (go_at_call 128; refine (qZz _ _ _).mono ?_; rintro e w1 ⟨rfl, rfl⟩))
 go_ret2
 refine ⟨congrArg (fun z => Ending.returned (.tuple #[.int .u64 z, .bool true])) ?_, rfl⟩
 exact congrArg _ (raw15 b c)
theorem gFz (hb : Al.W b) (hc : Al.W c) (w : World) :
  Calls prog 106 #[.int .i64 16, .int .u64 b, .int .u64 c] w fun e w' => e = .returned (.tuple #[.int .u64 (Al.doN 16 b c : Nat), .bool true]) ∧ w = w' := by
 go_enter func106, ntmps106
 go_wp2_with (first | (go_at_call 126; refine (wpz hb _ _).mono ?_; rintro e w1 ⟨rfl, rfl⟩) | (go_at_call 127; refine (wez _ _ _).mono ?_; rintro e w1 ⟨rfl, rfl⟩) | (go_at_call 128; refine (qZz _ _ _).mono ?_; rintro e w1 ⟨rfl, rfl⟩))
 go_ret2
 refine ⟨congrArg (fun z => Ending.returned (.tuple #[.int .u64 z, .bool true])) ?_, rfl⟩
 rw [Al.do16]
theorem gEz (hb : Al.W b) (hc : Al.W c) (w : World) :
  Calls prog 106 #[.int .i64 17, .int .u64 b, .int .u64 c] w fun e w' => e = .returned (.tuple #[.int .u64 (Al.doN 17 b c : Nat), .bool true]) ∧ w = w' := by
 go_enter func106, ntmps106
 go_wp2_with (first | (go_at_call 126; refine (wpz hb _ _).mono ?_; rintro e w1 ⟨rfl, rfl⟩) | (go_at_call 127; refine (wez _ _ _).mono ?_; rintro e w1 ⟨rfl, rfl⟩) | (go_at_call 128; refine (qZz _ _ _).mono ?_; rintro e w1 ⟨rfl, rfl⟩))
 go_ret2
 refine ⟨congrArg (fun z => Ending.returned (.tuple #[.int .u64 z, .bool true])) ?_, rfl⟩
 exact congrArg _ (raw17 hb hc)
end
section
open Go.ChangeShapes Go.WideShapes Go.ChangeAt Go.RowKit
theorem ado_none {op : Int} (h : Al.okB op = false) (b c : Nat) (w : World) :
  Calls prog 106 #[.int .i64 op, .int .u64 b, .int .u64 c] w fun e w' => e = .returned (.tuple #[.int .u64 0, .bool false]) ∧ w = w' := by
 unfold Al.okB at h
 simp only [Bool.or_eq_false_iff, Bool.and_eq_false_iff, decide_eq_false_iff_not] at h
 have n4 : ¬ op = 4 := by omega
 have n5 : ¬ op = 5 := by omega
 have n6 : ¬ op = 6 := by omega
 have n7 : ¬ op = 7 := by omega
 have n8 : ¬ op = 8 := by omega
 have n9 : ¬ op = 9 := by omega
 have n10 : ¬ op = 10 := by omega
 have n11 : ¬ op = 11 := by omega
 have n12 : ¬ op = 12 := by omega
 have n13 : ¬ op = 13 := by omega
 have n15 : ¬ op = 15 := by omega
 have n16 : ¬ op = 16 := by omega
 have n17 : ¬ op = 17 := by omega
 clear h
 go_enter func106, ntmps106
 go_wp2
 go_ret2
 exact ⟨rfl, rfl⟩
end
section
open Go.ChangeShapes Go.WideShapes Go.ChangeAt Go.RowKit
theorem ok_cases {op : Int} (h : Al.okB op = true) : op = 4 ∨ op = 5 ∨ op = 6 ∨ op = 7 ∨ op = 8 ∨ op = 9 ∨ op = 10 ∨ op = 11 ∨ op = 12 ∨ op = 13 ∨ op = 15 ∨ op = 16 ∨ op = 17 := by
 unfold Al.okB at h
 simp only [Bool.or_eq_true, Bool.and_eq_true, decide_eq_true_eq] at h
 omega
theorem do_none {op : Int} (h : Al.okB op = false) (b c : Nat) : Al.doN op b c = 0 := by
 unfold Al.okB at h
 simp only [Bool.or_eq_false_iff, Bool.and_eq_false_iff, decide_eq_false_iff_not] at h
 unfold Al.doN
 rw [if_neg (by omega), if_neg (by omega), if_neg (by omega), if_neg (by omega), if_neg (by omega), if_neg (by omega), if_neg (by omega), if_neg (by omega), if_neg (by omega), if_neg (by omega), if_neg (by omega), if_neg (by omega), if_neg (by omega)]
theorem ado_any (op : Int) {b c : Nat} (hb : Al.W b) (hc : Al.W c) (w : World) :
  Calls prog 106 #[.int .i64 op, .int .u64 b, .int .u64 c] w fun e w' => e = .returned (.tuple #[.int .u64 (Al.doN op b c : Nat), .bool (Al.okB op)]) ∧ w = w' := by
 cases h : Al.okB op
 ·rw [do_none h]; exact ado_none h b c w
 ·rcases ok_cases h with rfl | rfl | rfl | rfl | rfl | rfl | rfl | rfl | rfl | rfl | rfl | rfl | rfl
  ·exact ado4_any hb hc w
  ·exact ado5_any hb hc w
  ·exact ado6_any hb hc w
  ·exact ado7_any hb hc w
  ·exact ado8_any hb hc w
  ·exact ado9_any hb hc w
  ·exact gKz hb hc w
  ·exact gJz hb hc w
  ·exact gIz hb hc w
  ·exact gHz hb hc w
  ·exact gGz hb hc w
  ·exact gFz hb hc w
  ·exact gEz hb hc w
theorem raw_ext (i : Int) : IntKind.u64.wrap i = ((Al.extN i : Nat) : Int) := by
 rw [IntKind.wrap_u64]; unfold Al.extN; omega
theorem raw_movh {a : Nat} (ha : Al.W a) (i : Int) : bits .or .u64 (bits .and .u64 (a : Int) 4294967295) (IntKind.u64.wrap (((Al.extN i : Nat) : Int) * 4294967296)) = ((Al.movhN a i : Nat) : Int) := by
 have e1 : bits .and .u64 (a : Int) 4294967295 = ((a % 4294967296 : Nat) : Int) := by
  have := u64_and_nat a 4294967295 ha (by omega)
  rw [show (4294967295 : Nat) = 2 ^ 32 - 1 from rfl, Nat.and_two_pow_sub_one_eq_mod] at this
  exact this
 have e2 : IntKind.u64.wrap (((Al.extN i : Nat) : Int) * 4294967296) = ((4294967296 * (i % 4294967296).toNat : Nat) : Int) := by
  rw [IntKind.wrap_u64]; unfold Al.extN; omega
 have h0 : (i % 4294967296).toNat < 4294967296 := by omega
 rw [e1, e2, u64_or_nat _ _ (by omega) (by omega), Nat.or_comm]
 have h1 : a % 4294967296 < 2 ^ 32 := Nat.mod_lt _ (by omega)
 have e3 := Nat.two_pow_add_eq_or_of_lt h1 (i % 4294967296).toNat
 rw [show (2 : Nat) ^ 32 = 4294967296 from rfl] at e3
 rw [← e3]; unfold Al.movhN; omega
theorem jyz (i : Int) (w : World) :
  Calls prog 68 #[.int .i32 i] w fun e w' => e = .returned (.int .u64 (Al.extN i : Nat)) ∧ w = w' := by
 go_enter func68, ntmps68
 go_wp2
 go_ret
 refine ⟨congrArg (fun z => Ending.returned (.int .u64 z)) ?_, rfl⟩
 exact raw_ext i
theorem movh_any {a : Nat} (ha : Al.W a) (i : Int) (w : World) :
  Calls prog 69 #[.int .u64 a, .int .i32 i] w fun e w' => e = .returned (.int .u64 (Al.movhN a i : Nat)) ∧ w = w' := by
 go_enter func69, ntmps69
 go_wp2_with (go_at_call 68; refine (jyz _ _).mono ?_; rintro e w1 ⟨rfl, rfl⟩)
 go_ret
 refine ⟨congrArg (fun z => Ending.returned (.int .u64 z)) ?_, rfl⟩
 exact raw_movh ha i
end
end Go.Proofs.YtdeddhojjolihaaGreat
