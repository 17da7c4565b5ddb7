/-
  PROVED HERE: what alu.Do, alu.Movh and alu.Extend, and their like of the document's answer, return when they are called (contracts over this translation). Words are words.
-/
import Derived.Test.YtnlooiejigmlcaaAluA
import Derived.Test.YtnlooiejigmlcaaAluB
import Derived.Test.YtnlooiejigmlcaaAluC
import Derived.Test.YtnlooiejigmlcaaAluD
import Derived.Test.YtnlooiejigmlcaaAluE
namespace Go.Proofs.Ytnlooiejigmlcaa
open Go.ChangeShapes Go.WideShapes Go.ChangeAt Go.RowKit
set_option linter.unusedVariables false

theorem ok_cases {op : Int} (h : Al.okB op = true) : op = 4 ∨ op = 5 ∨ op = 6 ∨ op = 7 ∨ op = 8 ∨ op = 9 ∨ op = 10 ∨ op = 11 ∨ op = 12 ∨ op = 13 ∨ op = 15 ∨ op = 16 ∨ op = 17 := by
  unfold Al.okB at h
  simp only [Bool.or_eq_true, Bool.and_eq_true, decide_eq_true_eq] at h
  omega
theorem do_none {op : Int} (h : Al.okB op = false) (b c : Nat) : Al.doN op b c = 0 := by
  unfold Al.okB at h
  simp only [Bool.or_eq_false_iff, Bool.and_eq_false_iff, decide_eq_false_iff_not] at h
  unfold Al.doN
  rw [if_neg (by omega), if_neg (by omega), if_neg (by omega), if_neg (by omega), if_neg (by omega), if_neg (by omega), if_neg (by omega), if_neg (by omega), if_neg (by omega), if_neg (by omega), if_neg (by omega), if_neg (by omega), if_neg (by omega)]
theorem ado_any (op : Int) {b c : Nat} (hb : Al.W b) (hc : Al.W c) (w : World) :
    Calls Try.prog 7 #[.int .i64 op, .int .u64 b, .int .u64 c] w fun e w' => e = .returned (.tuple #[.int .u64 (Al.doN op b c : Nat), .bool (Al.okB op)]) ∧ w = w' := by
  cases h : Al.okB op
  · rw [do_none h]; exact ado_none h b c w
  · rcases ok_cases h with rfl | rfl | rfl | rfl | rfl | rfl | rfl | rfl | rfl | rfl | rfl | rfl | rfl
    · exact ado4_any hb hc w
    · exact ado5_any hb hc w
    · exact ado6_any hb hc w
    · exact ado7_any hb hc w
    · exact ado8_any hb hc w
    · exact ado9_any hb hc w
    · exact ado10_any hb hc w
    · exact ado11_any hb hc w
    · exact ado12_any hb hc w
    · exact ado13_any hb hc w
    · exact ado15_any hb hc w
    · exact ado16_any hb hc w
    · exact ado17_any hb hc w

def trN (b : Bool) : Nat := if b = true then 1 else 0
theorem truth_any (b : Bool) (w : World) :
    Calls Try.prog 18 #[.bool b] w fun e w' => e = .returned (.int .u64 (trN b : Nat)) ∧ w = w' := by
  cases b
  all_goals
    go_enter Try.func18, Try.ntmps18
    go_wp2
    go_ret
    exact ⟨rfl, rfl⟩
theorem raw_eq (b c : Nat) : trN ((b : Int) == (c : Int)) = Al.doN 15 b c := by
  rw [Al.do15]; unfold trN Al.eqN; simp only [beq_iff_eq, Int.ofNat_inj]
theorem raw_lt (b c : Nat) : trN (decide (b < c)) = Al.doN 16 b c := by
  rw [Al.do16]; unfold trN Al.ltuN; simp only [decide_eq_true_eq]
theorem raw_ls {b c : Nat} (hb : Al.W b) (hc : Al.W c) : trN (decide (wrap64 (b : Int) < wrap64 (c : Int))) = Al.doN 17 b c := by
  rw [← raw17 hb hc]; unfold trN lessI; simp only [decide_eq_true_eq]
set_option maxRecDepth 100000 in
set_option maxHeartbeats 4000000 in
theorem rdo4_any {b c : Nat} (hb : Al.W b) (hc : Al.W c) (w : World) :
    Calls Try.prog 8 #[.int .i64 4, .int .u64 b, .int .u64 c] w fun e w' => e = .returned (.tuple #[.int .u64 (Al.doN 4 b c : Nat), .bool true]) ∧ w = w' := by
  go_enter Try.func8, Try.ntmps8
  go_wp2
  go_ret2
  refine ⟨congrArg (fun z => Ending.returned (.tuple #[.int .u64 z, .bool true])) ?_, rfl⟩
  exact raw4 b c
set_option maxRecDepth 100000 in
set_option maxHeartbeats 4000000 in
theorem rdo5_any {b c : Nat} (hb : Al.W b) (hc : Al.W c) (w : World) :
    Calls Try.prog 8 #[.int .i64 5, .int .u64 b, .int .u64 c] w fun e w' => e = .returned (.tuple #[.int .u64 (Al.doN 5 b c : Nat), .bool true]) ∧ w = w' := by
  go_enter Try.func8, Try.ntmps8
  go_wp2
  go_ret2
  refine ⟨congrArg (fun z => Ending.returned (.tuple #[.int .u64 z, .bool true])) ?_, rfl⟩
  exact raw5' hc
set_option maxRecDepth 100000 in
set_option maxHeartbeats 4000000 in
theorem rdo6_any {b c : Nat} (hb : Al.W b) (hc : Al.W c) (w : World) :
    Calls Try.prog 8 #[.int .i64 6, .int .u64 b, .int .u64 c] w fun e w' => e = .returned (.tuple #[.int .u64 (Al.doN 6 b c : Nat), .bool true]) ∧ w = w' := by
  go_enter Try.func8, Try.ntmps8
  go_wp2
  go_ret2
  refine ⟨congrArg (fun z => Ending.returned (.tuple #[.int .u64 z, .bool true])) ?_, rfl⟩
  exact raw6 b c
set_option maxRecDepth 100000 in
set_option maxHeartbeats 4000000 in
theorem rdo9_any {b c : Nat} (hb : Al.W b) (hc : Al.W c) (w : World) :
    Calls Try.prog 8 #[.int .i64 9, .int .u64 b, .int .u64 c] w fun e w' => e = .returned (.tuple #[.int .u64 (Al.doN 9 b c : Nat), .bool true]) ∧ w = w' := by
  have hx := u64_and_nat b c hb hc
  go_enter Try.func8, Try.ntmps8
  go_wp2
  go_ret2
  refine ⟨congrArg (fun z => Ending.returned (.tuple #[.int .u64 z, .bool true])) ?_, rfl⟩
  rw [Al.do9]; rfl
set_option maxRecDepth 100000 in
set_option maxHeartbeats 4000000 in
theorem rdo10_any {b c : Nat} (hb : Al.W b) (hc : Al.W c) (w : World) :
    Calls Try.prog 8 #[.int .i64 10, .int .u64 b, .int .u64 c] w fun e w' => e = .returned (.tuple #[.int .u64 (Al.doN 10 b c : Nat), .bool true]) ∧ w = w' := by
  have hx := u64_or_nat b c hb hc
  go_enter Try.func8, Try.ntmps8
  go_wp2
  go_ret2
  refine ⟨congrArg (fun z => Ending.returned (.tuple #[.int .u64 z, .bool true])) ?_, rfl⟩
  rw [Al.do10]; rfl
set_option maxRecDepth 100000 in
set_option maxHeartbeats 4000000 in
theorem rdo11_any {b c : Nat} (hb : Al.W b) (hc : Al.W c) (w : World) :
    Calls Try.prog 8 #[.int .i64 11, .int .u64 b, .int .u64 c] w fun e w' => e = .returned (.tuple #[.int .u64 (Al.doN 11 b c : Nat), .bool true]) ∧ w = w' := by
  have hx := u64_xor_nat b c hb hc
  go_enter Try.func8, Try.ntmps8
  go_wp2
  go_ret2
  refine ⟨congrArg (fun z => Ending.returned (.tuple #[.int .u64 z, .bool true])) ?_, rfl⟩
  rw [Al.do11]; rfl
set_option maxRecDepth 100000 in
set_option maxHeartbeats 4000000 in
theorem rdo12_any {b c : Nat} (hb : Al.W b) (hc : Al.W c) (w : World) :
    Calls Try.prog 8 #[.int .i64 12, .int .u64 b, .int .u64 c] w fun e w' => e = .returned (.tuple #[.int .u64 (Al.doN 12 b c : Nat), .bool true]) ∧ w = w' := by
  go_enter Try.func8, Try.ntmps8
  go_wp2
  go_ret2
  refine ⟨congrArg (fun z => Ending.returned (.tuple #[.int .u64 z, .bool true])) ?_, rfl⟩
  exact raw12 b c
set_option maxRecDepth 100000 in
set_option maxHeartbeats 4000000 in
theorem rdo13_any {b c : Nat} (hb : Al.W b) (hc : Al.W c) (w : World) :
    Calls Try.prog 8 #[.int .i64 13, .int .u64 b, .int .u64 c] w fun e w' => e = .returned (.tuple #[.int .u64 (Al.doN 13 b c : Nat), .bool true]) ∧ w = w' := by
  go_enter Try.func8, Try.ntmps8
  go_wp2
  go_ret2
  refine ⟨congrArg (fun z => Ending.returned (.tuple #[.int .u64 z, .bool true])) ?_, rfl⟩
  exact raw13 b c
set_option maxRecDepth 100000 in
set_option maxHeartbeats 4000000 in
theorem rdo7_any {b c : Nat} (hb : Al.W b) (hc : Al.W c) (w : World) :
    Calls Try.prog 8 #[.int .i64 7, .int .u64 b, .int .u64 c] w fun e w' => e = .returned (.tuple #[.int .u64 (Al.doN 7 b c : Nat), .bool true]) ∧ w = w' := by
  by_cases h0 : c = 0
  · subst h0
    go_enter Try.func8, Try.ntmps8
    go_wp2
    go_ret2
    refine ⟨congrArg (fun z => Ending.returned (.tuple #[.int .u64 z, .bool true])) ?_, rfl⟩
    rw [Al.quo_zero]; rfl
  · go_enter Try.func8, Try.ntmps8
    go_wp2
    go_ret2
    refine ⟨congrArg (fun z => Ending.returned (.tuple #[.int .u64 z, .bool true])) ?_, rfl⟩
    rw [Al.do7, ← Int.natCast_ediv, cut64, Nat.mod_eq_of_lt (Nat.lt_of_le_of_lt (Nat.div_le_self _ _) hb)]; unfold Al.quoN; rw [if_neg h0]
set_option maxRecDepth 100000 in
set_option maxHeartbeats 4000000 in
theorem rdo8_any {b c : Nat} (hb : Al.W b) (hc : Al.W c) (w : World) :
    Calls Try.prog 8 #[.int .i64 8, .int .u64 b, .int .u64 c] w fun e w' => e = .returned (.tuple #[.int .u64 (Al.doN 8 b c : Nat), .bool true]) ∧ w = w' := by
  by_cases h0 : c = 0
  · subst h0
    go_enter Try.func8, Try.ntmps8
    go_wp2
    go_ret2
    refine ⟨congrArg (fun z => Ending.returned (.tuple #[.int .u64 z, .bool true])) ?_, rfl⟩
    rw [Al.rem_zero]
  · go_enter Try.func8, Try.ntmps8
    go_wp2
    go_ret2
    refine ⟨congrArg (fun z => Ending.returned (.tuple #[.int .u64 z, .bool true])) ?_, rfl⟩
    rw [Al.do8]; rfl
set_option maxRecDepth 100000 in
set_option maxHeartbeats 4000000 in
theorem rdo15_any {b c : Nat} (hb : Al.W b) (hc : Al.W c) (w : World) :
    Calls Try.prog 8 #[.int .i64 15, .int .u64 b, .int .u64 c] w fun e w' => e = .returned (.tuple #[.int .u64 (Al.doN 15 b c : Nat), .bool true]) ∧ w = w' := by
  go_enter Try.func8, Try.ntmps8
  go_wp2_with (go_at_call 18; refine (truth_any _ _).mono ?_; rintro e w1 ⟨rfl, rfl⟩)
  go_ret2
  refine ⟨congrArg (fun z => Ending.returned (.tuple #[.int .u64 z, .bool true])) ?_, rfl⟩
  exact congrArg _ (raw_eq b c)
set_option maxRecDepth 100000 in
set_option maxHeartbeats 4000000 in
theorem rdo16_any {b c : Nat} (hb : Al.W b) (hc : Al.W c) (w : World) :
    Calls Try.prog 8 #[.int .i64 16, .int .u64 b, .int .u64 c] w fun e w' => e = .returned (.tuple #[.int .u64 (Al.doN 16 b c : Nat), .bool true]) ∧ w = w' := by
  go_enter Try.func8, Try.ntmps8
  go_wp2_with (go_at_call 18; refine (truth_any _ _).mono ?_; rintro e w1 ⟨rfl, rfl⟩)
  go_ret2
  refine ⟨congrArg (fun z => Ending.returned (.tuple #[.int .u64 z, .bool true])) ?_, rfl⟩
  exact congrArg _ (raw_lt b c)
set_option maxRecDepth 100000 in
set_option maxHeartbeats 4000000 in
theorem rdo17_any {b c : Nat} (hb : Al.W b) (hc : Al.W c) (w : World) :
    Calls Try.prog 8 #[.int .i64 17, .int .u64 b, .int .u64 c] w fun e w' => e = .returned (.tuple #[.int .u64 (Al.doN 17 b c : Nat), .bool true]) ∧ w = w' := by
  go_enter Try.func8, Try.ntmps8
  go_wp2_with (go_at_call 18; refine (truth_any _ _).mono ?_; rintro e w1 ⟨rfl, rfl⟩)
  go_ret2
  refine ⟨congrArg (fun z => Ending.returned (.tuple #[.int .u64 z, .bool true])) ?_, rfl⟩
  exact congrArg _ (raw_ls hb hc)
set_option maxRecDepth 100000 in
set_option maxHeartbeats 4000000 in
theorem rdo_none {op : Int} (h : Al.okB op = false) (b c : Nat) (w : World) :
    Calls Try.prog 8 #[.int .i64 op, .int .u64 b, .int .u64 c] w fun e w' => e = .returned (.tuple #[.int .u64 0, .bool false]) ∧ w = w' := by
  unfold Al.okB at h
  simp only [Bool.or_eq_false_iff, Bool.and_eq_false_iff, decide_eq_false_iff_not] at h
  have n4 : ¬ op = 4 := by omega
  have n5 : ¬ op = 5 := by omega
  have n6 : ¬ op = 6 := by omega
  have n7 : ¬ op = 7 := by omega
  have n8 : ¬ op = 8 := by omega
  have n9 : ¬ op = 9 := by omega
  have n10 : ¬ op = 10 := by omega
  have n11 : ¬ op = 11 := by omega
  have n12 : ¬ op = 12 := by omega
  have n13 : ¬ op = 13 := by omega
  have n15 : ¬ op = 15 := by omega
  have n16 : ¬ op = 16 := by omega
  have n17 : ¬ op = 17 := by omega
  clear h
  go_enter Try.func8, Try.ntmps8
  go_wp2
  go_ret2
  exact ⟨rfl, rfl⟩
theorem rdo_any (op : Int) {b c : Nat} (hb : Al.W b) (hc : Al.W c) (w : World) :
    Calls Try.prog 8 #[.int .i64 op, .int .u64 b, .int .u64 c] w fun e w' => e = .returned (.tuple #[.int .u64 (Al.doN op b c : Nat), .bool (Al.okB op)]) ∧ w = w' := by
  cases h : Al.okB op
  · rw [do_none h]; exact rdo_none h b c w
  · rcases ok_cases h with rfl | rfl | rfl | rfl | rfl | rfl | rfl | rfl | rfl | rfl | rfl | rfl | rfl
    · exact rdo4_any hb hc w
    · exact rdo5_any hb hc w
    · exact rdo6_any hb hc w
    · exact rdo7_any hb hc w
    · exact rdo8_any hb hc w
    · exact rdo9_any hb hc w
    · exact rdo10_any hb hc w
    · exact rdo11_any hb hc w
    · exact rdo12_any hb hc w
    · exact rdo13_any hb hc w
    · exact rdo15_any hb hc w
    · exact rdo16_any hb hc w
    · exact rdo17_any hb hc w

theorem raw_ext (i : Int) : IntKind.u64.wrap i = ((Al.extN i : Nat) : Int) := by
  rw [IntKind.wrap_u64]; unfold Al.extN; omega
theorem raw_ext' (i : Int) : IntKind.u64.wrap (wrap64 i) = ((Al.extN i : Nat) : Int) := by
  rw [IntKind.wrap_u64]; unfold Al.extN wrap64; omega
theorem raw_movh' (a : Nat) (i : Int) : (a : Int) % 4294967296 + i % 4294967296 * 4294967296 = ((Al.movhN a i : Nat) : Int) := by unfold Al.movhN; omega
theorem raw_movh {a : Nat} (ha : Al.W a) (i : Int) : bits .or .u64 (bits .and .u64 (a : Int) 4294967295) (IntKind.u64.wrap (((Al.extN i : Nat) : Int) * 4294967296)) = ((Al.movhN a i : Nat) : Int) := by
  have e1 : bits .and .u64 (a : Int) 4294967295 = ((a % 4294967296 : Nat) : Int) := by
    have := u64_and_nat a 4294967295 ha (by omega)
    rw [show (4294967295 : Nat) = 2 ^ 32 - 1 from rfl, Nat.and_two_pow_sub_one_eq_mod] at this
    exact this
  have e2 : IntKind.u64.wrap (((Al.extN i : Nat) : Int) * 4294967296) = ((4294967296 * (i % 4294967296).toNat : Nat) : Int) := by
    rw [IntKind.wrap_u64]; unfold Al.extN; omega
  have h0 : (i % 4294967296).toNat < 4294967296 := by omega
  rw [e1, e2, u64_or_nat _ _ (by omega) (by omega), Nat.or_comm]
  have h1 : a % 4294967296 < 2 ^ 32 := Nat.mod_lt _ (by omega)
  have e3 := Nat.two_pow_add_eq_or_of_lt h1 (i % 4294967296).toNat
  rw [show (2 : Nat) ^ 32 = 4294967296 from rfl] at e3
  rw [← e3]; unfold Al.movhN; omega
theorem ext_any (i : Int) (w : World) :
    Calls Try.prog 11 #[.int .i32 i] w fun e w' => e = .returned (.int .u64 (Al.extN i : Nat)) ∧ w = w' := by
  go_enter Try.func11, Try.ntmps11
  go_wp2
  go_ret
  refine ⟨congrArg (fun z => Ending.returned (.int .u64 z)) ?_, rfl⟩
  exact raw_ext i
theorem rext_any (i : Int) (w : World) :
    Calls Try.prog 12 #[.int .i32 i] w fun e w' => e = .returned (.int .u64 (Al.extN i : Nat)) ∧ w = w' := by
  go_enter Try.func12, Try.ntmps12
  go_wp2
  go_ret
  refine ⟨congrArg (fun z => Ending.returned (.int .u64 z)) ?_, rfl⟩
  exact raw_ext' i
theorem movh_any {a : Nat} (ha : Al.W a) (i : Int) (w : World) :
    Calls Try.prog 9 #[.int .u64 a, .int .i32 i] w fun e w' => e = .returned (.int .u64 (Al.movhN a i : Nat)) ∧ w = w' := by
  go_enter Try.func9, Try.ntmps9
  go_wp2_with (go_at_call 11; refine (ext_any _ _).mono ?_; rintro e w1 ⟨rfl, rfl⟩)
  go_ret
  refine ⟨congrArg (fun z => Ending.returned (.int .u64 z)) ?_, rfl⟩
  exact raw_movh ha i
theorem rmovh_any {a : Nat} (ha : Al.W a) (i : Int) (w : World) :
    Calls Try.prog 10 #[.int .u64 a, .int .i32 i] w fun e w' => e = .returned (.int .u64 (Al.movhN a i : Nat)) ∧ w = w' := by
  go_enter Try.func10, Try.ntmps10
  go_wp2
  go_ret
  refine ⟨congrArg (fun z => Ending.returned (.int .u64 z)) ?_, rfl⟩
  exact raw_movh' a i

theorem ldo_any (op : Int) {b c : Nat} (hb : Al.W b) (hc : Al.W c) (w : World) :
    Calls Try.prog 14 #[.int .i64 op, .int .u64 b, .int .u64 c] w fun e w' => e = .returned (.int .u64 (Al.doN op b c : Nat)) ∧ w = w' := by
  go_enter Try.func14, Try.ntmps14
  go_wp2_with (go_at_call 7; refine (ado_any op hb hc _).mono ?_; rintro e w1 ⟨rfl, rfl⟩)
  go_ret
  exact ⟨rfl, rfl⟩
theorem awake9_any (w : World) :
    Calls Try.prog 13 #[] w fun e w' => e = .returned (.bool true) ∧ w = w' := by
  have e1 : Al.doN 7 7 0 = 18446744073709551615 := Al.quo_zero 7
  have e2 : Al.doN 17 18446744073709551615 0 = 1 := by rw [Al.do17]; decide
  have h1 : ∀ w, Calls Try.prog 7 #[.int .i64 7, .int .u64 7, .int .u64 0] w fun e w' => e = .returned (.tuple #[.int .u64 18446744073709551615, .bool true]) ∧ w = w' := by
    intro w; have := ado7_any (b := 7) (c := 0) (by show _ < _; omega) (by show _ < _; omega) w; rw [e1] at this; exact this
  have h2 : ∀ w, Calls Try.prog 7 #[.int .i64 17, .int .u64 18446744073709551615, .int .u64 0] w fun e w' => e = .returned (.tuple #[.int .u64 1, .bool true]) ∧ w = w' := by
    intro w; have := ado17_any (b := 18446744073709551615) (c := 0) (by show _ < _; omega) (by show _ < _; omega) w; rw [e2] at this; exact this
  have h3 : ∀ w, Calls Try.prog 7 #[.int .i64 0, .int .u64 1, .int .u64 1] w fun e w' => e = .returned (.tuple #[.int .u64 0, .bool false]) ∧ w = w' := fun w => ado_none (op := 0) (by decide) 1 1 w
  clear e1 e2
  go_enter Try.func13, Try.ntmps13
  go_wp2_with (first | (go_at_call 7; (with_reducible refine (h1 _).mono ?_); rintro e w1 ⟨rfl, rfl⟩) | (go_at_call 7; (with_reducible refine (h2 _).mono ?_); rintro e w1 ⟨rfl, rfl⟩) | (go_at_call 7; (with_reducible refine (h3 _).mono ?_); rintro e w1 ⟨rfl, rfl⟩))
  go_ret
  exact ⟨rfl, rfl⟩
end Go.Proofs.Ytnlooiejigmlcaa
