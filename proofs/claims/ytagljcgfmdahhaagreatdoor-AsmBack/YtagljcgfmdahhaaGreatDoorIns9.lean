/-
  PROVED HERE: what Encode and Decode of the document's answer of layer 8 return when they are called (contracts over this translation). No condition.
-/
import Derived.Test.YtagljcgfmdahhaaGreatDoorIns8
namespace Go.Proofs.YtagljcgfmdahhaaGreatDoor
open Go.RowKit Go.Shelf
set_option linter.unusedVariables false

set_option maxRecDepth 100000 in
set_option maxHeartbeats 4000000 in
theorem rencode_any (op a b c i : Int) (hi0 : -2147483648 ≤ i) (hi1 : i < 2147483648) (w : World) :
    Calls Tryz.prog 29 #[.agg #[.int .i64 op, .int .i64 a, .int .i64 b, .int .i64 c, .int .i32 i]] w fun e w' => e = .returned (.int .u64 (Ins.wordI op a b c i)) ∧ Below w.heap.size w w' := by
  have bI := Ib.new w op a b c i
  cases hop : Ins.fitB op a b c i with
  | false =>
    have hr : Hid (Ins.wordI op a b c i = 0) := by show _ = _; unfold Ins.wordI; rw [hop]; rfl
    go_enter Tryz.func29, Tryz.ntmps29
    go_wp2_with (go_at_call 42; refine (rfit_any _ _ _ _ _ _).mono ?_; rintro e w' ⟨rfl, hb⟩)
    go_ret
    exact ⟨by rw [hr.out]; rfl, ((Below.refl _ w).alloc (Nat.le_refl _) _).trans (hb.mono (by simp))⟩
  | true =>
    obtain ⟨⟨o0, o1⟩, ⟨a0, a1⟩, ⟨b0, b1⟩, c0, c1⟩ := Ins.fit_bounds hop
    have hr : Hid (Ins.wordI op a b c i = op + a * 256 + b * 4096 + c * 65536 + i % 4294967296 * 4294967296) := by show _ = _; unfold Ins.wordI; rw [hop]; rfl
    have hM : IntKind.u32.wrap i = i % 4294967296 := by rw [IntKind.wrap_u32]
    obtain ⟨M, hM2⟩ : ∃ M, i % 4294967296 = M := ⟨_, rfl⟩
    have m0 : 0 ≤ M := by omega
    have m1 : M < 4294967296 := by omega
    rw [hM2] at hM hr
    clear hM2
    go_enter Tryz.func29, Tryz.ntmps29
    go_wp2_with (go_at_call 42; refine (rfit_any _ _ _ _ _ _).mono ?_; rintro e w' ⟨rfl, hb⟩; obtain ⟨k0, k1, k2, k3, k4⟩ := (bI.next hb).cells)
    go_ret
    exact ⟨by rw [hr.out]; rfl, ((Below.refl _ w).alloc (Nat.le_refl _) _).trans (hb.mono (by simp))⟩
theorem and15 {y : Int} (h0 : 0 ≤ y) (h1 : y < 18446744073709551616) : bits .and .u64 y 15 = y % 16 := by
  obtain ⟨n, rfl⟩ := Int.eq_ofNat_of_zero_le h0
  have h2 : n < 18446744073709551616 := by omega
  have := u64_and_nat n 15 h2 (by omega)
  rw [show ((15 : Nat) : Int) = 15 from rfl] at this
  rw [this, show (15 : Nat) = 2 ^ 4 - 1 from rfl, Nat.and_two_pow_sub_one_eq_mod]
  omega
theorem and4095 {y : Int} (h0 : 0 ≤ y) (h1 : y < 18446744073709551616) : bits .and .u64 y 4095 = y % 4096 := by
  obtain ⟨n, rfl⟩ := Int.eq_ofNat_of_zero_le h0
  have h2 : n < 18446744073709551616 := by omega
  have := u64_and_nat n 4095 h2 (by omega)
  rw [show ((4095 : Nat) : Int) = 4095 from rfl] at this
  rw [this, show (4095 : Nat) = 2 ^ 12 - 1 from rfl, Nat.and_two_pow_sub_one_eq_mod]
  omega
set_option maxRecDepth 100000 in
set_option maxHeartbeats 2000000 in
theorem rdecode_yes (x : Int) (h0 : 0 ≤ x) (h1 : x < 18446744073709551616) (hf : Ins.fitB (Ins.fOp x) (Ins.fA x) (Ins.fB x) (Ins.fC x) (Ins.fI x) = true) (hz : x / 1048576 % 4096 = 0) (w : World) :
    Calls Tryz.prog 23 #[.int .u64 x] w fun e w' => e = .returned (.tuple #[.agg #[.int .i64 (Ins.fOp x), .int .i64 (Ins.fA x), .int .i64 (Ins.fB x), .int .i64 (Ins.fC x), .int .i32 (Ins.fI x)], .bool true]) ∧ Below w.heap.size w w' := by
  obtain ⟨y, hy⟩ : ∃ y, y = x / 1048576 % 4096 := ⟨_, rfl⟩
  obtain ⟨_, ⟨_, _⟩, ⟨_, _⟩, ⟨_, _⟩, hi0, hi1⟩ := Ins.fields_bounds h0 h1
  have hA := and_low h0 h1
  have hA1 : bits .and .u64 (x / 256) 15 = Ins.fA x := and15 (by omega) (by omega)
  have hA2 : bits .and .u64 (x / 4096) 15 = Ins.fB x := and15 (by omega) (by omega)
  have hA3 : bits .and .u64 (x / 65536) 15 = Ins.fC x := and15 (by omega) (by omega)
  have hA4 : bits .and .u64 (x / 1048576) 4095 = y := by rw [hy]; exact and4095 (by omega) (by omega)
  have hI := imm_of h0 h1
  have bI := Ib.new (w.alloc (.cells #[.int .i64 0, .int .i64 0, .int .i64 0, .int .i64 0, .int .i32 0] 45)) (Ins.fOp x) (Ins.fA x) (Ins.fB x) (Ins.fC x) (Ins.fI x)
  have bR := (Ib.new w 0 0 0 0 0).alloc (.cells #[.int .i64 (Ins.fOp x), .int .i64 (Ins.fA x), .int .i64 (Ins.fB x), .int .i64 (Ins.fC x), .int .i32 (Ins.fI x)] 45)
  simp only [World.size_alloc] at bI bR
  have hZ : Below w.heap.size w ((w.alloc (.cells #[.int .i64 0, .int .i64 0, .int .i64 0, .int .i64 0, .int .i32 0] 45)).alloc (.cells #[.int .i64 (Ins.fOp x), .int .i64 (Ins.fA x), .int .i64 (Ins.fB x), .int .i64 (Ins.fC x), .int .i32 (Ins.fI x)] 45)) := ((Below.refl _ w).alloc (Nat.le_refl _) _).alloc (by simp) _
  rw [hz] at hy
  subst hy
  clear hz
  go_enter Tryz.func23, Tryz.ntmps23
  go_wp2_with (first | (go_at_call 42; refine (rfit_any _ _ _ _ _ _).mono ?_; rintro e w1 ⟨rfl, hb1⟩; have bI1 := bI.next hb1; have bR1 := bR.next hb1; have hB1 := hZ.trans (hb1.mono hZ.size); obtain ⟨c0, c1, c2, c3, c4⟩ := bI1.cells; have f0 := bR1.frozen 0; have f1 := bR1.frozen 1; have f2 := bR1.frozen 2; have f3 := bR1.frozen 3; have f4 := bR1.frozen 4; obtain ⟨r0, r1, r2, r3, r4⟩ := bR1.cells))
  obtain ⟨g0, g1, g2, g3, g4⟩ := (bR1.set5 (Ins.fOp x) (Ins.fA x) (Ins.fB x) (Ins.fC x) (Ins.fI x)).cells
  unfold set5 at g0 g1 g2 g3 g4
  refine bodyPost_ret (v := .tuple #[.agg #[.int .i64 (Ins.fOp x), .int .i64 (Ins.fA x), .int .i64 (Ins.fB x), .int .i64 (Ins.fC x), .int .i32 (Ins.fI x)], .bool true]) (by simp [results, Tryz.f23, go_sem, g0, g1, g2, g3, g4]) rfl ?_
  exact ⟨rfl, set5_below hB1 _ _ _ _ _⟩
set_option maxRecDepth 100000 in
set_option maxHeartbeats 2000000 in
theorem rdecode_no1 (x : Int) (h0 : 0 ≤ x) (h1 : x < 18446744073709551616) (hf : Ins.fitB (Ins.fOp x) (Ins.fA x) (Ins.fB x) (Ins.fC x) (Ins.fI x) = false) (hz : x / 1048576 % 4096 = 0) (w : World) :
    Calls Tryz.prog 23 #[.int .u64 x] w fun e w' => e = .returned (.tuple #[.agg #[.int .i64 0, .int .i64 0, .int .i64 0, .int .i64 0, .int .i32 0], .bool false]) ∧ Below w.heap.size w w' := by
  obtain ⟨y, hy⟩ : ∃ y, y = x / 1048576 % 4096 := ⟨_, rfl⟩
  obtain ⟨_, ⟨_, _⟩, ⟨_, _⟩, ⟨_, _⟩, hi0, hi1⟩ := Ins.fields_bounds h0 h1
  have hA := and_low h0 h1
  have hA1 : bits .and .u64 (x / 256) 15 = Ins.fA x := and15 (by omega) (by omega)
  have hA2 : bits .and .u64 (x / 4096) 15 = Ins.fB x := and15 (by omega) (by omega)
  have hA3 : bits .and .u64 (x / 65536) 15 = Ins.fC x := and15 (by omega) (by omega)
  have hA4 : bits .and .u64 (x / 1048576) 4095 = y := by rw [hy]; exact and4095 (by omega) (by omega)
  have hI := imm_of h0 h1
  have bI := Ib.new (w.alloc (.cells #[.int .i64 0, .int .i64 0, .int .i64 0, .int .i64 0, .int .i32 0] 45)) (Ins.fOp x) (Ins.fA x) (Ins.fB x) (Ins.fC x) (Ins.fI x)
  have bR := (Ib.new w 0 0 0 0 0).alloc (.cells #[.int .i64 (Ins.fOp x), .int .i64 (Ins.fA x), .int .i64 (Ins.fB x), .int .i64 (Ins.fC x), .int .i32 (Ins.fI x)] 45)
  simp only [World.size_alloc] at bI bR
  have hZ : Below w.heap.size w ((w.alloc (.cells #[.int .i64 0, .int .i64 0, .int .i64 0, .int .i64 0, .int .i32 0] 45)).alloc (.cells #[.int .i64 (Ins.fOp x), .int .i64 (Ins.fA x), .int .i64 (Ins.fB x), .int .i64 (Ins.fC x), .int .i32 (Ins.fI x)] 45)) := ((Below.refl _ w).alloc (Nat.le_refl _) _).alloc (by simp) _
  rw [hz] at hy
  subst hy
  clear hz
  go_enter Tryz.func23, Tryz.ntmps23
  go_wp2_with (first | (go_at_call 42; refine (rfit_any _ _ _ _ _ _).mono ?_; rintro e w1 ⟨rfl, hb1⟩; have bI1 := bI.next hb1; have bR1 := bR.next hb1; have hB1 := hZ.trans (hb1.mono hZ.size); obtain ⟨c0, c1, c2, c3, c4⟩ := bI1.cells; have f0 := bR1.frozen 0; have f1 := bR1.frozen 1; have f2 := bR1.frozen 2; have f3 := bR1.frozen 3; have f4 := bR1.frozen 4; obtain ⟨r0, r1, r2, r3, r4⟩ := bR1.cells))
  obtain ⟨g0, g1, g2, g3, g4⟩ := (bR1.set5 0 0 0 0 0).cells
  unfold set5 at g0 g1 g2 g3 g4
  refine bodyPost_ret (v := .tuple #[.agg #[.int .i64 0, .int .i64 0, .int .i64 0, .int .i64 0, .int .i32 0], .bool false]) (by simp [results, Tryz.f23, go_sem, g0, g1, g2, g3, g4]) rfl ?_
  exact ⟨rfl, set5_below hB1 _ _ _ _ _⟩
set_option maxRecDepth 100000 in
set_option maxHeartbeats 2000000 in
theorem rdecode_no2 (x : Int) (h0 : 0 ≤ x) (h1 : x < 18446744073709551616) (hz : ¬ x / 1048576 % 4096 = 0) (w : World) :
    Calls Tryz.prog 23 #[.int .u64 x] w fun e w' => e = .returned (.tuple #[.agg #[.int .i64 0, .int .i64 0, .int .i64 0, .int .i64 0, .int .i32 0], .bool false]) ∧ Below w.heap.size w w' := by
  obtain ⟨y, hy⟩ : ∃ y, y = x / 1048576 % 4096 := ⟨_, rfl⟩
  obtain ⟨_, ⟨_, _⟩, ⟨_, _⟩, ⟨_, _⟩, hi0, hi1⟩ := Ins.fields_bounds h0 h1
  have hA := and_low h0 h1
  have hA1 : bits .and .u64 (x / 256) 15 = Ins.fA x := and15 (by omega) (by omega)
  have hA2 : bits .and .u64 (x / 4096) 15 = Ins.fB x := and15 (by omega) (by omega)
  have hA3 : bits .and .u64 (x / 65536) 15 = Ins.fC x := and15 (by omega) (by omega)
  have hA4 : bits .and .u64 (x / 1048576) 4095 = y := by rw [hy]; exact and4095 (by omega) (by omega)
  have hI := imm_of h0 h1
  have bI := Ib.new (w.alloc (.cells #[.int .i64 0, .int .i64 0, .int .i64 0, .int .i64 0, .int .i32 0] 45)) (Ins.fOp x) (Ins.fA x) (Ins.fB x) (Ins.fC x) (Ins.fI x)
  have bR := (Ib.new w 0 0 0 0 0).alloc (.cells #[.int .i64 (Ins.fOp x), .int .i64 (Ins.fA x), .int .i64 (Ins.fB x), .int .i64 (Ins.fC x), .int .i32 (Ins.fI x)] 45)
  simp only [World.size_alloc] at bI bR
  have hZ : Below w.heap.size w ((w.alloc (.cells #[.int .i64 0, .int .i64 0, .int .i64 0, .int .i64 0, .int .i32 0] 45)).alloc (.cells #[.int .i64 (Ins.fOp x), .int .i64 (Ins.fA x), .int .i64 (Ins.fB x), .int .i64 (Ins.fC x), .int .i32 (Ins.fI x)] 45)) := ((Below.refl _ w).alloc (Nat.le_refl _) _).alloc (by simp) _
  rw [← hy] at hz
  clear hy
  go_enter Tryz.func23, Tryz.ntmps23
  go_wp2
  obtain ⟨g0, g1, g2, g3, g4⟩ := bR.cells
  refine bodyPost_ret (v := .tuple #[.agg #[.int .i64 0, .int .i64 0, .int .i64 0, .int .i64 0, .int .i32 0], .bool false]) (by simp [results, Tryz.f23, go_sem, g0, g1, g2, g3, g4]) rfl ?_
  exact ⟨rfl, hZ⟩
theorem rdecode_ok (x : Int) (h0 : 0 ≤ x) (h1 : x < 18446744073709551616) (hd : Ins.decB x = true) (w : World) :
    Calls Tryz.prog 23 #[.int .u64 x] w fun e w' => e = .returned (.tuple #[.agg #[.int .i64 (Ins.fOp x), .int .i64 (Ins.fA x), .int .i64 (Ins.fB x), .int .i64 (Ins.fC x), .int .i32 (Ins.fI x)], .bool true]) ∧ Below w.heap.size w w' := by
  simp only [Ins.decB, Ins.fitW, Bool.and_eq_true, decide_eq_true_eq] at hd
  exact rdecode_yes x h0 h1 hd.1 hd.2 w
theorem rdecode_no (x : Int) (h0 : 0 ≤ x) (h1 : x < 18446744073709551616) (hd : Ins.decB x = false) (w : World) :
    Calls Tryz.prog 23 #[.int .u64 x] w fun e w' => e = .returned (.tuple #[.agg #[.int .i64 0, .int .i64 0, .int .i64 0, .int .i64 0, .int .i32 0], .bool false]) ∧ Below w.heap.size w w' := by
  by_cases hz : x / 1048576 % 4096 = 0
  · exact rdecode_no1 x h0 h1 (by simpa [Ins.decB, Ins.fitW, hz] using hd) hz w
  · exact rdecode_no2 x h0 h1 hz w
end Go.Proofs.YtagljcgfmdahhaaGreatDoor
