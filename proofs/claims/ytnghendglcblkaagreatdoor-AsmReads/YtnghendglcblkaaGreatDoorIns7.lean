/-
  PROVED HERE: what inst.Decode returns when it is called (contracts over this translation). No condition.
-/
import Derived.Test.YtnghendglcblkaaGreatDoorIns6
namespace Go.Proofs.YtnghendglcblkaaGreatDoor
open Go.RowKit Go.Shelf
set_option linter.unusedVariables false

theorem and_low {x : Int} (h0 : 0 ≤ x) (h1 : x < 18446744073709551616) : bits .and .u64 x 255 = Ins.fOp x := by
  obtain ⟨n, rfl⟩ := Int.eq_ofNat_of_zero_le h0
  have h2 : n < 18446744073709551616 := by omega
  have := u64_and_nat n 255 h2 (by omega)
  rw [show ((255 : Nat) : Int) = 255 from rfl] at this
  rw [this, show (255 : Nat) = 2 ^ 8 - 1 from rfl, Nat.and_two_pow_sub_one_eq_mod]
  unfold Ins.fOp
  omega
theorem imm_of {x : Int} (h0 : 0 ≤ x) (h1 : x < 18446744073709551616) : IntKind.i32.wrap (x / 4294967296) = Ins.fI x := by
  unfold Ins.fI
  rw [IntKind.wrap_i32]
  split <;> omega

def set5 (W : World) (B : Nat) (op a b c i : Int) : World := ((((W.setCell ⟨B, 0, none⟩ (.int .i64 op)).setCell ⟨B, 1, none⟩ (.int .i64 a)).setCell ⟨B, 2, none⟩ (.int .i64 b)).setCell ⟨B, 3, none⟩ (.int .i64 c)).setCell ⟨B, 4, none⟩ (.int .i32 i)
theorem Ib.set5 {W : World} {B : Nat} {op a b c i : Int} (h : Ib W B op a b c i) (op' a' b' c' i' : Int) : Ib (set5 W B op' a' b' c' i') B op' a' b' c' i' := by
  have h1 := heap_setCell_same W B 0 _ 35 (.int .i64 op') h
  have h2 := heap_setCell_same _ B 1 _ 35 (.int .i64 a') h1
  have h3 := heap_setCell_same _ B 2 _ 35 (.int .i64 b') h2
  have h4 := heap_setCell_same _ B 3 _ 35 (.int .i64 c') h3
  have h5 := heap_setCell_same _ B 4 _ 35 (.int .i32 i') h4
  exact h5.trans (by simp)
theorem set5_below {w W : World} {B : Nat} (h : Below B w W) (op a b c i : Int) : Below B w (set5 W B op a b c i) :=
  ((((h.setCell (p := ⟨B, 0, none⟩) (Nat.le_refl _) _).setCell (p := ⟨B, 1, none⟩) (Nat.le_refl _) _).setCell (p := ⟨B, 2, none⟩) (Nat.le_refl _) _).setCell (p := ⟨B, 3, none⟩) (Nat.le_refl _) _).setCell (p := ⟨B, 4, none⟩) (Nat.le_refl _) _

set_option maxRecDepth 100000 in
set_option maxHeartbeats 2000000 in
theorem decode_yes (x : Int) (h0 : 0 ≤ x) (h1 : x < 18446744073709551616) (hd : Ins.decB x = true) (w : World) :
    Calls Tryz.prog 19 #[.int .u64 x] w fun e w' => e = .returned (.tuple #[.agg #[.int .i64 (Ins.fOp x), .int .i64 (Ins.fA x), .int .i64 (Ins.fB x), .int .i64 (Ins.fC x), .int .i32 (Ins.fI x)], .bool true]) ∧ Below w.heap.size w w' := by
  have hf : Ins.fitB (Ins.fOp x) (Ins.fA x) (Ins.fB x) (Ins.fC x) (Ins.fI x) = true := by simp only [Ins.decB, Ins.fitW, Bool.and_eq_true] at hd; exact hd.1
  have hz : x / 1048576 % 4096 = 0 := by simp only [Ins.decB, Ins.fitW, Bool.and_eq_true, decide_eq_true_eq] at hd; exact hd.2
  have he : Ins.wordI (Ins.fOp x) (Ins.fA x) (Ins.fB x) (Ins.fC x) (Ins.fI x) = x := by unfold Ins.wordI; rw [hf, if_pos rfl]; exact (Ins.enc_iff h0 h1).2 hz
  clear hz hd
  obtain ⟨_, _, _, _, hi0, hi1⟩ := Ins.fields_bounds h0 h1
  have hA := and_low h0 h1
  have hI := imm_of h0 h1
  have bI := Ib.new (w.alloc (.cells #[.int .i64 0, .int .i64 0, .int .i64 0, .int .i64 0, .int .i32 0] 35)) (Ins.fOp x) (Ins.fA x) (Ins.fB x) (Ins.fC x) (Ins.fI x)
  have bR := (Ib.new w 0 0 0 0 0).alloc (.cells #[.int .i64 (Ins.fOp x), .int .i64 (Ins.fA x), .int .i64 (Ins.fB x), .int .i64 (Ins.fC x), .int .i32 (Ins.fI x)] 35)
  simp only [World.size_alloc] at bI bR
  have hZ : Below w.heap.size w ((w.alloc (.cells #[.int .i64 0, .int .i64 0, .int .i64 0, .int .i64 0, .int .i32 0] 35)).alloc (.cells #[.int .i64 (Ins.fOp x), .int .i64 (Ins.fA x), .int .i64 (Ins.fB x), .int .i64 (Ins.fC x), .int .i32 (Ins.fI x)] 35)) := ((Below.refl _ w).alloc (Nat.le_refl _) _).alloc (by simp) _
  go_enter Tryz.func19, Tryz.ntmps19
  go_wp2_with (first | (go_at_call 46; (with_reducible refine (regA_any _ _ h0 h1).mono ?_); rintro e w' ⟨rfl, rfl⟩) | (go_at_call 46; (with_reducible refine (regB_any _ _ h0 h1).mono ?_); rintro e w' ⟨rfl, rfl⟩) | (go_at_call 46; (with_reducible refine (regC_any _ _ h0 h1).mono ?_); rintro e w' ⟨rfl, rfl⟩) | (go_at_call 45; refine (place_any _ _).mono ?_; rintro e w' ⟨rfl, rfl⟩; rw [show plc 105 = 32 from rfl]) | (go_at_call 43; refine (fit_any _ _ _ _ _ hi0 hi1 _).mono ?_; rintro e w1 ⟨rfl, hb1⟩; have bI1 := bI.next hb1; have bR1 := bR.next hb1; have hB1 := hZ.trans (hb1.mono hZ.size); obtain ⟨c0, c1, c2, c3, c4⟩ := bI1.cells; skip) | (go_at_call 18; refine (encode_any _ _ _ _ _ hi0 hi1 _).mono ?_; rintro e w2 ⟨rfl, hb2⟩; clear c0 c1 c2 c3 c4; have bI2 := bI1.next hb2; have bR2 := bR1.next hb2; have hB2 := hB1.trans (hb2.mono hB1.size); obtain ⟨c0, c1, c2, c3, c4⟩ := bI2.cells; have f0 := bR2.frozen 0; have f1 := bR2.frozen 1; have f2 := bR2.frozen 2; have f3 := bR2.frozen 3; have f4 := bR2.frozen 4; obtain ⟨r0, r1, r2, r3, r4⟩ := bR2.cells))
  obtain ⟨g0, g1, g2, g3, g4⟩ := (bR2.set5 (Ins.fOp x) (Ins.fA x) (Ins.fB x) (Ins.fC x) (Ins.fI x)).cells
  unfold set5 at g0 g1 g2 g3 g4
  refine bodyPost_ret (v := .tuple #[.agg #[.int .i64 (Ins.fOp x), .int .i64 (Ins.fA x), .int .i64 (Ins.fB x), .int .i64 (Ins.fC x), .int .i32 (Ins.fI x)], .bool true]) (by simp [results, Tryz.f19, go_sem, g0, g1, g2, g3, g4]) rfl ?_
  exact ⟨rfl, set5_below hB2 _ _ _ _ _⟩
set_option maxRecDepth 100000 in
set_option maxHeartbeats 2000000 in
theorem decode_no1 (x : Int) (h0 : 0 ≤ x) (h1 : x < 18446744073709551616) (hf : Ins.fitB (Ins.fOp x) (Ins.fA x) (Ins.fB x) (Ins.fC x) (Ins.fI x) = false) (w : World) :
    Calls Tryz.prog 19 #[.int .u64 x] w fun e w' => e = .returned (.tuple #[.agg #[.int .i64 0, .int .i64 0, .int .i64 0, .int .i64 0, .int .i32 0], .bool false]) ∧ Below w.heap.size w w' := by
  obtain ⟨_, _, _, _, hi0, hi1⟩ := Ins.fields_bounds h0 h1
  have hA := and_low h0 h1
  have hI := imm_of h0 h1
  have bI := Ib.new (w.alloc (.cells #[.int .i64 0, .int .i64 0, .int .i64 0, .int .i64 0, .int .i32 0] 35)) (Ins.fOp x) (Ins.fA x) (Ins.fB x) (Ins.fC x) (Ins.fI x)
  have bR := (Ib.new w 0 0 0 0 0).alloc (.cells #[.int .i64 (Ins.fOp x), .int .i64 (Ins.fA x), .int .i64 (Ins.fB x), .int .i64 (Ins.fC x), .int .i32 (Ins.fI x)] 35)
  simp only [World.size_alloc] at bI bR
  have hZ : Below w.heap.size w ((w.alloc (.cells #[.int .i64 0, .int .i64 0, .int .i64 0, .int .i64 0, .int .i32 0] 35)).alloc (.cells #[.int .i64 (Ins.fOp x), .int .i64 (Ins.fA x), .int .i64 (Ins.fB x), .int .i64 (Ins.fC x), .int .i32 (Ins.fI x)] 35)) := ((Below.refl _ w).alloc (Nat.le_refl _) _).alloc (by simp) _
  go_enter Tryz.func19, Tryz.ntmps19
  go_wp2_with (first | (go_at_call 46; (with_reducible refine (regA_any _ _ h0 h1).mono ?_); rintro e w' ⟨rfl, rfl⟩) | (go_at_call 46; (with_reducible refine (regB_any _ _ h0 h1).mono ?_); rintro e w' ⟨rfl, rfl⟩) | (go_at_call 46; (with_reducible refine (regC_any _ _ h0 h1).mono ?_); rintro e w' ⟨rfl, rfl⟩) | (go_at_call 45; refine (place_any _ _).mono ?_; rintro e w' ⟨rfl, rfl⟩; rw [show plc 105 = 32 from rfl]) | (go_at_call 43; refine (fit_any _ _ _ _ _ hi0 hi1 _).mono ?_; rintro e w1 ⟨rfl, hb1⟩; have bI1 := bI.next hb1; have bR1 := bR.next hb1; have hB1 := hZ.trans (hb1.mono hZ.size); have f0 := bR1.frozen 0; have f1 := bR1.frozen 1; have f2 := bR1.frozen 2; have f3 := bR1.frozen 3; have f4 := bR1.frozen 4; obtain ⟨r0, r1, r2, r3, r4⟩ := bR1.cells) | (go_at_call 18; refine (encode_any _ _ _ _ _ hi0 hi1 _).mono ?_; rintro e w2 ⟨rfl, hb2⟩; clear c0 c1 c2 c3 c4; have bI2 := bI1.next hb2; have bR2 := bR1.next hb2; have hB2 := hB1.trans (hb2.mono hB1.size); obtain ⟨c0, c1, c2, c3, c4⟩ := bI2.cells; have f0 := bR2.frozen 0; have f1 := bR2.frozen 1; have f2 := bR2.frozen 2; have f3 := bR2.frozen 3; have f4 := bR2.frozen 4; obtain ⟨r0, r1, r2, r3, r4⟩ := bR2.cells))
  obtain ⟨g0, g1, g2, g3, g4⟩ := (bR1.set5 0 0 0 0 0).cells
  unfold set5 at g0 g1 g2 g3 g4
  refine bodyPost_ret (v := .tuple #[.agg #[.int .i64 0, .int .i64 0, .int .i64 0, .int .i64 0, .int .i32 0], .bool false]) (by simp [results, Tryz.f19, go_sem, g0, g1, g2, g3, g4]) rfl ?_
  exact ⟨rfl, set5_below hB1 _ _ _ _ _⟩
set_option maxRecDepth 100000 in
set_option maxHeartbeats 2000000 in
theorem decode_no2 (x : Int) (h0 : 0 ≤ x) (h1 : x < 18446744073709551616) (hf : Ins.fitB (Ins.fOp x) (Ins.fA x) (Ins.fB x) (Ins.fC x) (Ins.fI x) = true) (hz : ¬ x / 1048576 % 4096 = 0) (w : World) :
    Calls Tryz.prog 19 #[.int .u64 x] w fun e w' => e = .returned (.tuple #[.agg #[.int .i64 0, .int .i64 0, .int .i64 0, .int .i64 0, .int .i32 0], .bool false]) ∧ Below w.heap.size w w' := by
  have he : ¬ Ins.wordI (Ins.fOp x) (Ins.fA x) (Ins.fB x) (Ins.fC x) (Ins.fI x) = x := by unfold Ins.wordI; rw [hf, if_pos rfl]; exact fun h => hz ((Ins.enc_iff h0 h1).1 h)
  clear hz
  obtain ⟨_, _, _, _, hi0, hi1⟩ := Ins.fields_bounds h0 h1
  have hA := and_low h0 h1
  have hI := imm_of h0 h1
  have bI := Ib.new (w.alloc (.cells #[.int .i64 0, .int .i64 0, .int .i64 0, .int .i64 0, .int .i32 0] 35)) (Ins.fOp x) (Ins.fA x) (Ins.fB x) (Ins.fC x) (Ins.fI x)
  have bR := (Ib.new w 0 0 0 0 0).alloc (.cells #[.int .i64 (Ins.fOp x), .int .i64 (Ins.fA x), .int .i64 (Ins.fB x), .int .i64 (Ins.fC x), .int .i32 (Ins.fI x)] 35)
  simp only [World.size_alloc] at bI bR
  have hZ : Below w.heap.size w ((w.alloc (.cells #[.int .i64 0, .int .i64 0, .int .i64 0, .int .i64 0, .int .i32 0] 35)).alloc (.cells #[.int .i64 (Ins.fOp x), .int .i64 (Ins.fA x), .int .i64 (Ins.fB x), .int .i64 (Ins.fC x), .int .i32 (Ins.fI x)] 35)) := ((Below.refl _ w).alloc (Nat.le_refl _) _).alloc (by simp) _
  go_enter Tryz.func19, Tryz.ntmps19
  go_wp2_with (first | (go_at_call 46; (with_reducible refine (regA_any _ _ h0 h1).mono ?_); rintro e w' ⟨rfl, rfl⟩) | (go_at_call 46; (with_reducible refine (regB_any _ _ h0 h1).mono ?_); rintro e w' ⟨rfl, rfl⟩) | (go_at_call 46; (with_reducible refine (regC_any _ _ h0 h1).mono ?_); rintro e w' ⟨rfl, rfl⟩) | (go_at_call 45; refine (place_any _ _).mono ?_; rintro e w' ⟨rfl, rfl⟩; rw [show plc 105 = 32 from rfl]) | (go_at_call 43; refine (fit_any _ _ _ _ _ hi0 hi1 _).mono ?_; rintro e w1 ⟨rfl, hb1⟩; have bI1 := bI.next hb1; have bR1 := bR.next hb1; have hB1 := hZ.trans (hb1.mono hZ.size); obtain ⟨c0, c1, c2, c3, c4⟩ := bI1.cells; skip) | (go_at_call 18; refine (encode_any _ _ _ _ _ hi0 hi1 _).mono ?_; rintro e w2 ⟨rfl, hb2⟩; clear c0 c1 c2 c3 c4; have bI2 := bI1.next hb2; have bR2 := bR1.next hb2; have hB2 := hB1.trans (hb2.mono hB1.size); obtain ⟨c0, c1, c2, c3, c4⟩ := bI2.cells; have f0 := bR2.frozen 0; have f1 := bR2.frozen 1; have f2 := bR2.frozen 2; have f3 := bR2.frozen 3; have f4 := bR2.frozen 4; obtain ⟨r0, r1, r2, r3, r4⟩ := bR2.cells))
  obtain ⟨g0, g1, g2, g3, g4⟩ := (bR2.set5 0 0 0 0 0).cells
  unfold set5 at g0 g1 g2 g3 g4
  refine bodyPost_ret (v := .tuple #[.agg #[.int .i64 0, .int .i64 0, .int .i64 0, .int .i64 0, .int .i32 0], .bool false]) (by simp [results, Tryz.f19, go_sem, g0, g1, g2, g3, g4]) rfl ?_
  exact ⟨rfl, set5_below hB2 _ _ _ _ _⟩
theorem decode_no (x : Int) (h0 : 0 ≤ x) (h1 : x < 18446744073709551616) (hd : Ins.decB x = false) (w : World) :
    Calls Tryz.prog 19 #[.int .u64 x] w fun e w' => e = .returned (.tuple #[.agg #[.int .i64 0, .int .i64 0, .int .i64 0, .int .i64 0, .int .i32 0], .bool false]) ∧ Below w.heap.size w w' := by
  cases hf : Ins.fitB (Ins.fOp x) (Ins.fA x) (Ins.fB x) (Ins.fC x) (Ins.fI x) with
  | false => exact decode_no1 x h0 h1 hf w
  | true => exact decode_no2 x h0 h1 hf (fun hz => by simp [Ins.decB, Ins.fitW, hf, hz] at hd) w
end Go.Proofs.YtnghendglcblkaaGreatDoor
