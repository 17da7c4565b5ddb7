/-
  PROVED HERE: what InstBack returns, case by case: the word is read or not, the instructions are fit or not (contracts over this translation). Condition: the library's table of powers of ten is as the program's text lays it.
-/
import Derived.Test.YtdacepaebmcfbaaDoorIns15
namespace Go.Proofs.YtdacepaebmcfbaaDoor
open Go.RowKit Go.Shelf
set_option linter.unusedVariables false

/-- What lies in memory while InstBack asks: both instructions. -/
def Bck (w : World) (i0 i1 i2 i3 i4 k0 k1 k2 k3 k4 : Int) (W : World) : Prop := Ib W w.heap.size i0 i1 i2 i3 i4 ∧ Ib W (w.heap.size + 1) k0 k1 k2 k3 k4 ∧ Vars W ∧ Below w.heap.size w W
section
variable {w X Y : World} {i0 i1 i2 i3 i4 k0 k1 k2 k3 k4 : Int}
theorem Bck.next (h : Bck w i0 i1 i2 i3 i4 k0 k1 k2 k3 k4 X) (hb : Below X.heap.size X Y) : Bck w i0 i1 i2 i3 i4 k0 k1 k2 k3 k4 Y :=
  ⟨h.1.next hb, h.2.1.next hb, h.2.2.1.later hb, h.2.2.2.trans (hb.mono h.2.2.2.size)⟩
theorem Bck.alloc (h : Bck w i0 i1 i2 i3 i4 k0 k1 k2 k3 k4 X) (o : Obj) : Bck w i0 i1 i2 i3 i4 k0 k1 k2 k3 k4 (X.alloc o) := h.next ((Below.refl _ X).alloc (Nat.le_refl _) o)
theorem Bck.start (hv : Vars w) : Bck w i0 i1 i2 i3 i4 k0 k1 k2 k3 k4 ((w.alloc (.cells #[.int .i64 i0, .int .i64 i1, .int .i64 i2, .int .i64 i3, .int .i32 i4] 23)).alloc (.cells #[.int .i64 k0, .int .i64 k1, .int .i64 k2, .int .i64 k3, .int .i32 k4] 23)) := by
  have h1 := (Below.refl w.heap.size w).alloc (Nat.le_refl _) (.cells #[.int .i64 i0, .int .i64 i1, .int .i64 i2, .int .i64 i3, .int .i32 i4] 23)
  have h2 := h1.alloc (by simp) (.cells #[.int .i64 k0, .int .i64 k1, .int .i64 k2, .int .i64 k3, .int .i32 k4] 23)
  have h3 := Ib.new (w.alloc (.cells #[.int .i64 i0, .int .i64 i1, .int .i64 i2, .int .i64 i3, .int .i32 i4] 23)) k0 k1 k2 k3 k4
  rw [World.size_alloc] at h3
  exact ⟨(Ib.new w i0 i1 i2 i3 i4).alloc _, h3, hv.later h2, h2⟩
theorem Bck.cells (h : Bck w i0 i1 i2 i3 i4 k0 k1 k2 k3 k4 X) : (X.cell? ⟨w.heap.size, 0, none⟩ = some (.int .i64 i0) ∧ X.cell? ⟨w.heap.size, 1, none⟩ = some (.int .i64 i1) ∧ X.cell? ⟨w.heap.size, 2, none⟩ = some (.int .i64 i2) ∧ X.cell? ⟨w.heap.size, 3, none⟩ = some (.int .i64 i3) ∧ X.cell? ⟨w.heap.size, 4, none⟩ = some (.int .i32 i4)) ∧
    (X.cell? ⟨w.heap.size + 1, 0, none⟩ = some (.int .i64 k0) ∧ X.cell? ⟨w.heap.size + 1, 1, none⟩ = some (.int .i64 k1) ∧ X.cell? ⟨w.heap.size + 1, 2, none⟩ = some (.int .i64 k2) ∧ X.cell? ⟨w.heap.size + 1, 3, none⟩ = some (.int .i64 k3) ∧ X.cell? ⟨w.heap.size + 1, 4, none⟩ = some (.int .i32 k4)) := ⟨h.1.cells, h.2.1.cells⟩
end
set_option maxRecDepth 100000 in
set_option maxHeartbeats 4000000 in
theorem back_no_unfit {x i0 i1 i2 i3 i4 k0 k1 k2 k3 k4 p0 p1 p2 p3 p4 : Int} (hi0 : -2147483648 ≤ i4) (hi1 : i4 < 2147483648) (hk0 : -2147483648 ≤ k4) (hk1 : k4 < 2147483648)
    (hd : ∀ w, Calls Tryd.prog 6 #[.int .u64 x] w fun e w' => e = .returned (.tuple #[.agg #[.int .i64 p0, .int .i64 p1, .int .i64 p2, .int .i64 p3, .int .i32 p4], .bool false]) ∧ Below w.heap.size w w') (hf : Ins.fitB i0 i1 i2 i3 i4 = false) (w : World) (hv : Vars w) :
    Calls Tryd.prog 4 #[.agg #[.int .i64 i0, .int .i64 i1, .int .i64 i2, .int .i64 i3, .int .i32 i4], .agg #[.int .i64 k0, .int .i64 k1, .int .i64 k2, .int .i64 k3, .int .i32 k4], .int .u64 x] w fun e w' => e = .returned (.bool true) ∧ Below w.heap.size w w' := by
  have hfi := fun W => fit_any i0 i1 i2 i3 i4 hi0 hi1 W
  have hfk := fun W => fit_any k0 k1 k2 k3 k4 hk0 hk1 W
  have hei := fun W => encode_any i0 i1 i2 i3 i4 hi0 hi1 W
  have hti := fun W hv => text_any i0 i1 i2 i3 i4 hi0 hi1 W hv
  have hw : Ins.wordI i0 i1 i2 i3 i4 = 0 := by unfold Ins.wordI; rw [hf]; rfl
  have hx : txS i0 i1 i2 i3 i4 = ⟨#[]⟩ := by unfold txS; rw [hf]; rfl
  simp only [hf] at hfi
  simp only [hw] at hei
  simp only [hx] at hti
  clear hf hw hx hfk
  have hM := Bck.start (i0 := i0) (i1 := i1) (i2 := i2) (i3 := i3) (i4 := i4) (k0 := k0) (k1 := k1) (k2 := k2) (k3 := k3) (k4 := k4) hv
  clear hv hi0 hi1 hk0 hk1
  go_enter Tryd.func4, Tryd.ntmps4
  go_wp2_with (first | (go_at_call 6; (with_reducible refine (hd _).mono ?_); rintro e w' ⟨rfl, hb⟩; replace hM := (hM.next hb).alloc (.cells #[.int .i64 p0, .int .i64 p1, .int .i64 p2, .int .i64 p3, .int .i32 p4] 23); obtain ⟨⟨x0, x1, x2, x3, x4⟩, ⟨y0, y1, y2, y3, y4⟩⟩ := hM.cells) | (go_at_call 8; (with_reducible refine (hfi _).mono ?_); rintro e w' ⟨rfl, hb⟩; replace hM := hM.next hb; obtain ⟨⟨x0, x1, x2, x3, x4⟩, ⟨y0, y1, y2, y3, y4⟩⟩ := hM.cells) | (go_at_call 10; (with_reducible refine (hei _).mono ?_); rintro e w' ⟨rfl, hb⟩; replace hM := hM.next hb; obtain ⟨⟨x0, x1, x2, x3, x4⟩, ⟨y0, y1, y2, y3, y4⟩⟩ := hM.cells) | (go_at_call 12; (with_reducible refine (hti _ ?vv).mono ?_); (case vv => exact hM.2.2.1); rintro e w' ⟨rfl, hb⟩; replace hM := hM.next hb; obtain ⟨⟨x0, x1, x2, x3, x4⟩, ⟨y0, y1, y2, y3, y4⟩⟩ := hM.cells) | (go_at_call 16; (with_reducible refine (awake8_any _ ?vv).mono ?_); (case vv => exact hM.2.2.1); rintro e w' ⟨rfl, hb⟩; replace hM := hM.next hb))
  go_ret
  exact ⟨rfl, hM.2.2.2⟩
set_option maxRecDepth 100000 in
set_option maxHeartbeats 4000000 in
theorem back_no_one {x i0 i1 i2 i3 i4 k0 k1 k2 k3 k4 p0 p1 p2 p3 p4 : Int} (hi0 : -2147483648 ≤ i4) (hi1 : i4 < 2147483648) (hk0 : -2147483648 ≤ k4) (hk1 : k4 < 2147483648)
    (hd : ∀ w, Calls Tryd.prog 6 #[.int .u64 x] w fun e w' => e = .returned (.tuple #[.agg #[.int .i64 p0, .int .i64 p1, .int .i64 p2, .int .i64 p3, .int .i32 p4], .bool false]) ∧ Below w.heap.size w w') (hf : Ins.fitB i0 i1 i2 i3 i4 = true) (hf' : Ins.fitB k0 k1 k2 k3 k4 = false) (w : World) (hv : Vars w) :
    Calls Tryd.prog 4 #[.agg #[.int .i64 i0, .int .i64 i1, .int .i64 i2, .int .i64 i3, .int .i32 i4], .agg #[.int .i64 k0, .int .i64 k1, .int .i64 k2, .int .i64 k3, .int .i32 k4], .int .u64 x] w fun e w' => e = .returned (.bool true) ∧ Below w.heap.size w w' := by
  have hfi := fun W => fit_any i0 i1 i2 i3 i4 hi0 hi1 W
  have hfk := fun W => fit_any k0 k1 k2 k3 k4 hk0 hk1 W
  have hei := fun W => encode_any i0 i1 i2 i3 i4 hi0 hi1 W
  have hti := fun W hv => text_any i0 i1 i2 i3 i4 hi0 hi1 W hv
  simp only [hf] at hfi
  simp only [hf'] at hfk
  clear hf hf' hei hti
  have hM := Bck.start (i0 := i0) (i1 := i1) (i2 := i2) (i3 := i3) (i4 := i4) (k0 := k0) (k1 := k1) (k2 := k2) (k3 := k3) (k4 := k4) hv
  clear hv hi0 hi1 hk0 hk1
  go_enter Tryd.func4, Tryd.ntmps4
  go_wp2_with (first | (go_at_call 6; (with_reducible refine (hd _).mono ?_); rintro e w' ⟨rfl, hb⟩; replace hM := (hM.next hb).alloc (.cells #[.int .i64 p0, .int .i64 p1, .int .i64 p2, .int .i64 p3, .int .i32 p4] 23); obtain ⟨⟨x0, x1, x2, x3, x4⟩, ⟨y0, y1, y2, y3, y4⟩⟩ := hM.cells) | (go_at_call 8; (with_reducible refine (hfi _).mono ?_); rintro e w' ⟨rfl, hb⟩; replace hM := hM.next hb; obtain ⟨⟨x0, x1, x2, x3, x4⟩, ⟨y0, y1, y2, y3, y4⟩⟩ := hM.cells) | (go_at_call 8; (with_reducible refine (hfk _).mono ?_); rintro e w' ⟨rfl, hb⟩; replace hM := hM.next hb; obtain ⟨⟨x0, x1, x2, x3, x4⟩, ⟨y0, y1, y2, y3, y4⟩⟩ := hM.cells))
  go_ret
  exact ⟨rfl, hM.2.2.2⟩
set_option maxRecDepth 100000 in
set_option maxHeartbeats 4000000 in
theorem back_yes_unfit {x i0 i1 i2 i3 i4 k0 k1 k2 k3 k4 p0 p1 p2 p3 p4 : Int} (hi0 : -2147483648 ≤ i4) (hi1 : i4 < 2147483648) (hk0 : -2147483648 ≤ k4) (hk1 : k4 < 2147483648)
    (hd : ∀ w, Calls Tryd.prog 6 #[.int .u64 x] w fun e w' => e = .returned (.tuple #[.agg #[.int .i64 p0, .int .i64 p1, .int .i64 p2, .int .i64 p3, .int .i32 p4], .bool true]) ∧ Below w.heap.size w w')
    (hE : ∀ w, Calls Tryd.prog 10 #[.agg #[.int .i64 p0, .int .i64 p1, .int .i64 p2, .int .i64 p3, .int .i32 p4]] w fun e w' => e = .returned (.int .u64 x) ∧ Below w.heap.size w w') (hF : ∀ w, Calls Tryd.prog 8 #[.agg #[.int .i64 p0, .int .i64 p1, .int .i64 p2, .int .i64 p3, .int .i32 p4]] w fun e w' => e = .returned (.bool true) ∧ Below w.heap.size w w')
    (hf : Ins.fitB i0 i1 i2 i3 i4 = false) (w : World) (hv : Vars w) :
    Calls Tryd.prog 4 #[.agg #[.int .i64 i0, .int .i64 i1, .int .i64 i2, .int .i64 i3, .int .i32 i4], .agg #[.int .i64 k0, .int .i64 k1, .int .i64 k2, .int .i64 k3, .int .i32 k4], .int .u64 x] w fun e w' => e = .returned (.bool true) ∧ Below w.heap.size w w' := by
  have hfi := fun W => fit_any i0 i1 i2 i3 i4 hi0 hi1 W
  have hfk := fun W => fit_any k0 k1 k2 k3 k4 hk0 hk1 W
  have hei := fun W => encode_any i0 i1 i2 i3 i4 hi0 hi1 W
  have hti := fun W hv => text_any i0 i1 i2 i3 i4 hi0 hi1 W hv
  have hw : Ins.wordI i0 i1 i2 i3 i4 = 0 := by unfold Ins.wordI; rw [hf]; rfl
  have hx : txS i0 i1 i2 i3 i4 = ⟨#[]⟩ := by unfold txS; rw [hf]; rfl
  simp only [hf] at hfi
  simp only [hw] at hei
  simp only [hx] at hti
  clear hf hw hx hfk
  have hM := Bck.start (i0 := i0) (i1 := i1) (i2 := i2) (i3 := i3) (i4 := i4) (k0 := k0) (k1 := k1) (k2 := k2) (k3 := k3) (k4 := k4) hv
  clear hv hi0 hi1 hk0 hk1
  go_enter Tryd.func4, Tryd.ntmps4
  go_wp2_with (first | (go_at_call 6; (with_reducible refine (hd _).mono ?_); rintro e w' ⟨rfl, hb⟩; replace hM := (hM.next hb).alloc (.cells #[.int .i64 p0, .int .i64 p1, .int .i64 p2, .int .i64 p3, .int .i32 p4] 23); obtain ⟨⟨x0, x1, x2, x3, x4⟩, ⟨y0, y1, y2, y3, y4⟩⟩ := hM.cells; have hA := Ib.new w' p0 p1 p2 p3 p4) | (go_at_call 10; (with_reducible refine (hE _).mono ?_); rintro e w' ⟨rfl, hb⟩; replace hM := hM.next hb; obtain ⟨⟨x0, x1, x2, x3, x4⟩, ⟨y0, y1, y2, y3, y4⟩⟩ := hM.cells; obtain ⟨z0, z1, z2, z3, z4⟩ := (hA.next hb).cells) | (go_at_call 8; (with_reducible refine (hF _).mono ?_); rintro e w' ⟨rfl, hb⟩; replace hM := hM.next hb; obtain ⟨⟨x0, x1, x2, x3, x4⟩, ⟨y0, y1, y2, y3, y4⟩⟩ := hM.cells) | (go_at_call 8; (with_reducible refine (hfi _).mono ?_); rintro e w' ⟨rfl, hb⟩; replace hM := hM.next hb; obtain ⟨⟨x0, x1, x2, x3, x4⟩, ⟨y0, y1, y2, y3, y4⟩⟩ := hM.cells) | (go_at_call 10; (with_reducible refine (hei _).mono ?_); rintro e w' ⟨rfl, hb⟩; replace hM := hM.next hb; obtain ⟨⟨x0, x1, x2, x3, x4⟩, ⟨y0, y1, y2, y3, y4⟩⟩ := hM.cells) | (go_at_call 12; (with_reducible refine (hti _ ?vv).mono ?_); (case vv => exact hM.2.2.1); rintro e w' ⟨rfl, hb⟩; replace hM := hM.next hb; obtain ⟨⟨x0, x1, x2, x3, x4⟩, ⟨y0, y1, y2, y3, y4⟩⟩ := hM.cells) | (go_at_call 16; (with_reducible refine (awake8_any _ ?vv).mono ?_); (case vv => exact hM.2.2.1); rintro e w' ⟨rfl, hb⟩; replace hM := hM.next hb))
  go_ret
  exact ⟨rfl, hM.2.2.2⟩
set_option maxRecDepth 100000 in
set_option maxHeartbeats 4000000 in
theorem back_yes_one {x i0 i1 i2 i3 i4 k0 k1 k2 k3 k4 p0 p1 p2 p3 p4 : Int} (hi0 : -2147483648 ≤ i4) (hi1 : i4 < 2147483648) (hk0 : -2147483648 ≤ k4) (hk1 : k4 < 2147483648)
    (hd : ∀ w, Calls Tryd.prog 6 #[.int .u64 x] w fun e w' => e = .returned (.tuple #[.agg #[.int .i64 p0, .int .i64 p1, .int .i64 p2, .int .i64 p3, .int .i32 p4], .bool true]) ∧ Below w.heap.size w w')
    (hE : ∀ w, Calls Tryd.prog 10 #[.agg #[.int .i64 p0, .int .i64 p1, .int .i64 p2, .int .i64 p3, .int .i32 p4]] w fun e w' => e = .returned (.int .u64 x) ∧ Below w.heap.size w w') (hF : ∀ w, Calls Tryd.prog 8 #[.agg #[.int .i64 p0, .int .i64 p1, .int .i64 p2, .int .i64 p3, .int .i32 p4]] w fun e w' => e = .returned (.bool true) ∧ Below w.heap.size w w')
    (hf : Ins.fitB i0 i1 i2 i3 i4 = true) (hf' : Ins.fitB k0 k1 k2 k3 k4 = false) (w : World) (hv : Vars w) :
    Calls Tryd.prog 4 #[.agg #[.int .i64 i0, .int .i64 i1, .int .i64 i2, .int .i64 i3, .int .i32 i4], .agg #[.int .i64 k0, .int .i64 k1, .int .i64 k2, .int .i64 k3, .int .i32 k4], .int .u64 x] w fun e w' => e = .returned (.bool true) ∧ Below w.heap.size w w' := by
  have hfi := fun W => fit_any i0 i1 i2 i3 i4 hi0 hi1 W
  have hfk := fun W => fit_any k0 k1 k2 k3 k4 hk0 hk1 W
  have hei := fun W => encode_any i0 i1 i2 i3 i4 hi0 hi1 W
  have hti := fun W hv => text_any i0 i1 i2 i3 i4 hi0 hi1 W hv
  simp only [hf] at hfi
  simp only [hf'] at hfk
  clear hf hf' hei hti
  have hM := Bck.start (i0 := i0) (i1 := i1) (i2 := i2) (i3 := i3) (i4 := i4) (k0 := k0) (k1 := k1) (k2 := k2) (k3 := k3) (k4 := k4) hv
  clear hv hi0 hi1 hk0 hk1
  go_enter Tryd.func4, Tryd.ntmps4
  go_wp2_with (first | (go_at_call 6; (with_reducible refine (hd _).mono ?_); rintro e w' ⟨rfl, hb⟩; replace hM := (hM.next hb).alloc (.cells #[.int .i64 p0, .int .i64 p1, .int .i64 p2, .int .i64 p3, .int .i32 p4] 23); obtain ⟨⟨x0, x1, x2, x3, x4⟩, ⟨y0, y1, y2, y3, y4⟩⟩ := hM.cells; have hA := Ib.new w' p0 p1 p2 p3 p4) | (go_at_call 10; (with_reducible refine (hE _).mono ?_); rintro e w' ⟨rfl, hb⟩; replace hM := hM.next hb; obtain ⟨⟨x0, x1, x2, x3, x4⟩, ⟨y0, y1, y2, y3, y4⟩⟩ := hM.cells; obtain ⟨z0, z1, z2, z3, z4⟩ := (hA.next hb).cells) | (go_at_call 8; (with_reducible refine (hF _).mono ?_); rintro e w' ⟨rfl, hb⟩; replace hM := hM.next hb; obtain ⟨⟨x0, x1, x2, x3, x4⟩, ⟨y0, y1, y2, y3, y4⟩⟩ := hM.cells) | (go_at_call 8; (with_reducible refine (hfi _).mono ?_); rintro e w' ⟨rfl, hb⟩; replace hM := hM.next hb; obtain ⟨⟨x0, x1, x2, x3, x4⟩, ⟨y0, y1, y2, y3, y4⟩⟩ := hM.cells) | (go_at_call 8; (with_reducible refine (hfk _).mono ?_); rintro e w' ⟨rfl, hb⟩; replace hM := hM.next hb; obtain ⟨⟨x0, x1, x2, x3, x4⟩, ⟨y0, y1, y2, y3, y4⟩⟩ := hM.cells))
  go_ret
  exact ⟨rfl, hM.2.2.2⟩
end Go.Proofs.YtdacepaebmcfbaaDoor
