/-
  PROVED HERE: what InstBack returns of two fit instructions, which are unlike, where the word is none (a contract over this translation). Condition: the library's table of powers of ten is as the program's text lays it.
-/
import Derived.Test.YtdacepaebmcfbaaDoorIns17
import Derived.Deep.RegionHeld3
namespace Go.Proofs.YtdacepaebmcfbaaDoor
open Go.RowKit Go.Shelf
set_option linter.unusedVariables false

theorem toList_inj {a b : ByteArray} (h : a.toList = b.toList) : a = b := by
  rw [ByteArray.toList_eq, ByteArray.toList_eq] at h
  exact ba_ext h
set_option maxRecDepth 100000 in
set_option maxHeartbeats 4000000 in
theorem back_no_else0 {x i0 i1 i2 i3 i4 k0 k1 k2 k3 k4 p0 p1 p2 p3 p4 : Int} (hi0 : -2147483648 ≤ i4) (hi1 : i4 < 2147483648) (hk0 : -2147483648 ≤ k4) (hk1 : k4 < 2147483648)
    (hd : ∀ w, Calls Tryd.prog 6 #[.int .u64 x] w fun e w' => e = .returned (.tuple #[.agg #[.int .i64 p0, .int .i64 p1, .int .i64 p2, .int .i64 p3, .int .i32 p4], .bool false]) ∧ Below w.heap.size w w') (hf : Ins.fitB i0 i1 i2 i3 i4 = true) (hf' : Ins.fitB k0 k1 k2 k3 k4 = true) (hn : ¬ i0 = k0) (w : World) (hv : Vars w) :
    Calls Tryd.prog 4 #[.agg #[.int .i64 i0, .int .i64 i1, .int .i64 i2, .int .i64 i3, .int .i32 i4], .agg #[.int .i64 k0, .int .i64 k1, .int .i64 k2, .int .i64 k3, .int .i32 k4], .int .u64 x] w fun e w' => e = .returned (.bool true) ∧ Below w.heap.size w w' := by
  have hfi := fun W => fit_any i0 i1 i2 i3 i4 hi0 hi1 W
  have hei := fun W => encode_any i0 i1 i2 i3 i4 hi0 hi1 W
  have hti := fun W hv => text_any i0 i1 i2 i3 i4 hi0 hi1 W hv
  obtain ⟨d0, d1, d2, e0, e1, e2, e3, e4⟩ := dec_word hf hi0 hi1
  have hdi := fun W => decode_yes (Ins.wordI i0 i1 i2 i3 i4) d0 d1 d2 W
  simp only [e0, e1, e2, e3, e4] at hdi
  clear d0 d1 d2 e0 e1 e2 e3 e4
  have hfk := fun W => fit_any k0 k1 k2 k3 k4 hk0 hk1 W
  have hek := fun W => encode_any k0 k1 k2 k3 k4 hk0 hk1 W
  have htk := fun W hv => text_any k0 k1 k2 k3 k4 hk0 hk1 W hv
  have hwn : ¬ Ins.wordI i0 i1 i2 i3 i4 = Ins.wordI k0 k1 k2 k3 k4 := fun h => hn (word_inj hf hf' hi0 hi1 hk0 hk1 h).1
  have htn : ¬ txS i0 i1 i2 i3 i4 = txS k0 k1 k2 k3 k4 := fun h => hn (text_inj hf hf' h).1
  simp only [hf'] at hfk
  obtain ⟨y2, q2⟩ : ∃ z, Hid (Ins.wordI k0 k1 k2 k3 k4 = z) := ⟨_, rfl⟩
  simp only [q2.out] at hek hwn
  obtain ⟨s2, r2⟩ : ∃ z, Hid (txS k0 k1 k2 k3 k4 = z) := ⟨_, rfl⟩
  simp only [r2.out] at htk htn
  simp only [hf] at hfi
  obtain ⟨y1, q1⟩ : ∃ z, Hid (Ins.wordI i0 i1 i2 i3 i4 = z) := ⟨_, rfl⟩
  simp only [q1.out] at hei hdi hwn
  obtain ⟨s1, r1⟩ : ∃ z, Hid (txS i0 i1 i2 i3 i4 = z) := ⟨_, rfl⟩
  simp only [r1.out] at hti htn
  clear hf hf'
  have htl : (s1.toList == s2.toList) = false := by
    rw [beq_eq_false_iff_ne]
    intro e
    exact htn (toList_inj e)
  have hwb : (y1 == y2) = false := by simpa using hwn
  clear htn
  have hM := Bck.start (i0 := i0) (i1 := i1) (i2 := i2) (i3 := i3) (i4 := i4) (k0 := k0) (k1 := k1) (k2 := k2) (k3 := k3) (k4 := k4) hv
  clear hv hi0 hi1 hk0 hk1
  go_enter Tryd.func4, Tryd.ntmps4
  go_wp2_with (first | (go_at_call 6; (with_reducible refine (hd _).mono ?_); rintro e w' ⟨rfl, hb⟩; replace hM := (hM.next hb).alloc (.cells #[.int .i64 p0, .int .i64 p1, .int .i64 p2, .int .i64 p3, .int .i32 p4] 23); obtain ⟨⟨x0, x1, x2, x3, x4⟩, ⟨y0, y1, y2, y3, y4⟩⟩ := hM.cells) | (go_at_call 8; (with_reducible refine (hfi _).mono ?_); rintro e w' ⟨rfl, hb⟩; replace hM := hM.next hb; obtain ⟨⟨x0, x1, x2, x3, x4⟩, ⟨y0, y1, y2, y3, y4⟩⟩ := hM.cells) | (go_at_call 8; (with_reducible refine (hfk _).mono ?_); rintro e w' ⟨rfl, hb⟩; replace hM := hM.next hb; obtain ⟨⟨x0, x1, x2, x3, x4⟩, ⟨y0, y1, y2, y3, y4⟩⟩ := hM.cells) | (go_at_call 10; (with_reducible refine (hei _).mono ?_); rintro e w' ⟨rfl, hb⟩; replace hM := hM.next hb; obtain ⟨⟨x0, x1, x2, x3, x4⟩, ⟨y0, y1, y2, y3, y4⟩⟩ := hM.cells) | (go_at_call 6; (with_reducible refine (hdi _).mono ?_); rintro e wz ⟨rfl, hbz⟩))
  have hM2 := (hM.next hbz).alloc (.cells #[.int .i64 i0, .int .i64 i1, .int .i64 i2, .int .i64 i3, .int .i32 i4] 23)
  have bA := Ib.new wz i0 i1 i2 i3 i4
  obtain ⟨B, hB⟩ : ∃ B, wz.heap.size = B := ⟨_, rfl⟩
  obtain ⟨W0, hW0⟩ : ∃ W, wz.alloc (.cells #[.int .i64 i0, .int .i64 i1, .int .i64 i2, .int .i64 i3, .int .i32 i4] 23) = W := ⟨_, rfl⟩
  rw [hW0] at hM2 bA
  rw [hB] at bA
  simp only [hB, hW0]
  have HS : TelS w (w.heap.size + 1) w.heap.size B k0 k1 k2 k3 k4 i0 i1 i2 i3 i4 W0.drew := (Tel.next ⟨hM2.2.1, hM2.1, bA, hM2.2.2.1, hM2.2.2.2⟩ (Below.refl _ W0).drew).mem
  clear hM hM2 bA hbz hB hW0 hd hdi hfi hfk
  go_region_held3 (fun W => W.cell? ⟨w.heap.size + 1, 0, none⟩ = some (.int .i64 k0) ∧ W.cell? ⟨w.heap.size + 1, 1, none⟩ = some (.int .i64 k1) ∧ W.cell? ⟨w.heap.size + 1, 2, none⟩ = some (.int .i64 k2) ∧ W.cell? ⟨w.heap.size + 1, 3, none⟩ = some (.int .i64 k3) ∧ W.cell? ⟨w.heap.size + 1, 4, none⟩ = some (.int .i32 k4) ∧ W.cell? ⟨w.heap.size, 0, none⟩ = some (.int .i64 i0) ∧ W.cell? ⟨w.heap.size, 1, none⟩ = some (.int .i64 i1) ∧ W.cell? ⟨w.heap.size, 2, none⟩ = some (.int .i64 i2) ∧ W.cell? ⟨w.heap.size, 3, none⟩ = some (.int .i64 i3) ∧ W.cell? ⟨w.heap.size, 4, none⟩ = some (.int .i32 i4) ∧ W.cell? ⟨B, 0, none⟩ = some (.int .i64 i0) ∧ W.cell? ⟨B, 1, none⟩ = some (.int .i64 i1) ∧ W.cell? ⟨B, 2, none⟩ = some (.int .i64 i2) ∧ W.cell? ⟨B, 3, none⟩ = some (.int .i64 i3) ∧ W.cell? ⟨B, 4, none⟩ = some (.int .i32 i4) ∧ Tel w (w.heap.size + 1) w.heap.size B k0 k1 k2 k3 k4 i0 i1 i2 i3 i4 W) (first | exact HS | exact TelS.next (by assumption) hb | go_keep) (first | (go_at_call 10; (with_reducible refine (hei _).mono ?_); rintro e w' ⟨rfl, hb⟩) | (go_at_call 10; (with_reducible refine (hek _).mono ?_); rintro e w' ⟨rfl, hb⟩) | (go_at_call 12; (with_reducible refine (hti _ ?vv).mono ?_); (case vv => exact (TelS.tel (by assumption)).2.2.2.1); rintro e w' ⟨rfl, hb⟩) | (go_at_call 12; (with_reducible refine (htk _ ?vv).mono ?_); (case vv => exact (TelS.tel (by assumption)).2.2.2.1); rintro e w' ⟨rfl, hb⟩) | (go_at_call 16; (with_reducible refine (awake8_any _ ?vv).mono ?_); (case vv => exact (TelS.tel (by assumption)).2.2.2.1); rintro e w' ⟨rfl, hb⟩))
  have hfin : Below w.heap.size w w' := (TelS.tel (by assumption : TelS w (w.heap.size + 1) w.heap.size B k0 k1 k2 k3 k4 i0 i1 i2 i3 i4 w')).2.2.2.2
  clear hei hti hek htk
  go_wp2
  go_ret
  exact ⟨rfl, hfin⟩
set_option maxRecDepth 100000 in
set_option maxHeartbeats 4000000 in
theorem back_no_else1 {x i0 i1 i2 i3 i4 k1 k2 k3 k4 p0 p1 p2 p3 p4 : Int} (hi0 : -2147483648 ≤ i4) (hi1 : i4 < 2147483648) (hk0 : -2147483648 ≤ k4) (hk1 : k4 < 2147483648)
    (hd : ∀ w, Calls Tryd.prog 6 #[.int .u64 x] w fun e w' => e = .returned (.tuple #[.agg #[.int .i64 p0, .int .i64 p1, .int .i64 p2, .int .i64 p3, .int .i32 p4], .bool false]) ∧ Below w.heap.size w w') (hf : Ins.fitB i0 i1 i2 i3 i4 = true) (hf' : Ins.fitB i0 k1 k2 k3 k4 = true) (hn : ¬ i1 = k1) (w : World) (hv : Vars w) :
    Calls Tryd.prog 4 #[.agg #[.int .i64 i0, .int .i64 i1, .int .i64 i2, .int .i64 i3, .int .i32 i4], .agg #[.int .i64 i0, .int .i64 k1, .int .i64 k2, .int .i64 k3, .int .i32 k4], .int .u64 x] w fun e w' => e = .returned (.bool true) ∧ Below w.heap.size w w' := by
  have hfi := fun W => fit_any i0 i1 i2 i3 i4 hi0 hi1 W
  have hei := fun W => encode_any i0 i1 i2 i3 i4 hi0 hi1 W
  have hti := fun W hv => text_any i0 i1 i2 i3 i4 hi0 hi1 W hv
  obtain ⟨d0, d1, d2, e0, e1, e2, e3, e4⟩ := dec_word hf hi0 hi1
  have hdi := fun W => decode_yes (Ins.wordI i0 i1 i2 i3 i4) d0 d1 d2 W
  simp only [e0, e1, e2, e3, e4] at hdi
  clear d0 d1 d2 e0 e1 e2 e3 e4
  have hfk := fun W => fit_any i0 k1 k2 k3 k4 hk0 hk1 W
  have hek := fun W => encode_any i0 k1 k2 k3 k4 hk0 hk1 W
  have htk := fun W hv => text_any i0 k1 k2 k3 k4 hk0 hk1 W hv
  have hwn : ¬ Ins.wordI i0 i1 i2 i3 i4 = Ins.wordI i0 k1 k2 k3 k4 := fun h => hn (word_inj hf hf' hi0 hi1 hk0 hk1 h).2.1
  have htn : ¬ txS i0 i1 i2 i3 i4 = txS i0 k1 k2 k3 k4 := fun h => hn (text_inj hf hf' h).2.1
  simp only [hf'] at hfk
  obtain ⟨y2, q2⟩ : ∃ z, Hid (Ins.wordI i0 k1 k2 k3 k4 = z) := ⟨_, rfl⟩
  simp only [q2.out] at hek hwn
  obtain ⟨s2, r2⟩ : ∃ z, Hid (txS i0 k1 k2 k3 k4 = z) := ⟨_, rfl⟩
  simp only [r2.out] at htk htn
  simp only [hf] at hfi
  obtain ⟨y1, q1⟩ : ∃ z, Hid (Ins.wordI i0 i1 i2 i3 i4 = z) := ⟨_, rfl⟩
  simp only [q1.out] at hei hdi hwn
  obtain ⟨s1, r1⟩ : ∃ z, Hid (txS i0 i1 i2 i3 i4 = z) := ⟨_, rfl⟩
  simp only [r1.out] at hti htn
  clear hf hf'
  have htl : (s1.toList == s2.toList) = false := by
    rw [beq_eq_false_iff_ne]
    intro e
    exact htn (toList_inj e)
  have hwb : (y1 == y2) = false := by simpa using hwn
  clear htn
  have hM := Bck.start (i0 := i0) (i1 := i1) (i2 := i2) (i3 := i3) (i4 := i4) (k0 := i0) (k1 := k1) (k2 := k2) (k3 := k3) (k4 := k4) hv
  clear hv hi0 hi1 hk0 hk1
  go_enter Tryd.func4, Tryd.ntmps4
  go_wp2_with (first | (go_at_call 6; (with_reducible refine (hd _).mono ?_); rintro e w' ⟨rfl, hb⟩; replace hM := (hM.next hb).alloc (.cells #[.int .i64 p0, .int .i64 p1, .int .i64 p2, .int .i64 p3, .int .i32 p4] 23); obtain ⟨⟨x0, x1, x2, x3, x4⟩, ⟨y0, y1, y2, y3, y4⟩⟩ := hM.cells) | (go_at_call 8; (with_reducible refine (hfi _).mono ?_); rintro e w' ⟨rfl, hb⟩; replace hM := hM.next hb; obtain ⟨⟨x0, x1, x2, x3, x4⟩, ⟨y0, y1, y2, y3, y4⟩⟩ := hM.cells) | (go_at_call 8; (with_reducible refine (hfk _).mono ?_); rintro e w' ⟨rfl, hb⟩; replace hM := hM.next hb; obtain ⟨⟨x0, x1, x2, x3, x4⟩, ⟨y0, y1, y2, y3, y4⟩⟩ := hM.cells) | (go_at_call 10; (with_reducible refine (hei _).mono ?_); rintro e w' ⟨rfl, hb⟩; replace hM := hM.next hb; obtain ⟨⟨x0, x1, x2, x3, x4⟩, ⟨y0, y1, y2, y3, y4⟩⟩ := hM.cells) | (go_at_call 6; (with_reducible refine (hdi _).mono ?_); rintro e wz ⟨rfl, hbz⟩))
  have hM2 := (hM.next hbz).alloc (.cells #[.int .i64 i0, .int .i64 i1, .int .i64 i2, .int .i64 i3, .int .i32 i4] 23)
  have bA := Ib.new wz i0 i1 i2 i3 i4
  obtain ⟨B, hB⟩ : ∃ B, wz.heap.size = B := ⟨_, rfl⟩
  obtain ⟨W0, hW0⟩ : ∃ W, wz.alloc (.cells #[.int .i64 i0, .int .i64 i1, .int .i64 i2, .int .i64 i3, .int .i32 i4] 23) = W := ⟨_, rfl⟩
  rw [hW0] at hM2 bA
  rw [hB] at bA
  simp only [hB, hW0]
  have HS : TelS w (w.heap.size + 1) w.heap.size B i0 k1 k2 k3 k4 i0 i1 i2 i3 i4 W0.drew := (Tel.next ⟨hM2.2.1, hM2.1, bA, hM2.2.2.1, hM2.2.2.2⟩ (Below.refl _ W0).drew).mem
  clear hM hM2 bA hbz hB hW0 hd hdi hfi hfk
  go_region_held3 (fun W => W.cell? ⟨w.heap.size + 1, 0, none⟩ = some (.int .i64 i0) ∧ W.cell? ⟨w.heap.size + 1, 1, none⟩ = some (.int .i64 k1) ∧ W.cell? ⟨w.heap.size + 1, 2, none⟩ = some (.int .i64 k2) ∧ W.cell? ⟨w.heap.size + 1, 3, none⟩ = some (.int .i64 k3) ∧ W.cell? ⟨w.heap.size + 1, 4, none⟩ = some (.int .i32 k4) ∧ W.cell? ⟨w.heap.size, 0, none⟩ = some (.int .i64 i0) ∧ W.cell? ⟨w.heap.size, 1, none⟩ = some (.int .i64 i1) ∧ W.cell? ⟨w.heap.size, 2, none⟩ = some (.int .i64 i2) ∧ W.cell? ⟨w.heap.size, 3, none⟩ = some (.int .i64 i3) ∧ W.cell? ⟨w.heap.size, 4, none⟩ = some (.int .i32 i4) ∧ W.cell? ⟨B, 0, none⟩ = some (.int .i64 i0) ∧ W.cell? ⟨B, 1, none⟩ = some (.int .i64 i1) ∧ W.cell? ⟨B, 2, none⟩ = some (.int .i64 i2) ∧ W.cell? ⟨B, 3, none⟩ = some (.int .i64 i3) ∧ W.cell? ⟨B, 4, none⟩ = some (.int .i32 i4) ∧ Tel w (w.heap.size + 1) w.heap.size B i0 k1 k2 k3 k4 i0 i1 i2 i3 i4 W) (first | exact HS | exact TelS.next (by assumption) hb | go_keep) (first | (go_at_call 10; (with_reducible refine (hei _).mono ?_); rintro e w' ⟨rfl, hb⟩) | (go_at_call 10; (with_reducible refine (hek _).mono ?_); rintro e w' ⟨rfl, hb⟩) | (go_at_call 12; (with_reducible refine (hti _ ?vv).mono ?_); (case vv => exact (TelS.tel (by assumption)).2.2.2.1); rintro e w' ⟨rfl, hb⟩) | (go_at_call 12; (with_reducible refine (htk _ ?vv).mono ?_); (case vv => exact (TelS.tel (by assumption)).2.2.2.1); rintro e w' ⟨rfl, hb⟩) | (go_at_call 16; (with_reducible refine (awake8_any _ ?vv).mono ?_); (case vv => exact (TelS.tel (by assumption)).2.2.2.1); rintro e w' ⟨rfl, hb⟩))
  have hfin : Below w.heap.size w w' := (TelS.tel (by assumption : TelS w (w.heap.size + 1) w.heap.size B i0 k1 k2 k3 k4 i0 i1 i2 i3 i4 w')).2.2.2.2
  clear hei hti hek htk
  go_wp2
  go_ret
  exact ⟨rfl, hfin⟩
set_option maxRecDepth 100000 in
set_option maxHeartbeats 4000000 in
theorem back_no_else2 {x i0 i1 i2 i3 i4 k2 k3 k4 p0 p1 p2 p3 p4 : Int} (hi0 : -2147483648 ≤ i4) (hi1 : i4 < 2147483648) (hk0 : -2147483648 ≤ k4) (hk1 : k4 < 2147483648)
    (hd : ∀ w, Calls Tryd.prog 6 #[.int .u64 x] w fun e w' => e = .returned (.tuple #[.agg #[.int .i64 p0, .int .i64 p1, .int .i64 p2, .int .i64 p3, .int .i32 p4], .bool false]) ∧ Below w.heap.size w w') (hf : Ins.fitB i0 i1 i2 i3 i4 = true) (hf' : Ins.fitB i0 i1 k2 k3 k4 = true) (hn : ¬ i2 = k2) (w : World) (hv : Vars w) :
    Calls Tryd.prog 4 #[.agg #[.int .i64 i0, .int .i64 i1, .int .i64 i2, .int .i64 i3, .int .i32 i4], .agg #[.int .i64 i0, .int .i64 i1, .int .i64 k2, .int .i64 k3, .int .i32 k4], .int .u64 x] w fun e w' => e = .returned (.bool true) ∧ Below w.heap.size w w' := by
  have hfi := fun W => fit_any i0 i1 i2 i3 i4 hi0 hi1 W
  have hei := fun W => encode_any i0 i1 i2 i3 i4 hi0 hi1 W
  have hti := fun W hv => text_any i0 i1 i2 i3 i4 hi0 hi1 W hv
  obtain ⟨d0, d1, d2, e0, e1, e2, e3, e4⟩ := dec_word hf hi0 hi1
  have hdi := fun W => decode_yes (Ins.wordI i0 i1 i2 i3 i4) d0 d1 d2 W
  simp only [e0, e1, e2, e3, e4] at hdi
  clear d0 d1 d2 e0 e1 e2 e3 e4
  have hfk := fun W => fit_any i0 i1 k2 k3 k4 hk0 hk1 W
  have hek := fun W => encode_any i0 i1 k2 k3 k4 hk0 hk1 W
  have htk := fun W hv => text_any i0 i1 k2 k3 k4 hk0 hk1 W hv
  have hwn : ¬ Ins.wordI i0 i1 i2 i3 i4 = Ins.wordI i0 i1 k2 k3 k4 := fun h => hn (word_inj hf hf' hi0 hi1 hk0 hk1 h).2.2.1
  have htn : ¬ txS i0 i1 i2 i3 i4 = txS i0 i1 k2 k3 k4 := fun h => hn (text_inj hf hf' h).2.2.1
  simp only [hf'] at hfk
  obtain ⟨y2, q2⟩ : ∃ z, Hid (Ins.wordI i0 i1 k2 k3 k4 = z) := ⟨_, rfl⟩
  simp only [q2.out] at hek hwn
  obtain ⟨s2, r2⟩ : ∃ z, Hid (txS i0 i1 k2 k3 k4 = z) := ⟨_, rfl⟩
  simp only [r2.out] at htk htn
  simp only [hf] at hfi
  obtain ⟨y1, q1⟩ : ∃ z, Hid (Ins.wordI i0 i1 i2 i3 i4 = z) := ⟨_, rfl⟩
  simp only [q1.out] at hei hdi hwn
  obtain ⟨s1, r1⟩ : ∃ z, Hid (txS i0 i1 i2 i3 i4 = z) := ⟨_, rfl⟩
  simp only [r1.out] at hti htn
  clear hf hf'
  have htl : (s1.toList == s2.toList) = false := by
    rw [beq_eq_false_iff_ne]
    intro e
    exact htn (toList_inj e)
  have hwb : (y1 == y2) = false := by simpa using hwn
  clear htn
  have hM := Bck.start (i0 := i0) (i1 := i1) (i2 := i2) (i3 := i3) (i4 := i4) (k0 := i0) (k1 := i1) (k2 := k2) (k3 := k3) (k4 := k4) hv
  clear hv hi0 hi1 hk0 hk1
  go_enter Tryd.func4, Tryd.ntmps4
  go_wp2_with (first | (go_at_call 6; (with_reducible refine (hd _).mono ?_); rintro e w' ⟨rfl, hb⟩; replace hM := (hM.next hb).alloc (.cells #[.int .i64 p0, .int .i64 p1, .int .i64 p2, .int .i64 p3, .int .i32 p4] 23); obtain ⟨⟨x0, x1, x2, x3, x4⟩, ⟨y0, y1, y2, y3, y4⟩⟩ := hM.cells) | (go_at_call 8; (with_reducible refine (hfi _).mono ?_); rintro e w' ⟨rfl, hb⟩; replace hM := hM.next hb; obtain ⟨⟨x0, x1, x2, x3, x4⟩, ⟨y0, y1, y2, y3, y4⟩⟩ := hM.cells) | (go_at_call 8; (with_reducible refine (hfk _).mono ?_); rintro e w' ⟨rfl, hb⟩; replace hM := hM.next hb; obtain ⟨⟨x0, x1, x2, x3, x4⟩, ⟨y0, y1, y2, y3, y4⟩⟩ := hM.cells) | (go_at_call 10; (with_reducible refine (hei _).mono ?_); rintro e w' ⟨rfl, hb⟩; replace hM := hM.next hb; obtain ⟨⟨x0, x1, x2, x3, x4⟩, ⟨y0, y1, y2, y3, y4⟩⟩ := hM.cells) | (go_at_call 6; (with_reducible refine (hdi _).mono ?_); rintro e wz ⟨rfl, hbz⟩))
  have hM2 := (hM.next hbz).alloc (.cells #[.int .i64 i0, .int .i64 i1, .int .i64 i2, .int .i64 i3, .int .i32 i4] 23)
  have bA := Ib.new wz i0 i1 i2 i3 i4
  obtain ⟨B, hB⟩ : ∃ B, wz.heap.size = B := ⟨_, rfl⟩
  obtain ⟨W0, hW0⟩ : ∃ W, wz.alloc (.cells #[.int .i64 i0, .int .i64 i1, .int .i64 i2, .int .i64 i3, .int .i32 i4] 23) = W := ⟨_, rfl⟩
  rw [hW0] at hM2 bA
  rw [hB] at bA
  simp only [hB, hW0]
  have HS : TelS w (w.heap.size + 1) w.heap.size B i0 i1 k2 k3 k4 i0 i1 i2 i3 i4 W0.drew := (Tel.next ⟨hM2.2.1, hM2.1, bA, hM2.2.2.1, hM2.2.2.2⟩ (Below.refl _ W0).drew).mem
  clear hM hM2 bA hbz hB hW0 hd hdi hfi hfk
  go_region_held3 (fun W => W.cell? ⟨w.heap.size + 1, 0, none⟩ = some (.int .i64 i0) ∧ W.cell? ⟨w.heap.size + 1, 1, none⟩ = some (.int .i64 i1) ∧ W.cell? ⟨w.heap.size + 1, 2, none⟩ = some (.int .i64 k2) ∧ W.cell? ⟨w.heap.size + 1, 3, none⟩ = some (.int .i64 k3) ∧ W.cell? ⟨w.heap.size + 1, 4, none⟩ = some (.int .i32 k4) ∧ W.cell? ⟨w.heap.size, 0, none⟩ = some (.int .i64 i0) ∧ W.cell? ⟨w.heap.size, 1, none⟩ = some (.int .i64 i1) ∧ W.cell? ⟨w.heap.size, 2, none⟩ = some (.int .i64 i2) ∧ W.cell? ⟨w.heap.size, 3, none⟩ = some (.int .i64 i3) ∧ W.cell? ⟨w.heap.size, 4, none⟩ = some (.int .i32 i4) ∧ W.cell? ⟨B, 0, none⟩ = some (.int .i64 i0) ∧ W.cell? ⟨B, 1, none⟩ = some (.int .i64 i1) ∧ W.cell? ⟨B, 2, none⟩ = some (.int .i64 i2) ∧ W.cell? ⟨B, 3, none⟩ = some (.int .i64 i3) ∧ W.cell? ⟨B, 4, none⟩ = some (.int .i32 i4) ∧ Tel w (w.heap.size + 1) w.heap.size B i0 i1 k2 k3 k4 i0 i1 i2 i3 i4 W) (first | exact HS | exact TelS.next (by assumption) hb | go_keep) (first | (go_at_call 10; (with_reducible refine (hei _).mono ?_); rintro e w' ⟨rfl, hb⟩) | (go_at_call 10; (with_reducible refine (hek _).mono ?_); rintro e w' ⟨rfl, hb⟩) | (go_at_call 12; (with_reducible refine (hti _ ?vv).mono ?_); (case vv => exact (TelS.tel (by assumption)).2.2.2.1); rintro e w' ⟨rfl, hb⟩) | (go_at_call 12; (with_reducible refine (htk _ ?vv).mono ?_); (case vv => exact (TelS.tel (by assumption)).2.2.2.1); rintro e w' ⟨rfl, hb⟩) | (go_at_call 16; (with_reducible refine (awake8_any _ ?vv).mono ?_); (case vv => exact (TelS.tel (by assumption)).2.2.2.1); rintro e w' ⟨rfl, hb⟩))
  have hfin : Below w.heap.size w w' := (TelS.tel (by assumption : TelS w (w.heap.size + 1) w.heap.size B i0 i1 k2 k3 k4 i0 i1 i2 i3 i4 w')).2.2.2.2
  clear hei hti hek htk
  go_wp2
  go_ret
  exact ⟨rfl, hfin⟩
set_option maxRecDepth 100000 in
set_option maxHeartbeats 4000000 in
theorem back_no_else3 {x i0 i1 i2 i3 i4 k3 k4 p0 p1 p2 p3 p4 : Int} (hi0 : -2147483648 ≤ i4) (hi1 : i4 < 2147483648) (hk0 : -2147483648 ≤ k4) (hk1 : k4 < 2147483648)
    (hd : ∀ w, Calls Tryd.prog 6 #[.int .u64 x] w fun e w' => e = .returned (.tuple #[.agg #[.int .i64 p0, .int .i64 p1, .int .i64 p2, .int .i64 p3, .int .i32 p4], .bool false]) ∧ Below w.heap.size w w') (hf : Ins.fitB i0 i1 i2 i3 i4 = true) (hf' : Ins.fitB i0 i1 i2 k3 k4 = true) (hn : ¬ i3 = k3) (w : World) (hv : Vars w) :
    Calls Tryd.prog 4 #[.agg #[.int .i64 i0, .int .i64 i1, .int .i64 i2, .int .i64 i3, .int .i32 i4], .agg #[.int .i64 i0, .int .i64 i1, .int .i64 i2, .int .i64 k3, .int .i32 k4], .int .u64 x] w fun e w' => e = .returned (.bool true) ∧ Below w.heap.size w w' := by
  have hfi := fun W => fit_any i0 i1 i2 i3 i4 hi0 hi1 W
  have hei := fun W => encode_any i0 i1 i2 i3 i4 hi0 hi1 W
  have hti := fun W hv => text_any i0 i1 i2 i3 i4 hi0 hi1 W hv
  obtain ⟨d0, d1, d2, e0, e1, e2, e3, e4⟩ := dec_word hf hi0 hi1
  have hdi := fun W => decode_yes (Ins.wordI i0 i1 i2 i3 i4) d0 d1 d2 W
  simp only [e0, e1, e2, e3, e4] at hdi
  clear d0 d1 d2 e0 e1 e2 e3 e4
  have hfk := fun W => fit_any i0 i1 i2 k3 k4 hk0 hk1 W
  have hek := fun W => encode_any i0 i1 i2 k3 k4 hk0 hk1 W
  have htk := fun W hv => text_any i0 i1 i2 k3 k4 hk0 hk1 W hv
  have hwn : ¬ Ins.wordI i0 i1 i2 i3 i4 = Ins.wordI i0 i1 i2 k3 k4 := fun h => hn (word_inj hf hf' hi0 hi1 hk0 hk1 h).2.2.2.1
  have htn : ¬ txS i0 i1 i2 i3 i4 = txS i0 i1 i2 k3 k4 := fun h => hn (text_inj hf hf' h).2.2.2.1
  simp only [hf'] at hfk
  obtain ⟨y2, q2⟩ : ∃ z, Hid (Ins.wordI i0 i1 i2 k3 k4 = z) := ⟨_, rfl⟩
  simp only [q2.out] at hek hwn
  obtain ⟨s2, r2⟩ : ∃ z, Hid (txS i0 i1 i2 k3 k4 = z) := ⟨_, rfl⟩
  simp only [r2.out] at htk htn
  simp only [hf] at hfi
  obtain ⟨y1, q1⟩ : ∃ z, Hid (Ins.wordI i0 i1 i2 i3 i4 = z) := ⟨_, rfl⟩
  simp only [q1.out] at hei hdi hwn
  obtain ⟨s1, r1⟩ : ∃ z, Hid (txS i0 i1 i2 i3 i4 = z) := ⟨_, rfl⟩
  simp only [r1.out] at hti htn
  clear hf hf'
  have htl : (s1.toList == s2.toList) = false := by
    rw [beq_eq_false_iff_ne]
    intro e
    exact htn (toList_inj e)
  have hwb : (y1 == y2) = false := by simpa using hwn
  clear htn
  have hM := Bck.start (i0 := i0) (i1 := i1) (i2 := i2) (i3 := i3) (i4 := i4) (k0 := i0) (k1 := i1) (k2 := i2) (k3 := k3) (k4 := k4) hv
  clear hv hi0 hi1 hk0 hk1
  go_enter Tryd.func4, Tryd.ntmps4
  go_wp2_with (first | (go_at_call 6; (with_reducible refine (hd _).mono ?_); rintro e w' ⟨rfl, hb⟩; replace hM := (hM.next hb).alloc (.cells #[.int .i64 p0, .int .i64 p1, .int .i64 p2, .int .i64 p3, .int .i32 p4] 23); obtain ⟨⟨x0, x1, x2, x3, x4⟩, ⟨y0, y1, y2, y3, y4⟩⟩ := hM.cells) | (go_at_call 8; (with_reducible refine (hfi _).mono ?_); rintro e w' ⟨rfl, hb⟩; replace hM := hM.next hb; obtain ⟨⟨x0, x1, x2, x3, x4⟩, ⟨y0, y1, y2, y3, y4⟩⟩ := hM.cells) | (go_at_call 8; (with_reducible refine (hfk _).mono ?_); rintro e w' ⟨rfl, hb⟩; replace hM := hM.next hb; obtain ⟨⟨x0, x1, x2, x3, x4⟩, ⟨y0, y1, y2, y3, y4⟩⟩ := hM.cells) | (go_at_call 10; (with_reducible refine (hei _).mono ?_); rintro e w' ⟨rfl, hb⟩; replace hM := hM.next hb; obtain ⟨⟨x0, x1, x2, x3, x4⟩, ⟨y0, y1, y2, y3, y4⟩⟩ := hM.cells) | (go_at_call 6; (with_reducible refine (hdi _).mono ?_); rintro e wz ⟨rfl, hbz⟩))
  have hM2 := (hM.next hbz).alloc (.cells #[.int .i64 i0, .int .i64 i1, .int .i64 i2, .int .i64 i3, .int .i32 i4] 23)
  have bA := Ib.new wz i0 i1 i2 i3 i4
  obtain ⟨B, hB⟩ : ∃ B, wz.heap.size = B := ⟨_, rfl⟩
  obtain ⟨W0, hW0⟩ : ∃ W, wz.alloc (.cells #[.int .i64 i0, .int .i64 i1, .int .i64 i2, .int .i64 i3, .int .i32 i4] 23) = W := ⟨_, rfl⟩
  rw [hW0] at hM2 bA
  rw [hB] at bA
  simp only [hB, hW0]
  have HS : TelS w (w.heap.size + 1) w.heap.size B i0 i1 i2 k3 k4 i0 i1 i2 i3 i4 W0.drew := (Tel.next ⟨hM2.2.1, hM2.1, bA, hM2.2.2.1, hM2.2.2.2⟩ (Below.refl _ W0).drew).mem
  clear hM hM2 bA hbz hB hW0 hd hdi hfi hfk
  go_region_held3 (fun W => W.cell? ⟨w.heap.size + 1, 0, none⟩ = some (.int .i64 i0) ∧ W.cell? ⟨w.heap.size + 1, 1, none⟩ = some (.int .i64 i1) ∧ W.cell? ⟨w.heap.size + 1, 2, none⟩ = some (.int .i64 i2) ∧ W.cell? ⟨w.heap.size + 1, 3, none⟩ = some (.int .i64 k3) ∧ W.cell? ⟨w.heap.size + 1, 4, none⟩ = some (.int .i32 k4) ∧ W.cell? ⟨w.heap.size, 0, none⟩ = some (.int .i64 i0) ∧ W.cell? ⟨w.heap.size, 1, none⟩ = some (.int .i64 i1) ∧ W.cell? ⟨w.heap.size, 2, none⟩ = some (.int .i64 i2) ∧ W.cell? ⟨w.heap.size, 3, none⟩ = some (.int .i64 i3) ∧ W.cell? ⟨w.heap.size, 4, none⟩ = some (.int .i32 i4) ∧ W.cell? ⟨B, 0, none⟩ = some (.int .i64 i0) ∧ W.cell? ⟨B, 1, none⟩ = some (.int .i64 i1) ∧ W.cell? ⟨B, 2, none⟩ = some (.int .i64 i2) ∧ W.cell? ⟨B, 3, none⟩ = some (.int .i64 i3) ∧ W.cell? ⟨B, 4, none⟩ = some (.int .i32 i4) ∧ Tel w (w.heap.size + 1) w.heap.size B i0 i1 i2 k3 k4 i0 i1 i2 i3 i4 W) (first | exact HS | exact TelS.next (by assumption) hb | go_keep) (first | (go_at_call 10; (with_reducible refine (hei _).mono ?_); rintro e w' ⟨rfl, hb⟩) | (go_at_call 10; (with_reducible refine (hek _).mono ?_); rintro e w' ⟨rfl, hb⟩) | (go_at_call 12; (with_reducible refine (hti _ ?vv).mono ?_); (case vv => exact (TelS.tel (by assumption)).2.2.2.1); rintro e w' ⟨rfl, hb⟩) | (go_at_call 12; (with_reducible refine (htk _ ?vv).mono ?_); (case vv => exact (TelS.tel (by assumption)).2.2.2.1); rintro e w' ⟨rfl, hb⟩) | (go_at_call 16; (with_reducible refine (awake8_any _ ?vv).mono ?_); (case vv => exact (TelS.tel (by assumption)).2.2.2.1); rintro e w' ⟨rfl, hb⟩))
  have hfin : Below w.heap.size w w' := (TelS.tel (by assumption : TelS w (w.heap.size + 1) w.heap.size B i0 i1 i2 k3 k4 i0 i1 i2 i3 i4 w')).2.2.2.2
  clear hei hti hek htk
  go_wp2
  go_ret
  exact ⟨rfl, hfin⟩
set_option maxRecDepth 100000 in
set_option maxHeartbeats 4000000 in
theorem back_no_else4 {x i0 i1 i2 i3 i4 k4 p0 p1 p2 p3 p4 : Int} (hi0 : -2147483648 ≤ i4) (hi1 : i4 < 2147483648) (hk0 : -2147483648 ≤ k4) (hk1 : k4 < 2147483648)
    (hd : ∀ w, Calls Tryd.prog 6 #[.int .u64 x] w fun e w' => e = .returned (.tuple #[.agg #[.int .i64 p0, .int .i64 p1, .int .i64 p2, .int .i64 p3, .int .i32 p4], .bool false]) ∧ Below w.heap.size w w') (hf : Ins.fitB i0 i1 i2 i3 i4 = true) (hf' : Ins.fitB i0 i1 i2 i3 k4 = true) (hn : ¬ i4 = k4) (w : World) (hv : Vars w) :
    Calls Tryd.prog 4 #[.agg #[.int .i64 i0, .int .i64 i1, .int .i64 i2, .int .i64 i3, .int .i32 i4], .agg #[.int .i64 i0, .int .i64 i1, .int .i64 i2, .int .i64 i3, .int .i32 k4], .int .u64 x] w fun e w' => e = .returned (.bool true) ∧ Below w.heap.size w w' := by
  have hfi := fun W => fit_any i0 i1 i2 i3 i4 hi0 hi1 W
  have hei := fun W => encode_any i0 i1 i2 i3 i4 hi0 hi1 W
  have hti := fun W hv => text_any i0 i1 i2 i3 i4 hi0 hi1 W hv
  obtain ⟨d0, d1, d2, e0, e1, e2, e3, e4⟩ := dec_word hf hi0 hi1
  have hdi := fun W => decode_yes (Ins.wordI i0 i1 i2 i3 i4) d0 d1 d2 W
  simp only [e0, e1, e2, e3, e4] at hdi
  clear d0 d1 d2 e0 e1 e2 e3 e4
  have hfk := fun W => fit_any i0 i1 i2 i3 k4 hk0 hk1 W
  have hek := fun W => encode_any i0 i1 i2 i3 k4 hk0 hk1 W
  have htk := fun W hv => text_any i0 i1 i2 i3 k4 hk0 hk1 W hv
  have hwn : ¬ Ins.wordI i0 i1 i2 i3 i4 = Ins.wordI i0 i1 i2 i3 k4 := fun h => hn (word_inj hf hf' hi0 hi1 hk0 hk1 h).2.2.2.2
  have htn : ¬ txS i0 i1 i2 i3 i4 = txS i0 i1 i2 i3 k4 := fun h => hn (text_inj hf hf' h).2.2.2.2
  simp only [hf'] at hfk
  obtain ⟨y2, q2⟩ : ∃ z, Hid (Ins.wordI i0 i1 i2 i3 k4 = z) := ⟨_, rfl⟩
  simp only [q2.out] at hek hwn
  obtain ⟨s2, r2⟩ : ∃ z, Hid (txS i0 i1 i2 i3 k4 = z) := ⟨_, rfl⟩
  simp only [r2.out] at htk htn
  simp only [hf] at hfi
  obtain ⟨y1, q1⟩ : ∃ z, Hid (Ins.wordI i0 i1 i2 i3 i4 = z) := ⟨_, rfl⟩
  simp only [q1.out] at hei hdi hwn
  obtain ⟨s1, r1⟩ : ∃ z, Hid (txS i0 i1 i2 i3 i4 = z) := ⟨_, rfl⟩
  simp only [r1.out] at hti htn
  clear hf hf'
  have htl : (s1.toList == s2.toList) = false := by
    rw [beq_eq_false_iff_ne]
    intro e
    exact htn (toList_inj e)
  have hwb : (y1 == y2) = false := by simpa using hwn
  clear htn
  have hM := Bck.start (i0 := i0) (i1 := i1) (i2 := i2) (i3 := i3) (i4 := i4) (k0 := i0) (k1 := i1) (k2 := i2) (k3 := i3) (k4 := k4) hv
  clear hv hi0 hi1 hk0 hk1
  go_enter Tryd.func4, Tryd.ntmps4
  go_wp2_with (first | (go_at_call 6; (with_reducible refine (hd _).mono ?_); rintro e w' ⟨rfl, hb⟩; replace hM := (hM.next hb).alloc (.cells #[.int .i64 p0, .int .i64 p1, .int .i64 p2, .int .i64 p3, .int .i32 p4] 23); obtain ⟨⟨x0, x1, x2, x3, x4⟩, ⟨y0, y1, y2, y3, y4⟩⟩ := hM.cells) | (go_at_call 8; (with_reducible refine (hfi _).mono ?_); rintro e w' ⟨rfl, hb⟩; replace hM := hM.next hb; obtain ⟨⟨x0, x1, x2, x3, x4⟩, ⟨y0, y1, y2, y3, y4⟩⟩ := hM.cells) | (go_at_call 8; (with_reducible refine (hfk _).mono ?_); rintro e w' ⟨rfl, hb⟩; replace hM := hM.next hb; obtain ⟨⟨x0, x1, x2, x3, x4⟩, ⟨y0, y1, y2, y3, y4⟩⟩ := hM.cells) | (go_at_call 10; (with_reducible refine (hei _).mono ?_); rintro e w' ⟨rfl, hb⟩; replace hM := hM.next hb; obtain ⟨⟨x0, x1, x2, x3, x4⟩, ⟨y0, y1, y2, y3, y4⟩⟩ := hM.cells) | (go_at_call 6; (with_reducible refine (hdi _).mono ?_); rintro e wz ⟨rfl, hbz⟩))
  have hM2 := (hM.next hbz).alloc (.cells #[.int .i64 i0, .int .i64 i1, .int .i64 i2, .int .i64 i3, .int .i32 i4] 23)
  have bA := Ib.new wz i0 i1 i2 i3 i4
  obtain ⟨B, hB⟩ : ∃ B, wz.heap.size = B := ⟨_, rfl⟩
  obtain ⟨W0, hW0⟩ : ∃ W, wz.alloc (.cells #[.int .i64 i0, .int .i64 i1, .int .i64 i2, .int .i64 i3, .int .i32 i4] 23) = W := ⟨_, rfl⟩
  rw [hW0] at hM2 bA
  rw [hB] at bA
  simp only [hB, hW0]
  have HS : TelS w (w.heap.size + 1) w.heap.size B i0 i1 i2 i3 k4 i0 i1 i2 i3 i4 W0.drew := (Tel.next ⟨hM2.2.1, hM2.1, bA, hM2.2.2.1, hM2.2.2.2⟩ (Below.refl _ W0).drew).mem
  clear hM hM2 bA hbz hB hW0 hd hdi hfi hfk
  go_region_held3 (fun W => W.cell? ⟨w.heap.size + 1, 0, none⟩ = some (.int .i64 i0) ∧ W.cell? ⟨w.heap.size + 1, 1, none⟩ = some (.int .i64 i1) ∧ W.cell? ⟨w.heap.size + 1, 2, none⟩ = some (.int .i64 i2) ∧ W.cell? ⟨w.heap.size + 1, 3, none⟩ = some (.int .i64 i3) ∧ W.cell? ⟨w.heap.size + 1, 4, none⟩ = some (.int .i32 k4) ∧ W.cell? ⟨w.heap.size, 0, none⟩ = some (.int .i64 i0) ∧ W.cell? ⟨w.heap.size, 1, none⟩ = some (.int .i64 i1) ∧ W.cell? ⟨w.heap.size, 2, none⟩ = some (.int .i64 i2) ∧ W.cell? ⟨w.heap.size, 3, none⟩ = some (.int .i64 i3) ∧ W.cell? ⟨w.heap.size, 4, none⟩ = some (.int .i32 i4) ∧ W.cell? ⟨B, 0, none⟩ = some (.int .i64 i0) ∧ W.cell? ⟨B, 1, none⟩ = some (.int .i64 i1) ∧ W.cell? ⟨B, 2, none⟩ = some (.int .i64 i2) ∧ W.cell? ⟨B, 3, none⟩ = some (.int .i64 i3) ∧ W.cell? ⟨B, 4, none⟩ = some (.int .i32 i4) ∧ Tel w (w.heap.size + 1) w.heap.size B i0 i1 i2 i3 k4 i0 i1 i2 i3 i4 W) (first | exact HS | exact TelS.next (by assumption) hb | go_keep) (first | (go_at_call 10; (with_reducible refine (hei _).mono ?_); rintro e w' ⟨rfl, hb⟩) | (go_at_call 10; (with_reducible refine (hek _).mono ?_); rintro e w' ⟨rfl, hb⟩) | (go_at_call 12; (with_reducible refine (hti _ ?vv).mono ?_); (case vv => exact (TelS.tel (by assumption)).2.2.2.1); rintro e w' ⟨rfl, hb⟩) | (go_at_call 12; (with_reducible refine (htk _ ?vv).mono ?_); (case vv => exact (TelS.tel (by assumption)).2.2.2.1); rintro e w' ⟨rfl, hb⟩) | (go_at_call 16; (with_reducible refine (awake8_any _ ?vv).mono ?_); (case vv => exact (TelS.tel (by assumption)).2.2.2.1); rintro e w' ⟨rfl, hb⟩))
  have hfin : Below w.heap.size w w' := (TelS.tel (by assumption : TelS w (w.heap.size + 1) w.heap.size B i0 i1 i2 i3 k4 i0 i1 i2 i3 i4 w')).2.2.2.2
  clear hei hti hek htk
  go_wp2
  go_ret
  exact ⟨rfl, hfin⟩
theorem back_no_fits {x i0 i1 i2 i3 i4 k0 k1 k2 k3 k4 p0 p1 p2 p3 p4 : Int} (hi0 : -2147483648 ≤ i4) (hi1 : i4 < 2147483648) (hk0 : -2147483648 ≤ k4) (hk1 : k4 < 2147483648)
    (hd : ∀ w, Calls Tryd.prog 6 #[.int .u64 x] w fun e w' => e = .returned (.tuple #[.agg #[.int .i64 p0, .int .i64 p1, .int .i64 p2, .int .i64 p3, .int .i32 p4], .bool false]) ∧ Below w.heap.size w w') (hf : Ins.fitB i0 i1 i2 i3 i4 = true) (hf' : Ins.fitB k0 k1 k2 k3 k4 = true) (w : World) (hv : Vars w) :
    Calls Tryd.prog 4 #[.agg #[.int .i64 i0, .int .i64 i1, .int .i64 i2, .int .i64 i3, .int .i32 i4], .agg #[.int .i64 k0, .int .i64 k1, .int .i64 k2, .int .i64 k3, .int .i32 k4], .int .u64 x] w fun e w' => e = .returned (.bool true) ∧ Below w.heap.size w w' := by
  by_cases h0 : i0 = k0
  case neg => exact back_no_else0 hi0 hi1 hk0 hk1 hd hf hf' h0 w hv
  subst h0
  by_cases h1 : i1 = k1
  case neg => exact back_no_else1 hi0 hi1 hk0 hk1 hd hf hf' h1 w hv
  subst h1
  by_cases h2 : i2 = k2
  case neg => exact back_no_else2 hi0 hi1 hk0 hk1 hd hf hf' h2 w hv
  subst h2
  by_cases h3 : i3 = k3
  case neg => exact back_no_else3 hi0 hi1 hk0 hk1 hd hf hf' h3 w hv
  subst h3
  by_cases h4 : i4 = k4
  case neg => exact back_no_else4 hi0 hi1 hk0 hk1 hd hf hf' h4 w hv
  subst h4
  exact back_no_same hi0 hi1 hd hf w hv
end Go.Proofs.YtdacepaebmcfbaaDoor
