/-
  PROVED HERE: what Text of the document's answer of layer 8 returns when it is called (a contract over this translation). No condition.
-/
import Derived.Test.YtnghendglcblkaaGreatDoorIns12
namespace Go.Proofs.YtnghendglcblkaaGreatDoor
open Go.RowKit Go.Shelf
set_option linter.unusedVariables false

set_option maxRecDepth 100000 in
set_option maxHeartbeats 4000000 in
theorem rtext_any (op a b c i : Int) (hi0 : -2147483648 ≤ i) (hi1 : i < 2147483648) (w : World) :
    Calls Tryz.prog 35 #[.agg #[.int .i64 op, .int .i64 a, .int .i64 b, .int .i64 c, .int .i32 i]] w fun e w' => e = .returned (.string (txS op a b c i)) ∧ Below w.heap.size w w' := by
  have bI := Ib.new w op a b c i
  cases hop : Ins.fitB op a b c i with
  | false =>
    have hr : Hid (txS op a b c i = ⟨#[]⟩) := by show _ = _; unfold txS; rw [hop]; rfl
    go_enter Tryz.func35, Tryz.ntmps35
    go_wp2_with (go_at_call 61; refine (rfit_any _ _ _ _ _ _).mono ?_; rintro e w' ⟨rfl, hb⟩)
    go_ret
    exact ⟨by rw [hr.out]; rfl, ((Below.refl _ w).alloc (Nat.le_refl _) _).trans (hb.mono (by simp))⟩
  | true =>
    obtain ⟨⟨o0, o1⟩, ⟨a0, a1⟩, ⟨b0, b1⟩, c0, c1⟩ := Ins.fit_bounds hop
    have hr : Hid (txS op a b c i = accT (Ins.shp op) op a b c i (List.range (Ins.shp op).length)) := by show _ = _; unfold txS; rw [hop]; rfl
    have sa := itS_size (v := a) (by omega) (by omega)
    have sb := itS_size (v := b) (by omega) (by omega)
    have sc := itS_size (v := c) (by omega) (by omega)
    have si := itS_size (v := i) (by omega) (by omega)
    have sn := nmS_size op
    obtain ⟨k, rfl⟩ := Int.eq_ofNat_of_zero_le o0
    have hk : k < 26 := by omega
    have hst : Below w.heap.size w (w.alloc (.cells #[.int .i64 (k : Int), .int .i64 a, .int .i64 b, .int .i64 c, .int .i32 i] 35)) := (Below.refl _ w).alloc (Nat.le_refl _) _
    rcases Ins.shp_cases (k : Int) with hs | hs | hs | hs | hs | hs | hs
    · have hx : Hid (txS (k : Int) a b c i = ((nmS (k : Int) ++ ⟨#[32, 114]⟩ ++ itS a) ++ ⟨#[32]⟩ ++ itS i)) := by
        show _ = _
        rw [hr.out, hs]
        refine ba_ext ?_
        simp [accT, stepT, ltr, prt, tldS, List.range_succ, ByteArray.data_append]
      have u97 : usI (k : Int) 97 = true := by show (Ins.shp (k : Int)).contains 97 = _; rw [hs]; rfl
      have u98 : usI (k : Int) 98 = false := by show (Ins.shp (k : Int)).contains 98 = _; rw [hs]; rfl
      have u99 : usI (k : Int) 99 = false := by show (Ins.shp (k : Int)).contains 99 = _; rw [hs]; rfl
      have u105 : usI (k : Int) 105 = true := by show (Ins.shp (k : Int)).contains 105 = _; rw [hs]; rfl
      clear hs hr
      go_enter Tryz.func35, Tryz.ntmps35
      go_wp2_with (first | (go_at_call 61; refine (rfit_any _ _ _ _ _ _).mono ?_; rintro e w' ⟨rfl, hb⟩; have hB := hst.trans (hb.mono hst.size); have bI1 := bI.next hb; obtain ⟨q0, q1, q2, q3, q4⟩ := bI1.cells) | (go_at_call 63; refine (rname_any k hk _).mono ?_; rintro e w2 ⟨rfl, hb2⟩; have hB2 := hB.trans (hb2.mono hB.size); have bI2 := bI1.next hb2; obtain ⟨p0, p1, p2, p3, p4⟩ := bI2.cells) | (go_at_call 64; refine (rusesI _ _ _ (by omega) (by omega)).mono ?_; rintro e w3 ⟨rfl, rfl⟩) | (go_at_call 65; refine (rdigits_any _ (by omega) (by omega) _).mono ?_; rintro e w3 ⟨rfl, hb3⟩; replace hB2 := hB2.trans (hb3.mono hB2.size); replace bI2 := bI2.next hb3; clear p0 p1 p2 p3 p4 hb3; obtain ⟨p0, p1, p2, p3, p4⟩ := bI2.cells))
      go_ret
      exact ⟨by rw [hx.out]; rfl, hB2⟩
    · have hx : Hid (txS (k : Int) a b c i = ((nmS (k : Int) ++ ⟨#[32, 114]⟩ ++ itS a) ++ ⟨#[32, 114]⟩ ++ itS b)) := by
        show _ = _
        rw [hr.out, hs]
        refine ba_ext ?_
        simp [accT, stepT, ltr, prt, tldS, List.range_succ, ByteArray.data_append]
      have u97 : usI (k : Int) 97 = true := by show (Ins.shp (k : Int)).contains 97 = _; rw [hs]; rfl
      have u98 : usI (k : Int) 98 = true := by show (Ins.shp (k : Int)).contains 98 = _; rw [hs]; rfl
      have u99 : usI (k : Int) 99 = false := by show (Ins.shp (k : Int)).contains 99 = _; rw [hs]; rfl
      have u105 : usI (k : Int) 105 = false := by show (Ins.shp (k : Int)).contains 105 = _; rw [hs]; rfl
      clear hs hr
      go_enter Tryz.func35, Tryz.ntmps35
      go_wp2_with (first | (go_at_call 61; refine (rfit_any _ _ _ _ _ _).mono ?_; rintro e w' ⟨rfl, hb⟩; have hB := hst.trans (hb.mono hst.size); have bI1 := bI.next hb; obtain ⟨q0, q1, q2, q3, q4⟩ := bI1.cells) | (go_at_call 63; refine (rname_any k hk _).mono ?_; rintro e w2 ⟨rfl, hb2⟩; have hB2 := hB.trans (hb2.mono hB.size); have bI2 := bI1.next hb2; obtain ⟨p0, p1, p2, p3, p4⟩ := bI2.cells) | (go_at_call 64; refine (rusesI _ _ _ (by omega) (by omega)).mono ?_; rintro e w3 ⟨rfl, rfl⟩) | (go_at_call 65; refine (rdigits_any _ (by omega) (by omega) _).mono ?_; rintro e w3 ⟨rfl, hb3⟩; replace hB2 := hB2.trans (hb3.mono hB2.size); replace bI2 := bI2.next hb3; clear p0 p1 p2 p3 p4 hb3; obtain ⟨p0, p1, p2, p3, p4⟩ := bI2.cells))
      go_ret
      exact ⟨by rw [hx.out]; rfl, hB2⟩
    · have hx : Hid (txS (k : Int) a b c i = (((nmS (k : Int) ++ ⟨#[32, 114]⟩ ++ itS a) ++ ⟨#[32, 114]⟩ ++ itS b) ++ ⟨#[32, 114]⟩ ++ itS c)) := by
        show _ = _
        rw [hr.out, hs]
        refine ba_ext ?_
        simp [accT, stepT, ltr, prt, tldS, List.range_succ, ByteArray.data_append]
      have u97 : usI (k : Int) 97 = true := by show (Ins.shp (k : Int)).contains 97 = _; rw [hs]; rfl
      have u98 : usI (k : Int) 98 = true := by show (Ins.shp (k : Int)).contains 98 = _; rw [hs]; rfl
      have u99 : usI (k : Int) 99 = true := by show (Ins.shp (k : Int)).contains 99 = _; rw [hs]; rfl
      have u105 : usI (k : Int) 105 = false := by show (Ins.shp (k : Int)).contains 105 = _; rw [hs]; rfl
      clear hs hr
      go_enter Tryz.func35, Tryz.ntmps35
      go_wp2_with (first | (go_at_call 61; refine (rfit_any _ _ _ _ _ _).mono ?_; rintro e w' ⟨rfl, hb⟩; have hB := hst.trans (hb.mono hst.size); have bI1 := bI.next hb; obtain ⟨q0, q1, q2, q3, q4⟩ := bI1.cells) | (go_at_call 63; refine (rname_any k hk _).mono ?_; rintro e w2 ⟨rfl, hb2⟩; have hB2 := hB.trans (hb2.mono hB.size); have bI2 := bI1.next hb2; obtain ⟨p0, p1, p2, p3, p4⟩ := bI2.cells) | (go_at_call 64; refine (rusesI _ _ _ (by omega) (by omega)).mono ?_; rintro e w3 ⟨rfl, rfl⟩) | (go_at_call 65; refine (rdigits_any _ (by omega) (by omega) _).mono ?_; rintro e w3 ⟨rfl, hb3⟩; replace hB2 := hB2.trans (hb3.mono hB2.size); replace bI2 := bI2.next hb3; clear p0 p1 p2 p3 p4 hb3; obtain ⟨p0, p1, p2, p3, p4⟩ := bI2.cells))
      go_ret
      exact ⟨by rw [hx.out]; rfl, hB2⟩
    · have hx : Hid (txS (k : Int) a b c i = (((nmS (k : Int) ++ ⟨#[32, 114]⟩ ++ itS a) ++ ⟨#[32, 114]⟩ ++ itS b) ++ ⟨#[32]⟩ ++ itS i)) := by
        show _ = _
        rw [hr.out, hs]
        refine ba_ext ?_
        simp [accT, stepT, ltr, prt, tldS, List.range_succ, ByteArray.data_append]
      have u97 : usI (k : Int) 97 = true := by show (Ins.shp (k : Int)).contains 97 = _; rw [hs]; rfl
      have u98 : usI (k : Int) 98 = true := by show (Ins.shp (k : Int)).contains 98 = _; rw [hs]; rfl
      have u99 : usI (k : Int) 99 = false := by show (Ins.shp (k : Int)).contains 99 = _; rw [hs]; rfl
      have u105 : usI (k : Int) 105 = true := by show (Ins.shp (k : Int)).contains 105 = _; rw [hs]; rfl
      clear hs hr
      go_enter Tryz.func35, Tryz.ntmps35
      go_wp2_with (first | (go_at_call 61; refine (rfit_any _ _ _ _ _ _).mono ?_; rintro e w' ⟨rfl, hb⟩; have hB := hst.trans (hb.mono hst.size); have bI1 := bI.next hb; obtain ⟨q0, q1, q2, q3, q4⟩ := bI1.cells) | (go_at_call 63; refine (rname_any k hk _).mono ?_; rintro e w2 ⟨rfl, hb2⟩; have hB2 := hB.trans (hb2.mono hB.size); have bI2 := bI1.next hb2; obtain ⟨p0, p1, p2, p3, p4⟩ := bI2.cells) | (go_at_call 64; refine (rusesI _ _ _ (by omega) (by omega)).mono ?_; rintro e w3 ⟨rfl, rfl⟩) | (go_at_call 65; refine (rdigits_any _ (by omega) (by omega) _).mono ?_; rintro e w3 ⟨rfl, hb3⟩; replace hB2 := hB2.trans (hb3.mono hB2.size); replace bI2 := bI2.next hb3; clear p0 p1 p2 p3 p4 hb3; obtain ⟨p0, p1, p2, p3, p4⟩ := bI2.cells))
      go_ret
      exact ⟨by rw [hx.out]; rfl, hB2⟩
    · have hx : Hid (txS (k : Int) a b c i = (nmS (k : Int) ++ ⟨#[32]⟩ ++ itS i)) := by
        show _ = _
        rw [hr.out, hs]
        refine ba_ext ?_
        simp [accT, stepT, ltr, prt, tldS, List.range_succ, ByteArray.data_append]
      have u97 : usI (k : Int) 97 = false := by show (Ins.shp (k : Int)).contains 97 = _; rw [hs]; rfl
      have u98 : usI (k : Int) 98 = false := by show (Ins.shp (k : Int)).contains 98 = _; rw [hs]; rfl
      have u99 : usI (k : Int) 99 = false := by show (Ins.shp (k : Int)).contains 99 = _; rw [hs]; rfl
      have u105 : usI (k : Int) 105 = true := by show (Ins.shp (k : Int)).contains 105 = _; rw [hs]; rfl
      clear hs hr
      go_enter Tryz.func35, Tryz.ntmps35
      go_wp2_with (first | (go_at_call 61; refine (rfit_any _ _ _ _ _ _).mono ?_; rintro e w' ⟨rfl, hb⟩; have hB := hst.trans (hb.mono hst.size); have bI1 := bI.next hb; obtain ⟨q0, q1, q2, q3, q4⟩ := bI1.cells) | (go_at_call 63; refine (rname_any k hk _).mono ?_; rintro e w2 ⟨rfl, hb2⟩; have hB2 := hB.trans (hb2.mono hB.size); have bI2 := bI1.next hb2; obtain ⟨p0, p1, p2, p3, p4⟩ := bI2.cells) | (go_at_call 64; refine (rusesI _ _ _ (by omega) (by omega)).mono ?_; rintro e w3 ⟨rfl, rfl⟩) | (go_at_call 65; refine (rdigits_any _ (by omega) (by omega) _).mono ?_; rintro e w3 ⟨rfl, hb3⟩; replace hB2 := hB2.trans (hb3.mono hB2.size); replace bI2 := bI2.next hb3; clear p0 p1 p2 p3 p4 hb3; obtain ⟨p0, p1, p2, p3, p4⟩ := bI2.cells))
      go_ret
      exact ⟨by rw [hx.out]; rfl, hB2⟩
    · have hx : Hid (txS (k : Int) a b c i = (nmS (k : Int) ++ ⟨#[32, 114]⟩ ++ itS a)) := by
        show _ = _
        rw [hr.out, hs]
        refine ba_ext ?_
        simp [accT, stepT, ltr, prt, tldS, List.range_succ, ByteArray.data_append]
      have u97 : usI (k : Int) 97 = true := by show (Ins.shp (k : Int)).contains 97 = _; rw [hs]; rfl
      have u98 : usI (k : Int) 98 = false := by show (Ins.shp (k : Int)).contains 98 = _; rw [hs]; rfl
      have u99 : usI (k : Int) 99 = false := by show (Ins.shp (k : Int)).contains 99 = _; rw [hs]; rfl
      have u105 : usI (k : Int) 105 = false := by show (Ins.shp (k : Int)).contains 105 = _; rw [hs]; rfl
      clear hs hr
      go_enter Tryz.func35, Tryz.ntmps35
      go_wp2_with (first | (go_at_call 61; refine (rfit_any _ _ _ _ _ _).mono ?_; rintro e w' ⟨rfl, hb⟩; have hB := hst.trans (hb.mono hst.size); have bI1 := bI.next hb; obtain ⟨q0, q1, q2, q3, q4⟩ := bI1.cells) | (go_at_call 63; refine (rname_any k hk _).mono ?_; rintro e w2 ⟨rfl, hb2⟩; have hB2 := hB.trans (hb2.mono hB.size); have bI2 := bI1.next hb2; obtain ⟨p0, p1, p2, p3, p4⟩ := bI2.cells) | (go_at_call 64; refine (rusesI _ _ _ (by omega) (by omega)).mono ?_; rintro e w3 ⟨rfl, rfl⟩) | (go_at_call 65; refine (rdigits_any _ (by omega) (by omega) _).mono ?_; rintro e w3 ⟨rfl, hb3⟩; replace hB2 := hB2.trans (hb3.mono hB2.size); replace bI2 := bI2.next hb3; clear p0 p1 p2 p3 p4 hb3; obtain ⟨p0, p1, p2, p3, p4⟩ := bI2.cells))
      go_ret
      exact ⟨by rw [hx.out]; rfl, hB2⟩
    · have hx : Hid (txS (k : Int) a b c i = nmS (k : Int)) := by
        show _ = _
        rw [hr.out, hs]
        refine ba_ext ?_
        simp [accT]
      have u97 : usI (k : Int) 97 = false := by show (Ins.shp (k : Int)).contains 97 = _; rw [hs]; rfl
      have u98 : usI (k : Int) 98 = false := by show (Ins.shp (k : Int)).contains 98 = _; rw [hs]; rfl
      have u99 : usI (k : Int) 99 = false := by show (Ins.shp (k : Int)).contains 99 = _; rw [hs]; rfl
      have u105 : usI (k : Int) 105 = false := by show (Ins.shp (k : Int)).contains 105 = _; rw [hs]; rfl
      clear hs hr
      go_enter Tryz.func35, Tryz.ntmps35
      go_wp2_with (first | (go_at_call 61; refine (rfit_any _ _ _ _ _ _).mono ?_; rintro e w' ⟨rfl, hb⟩; have hB := hst.trans (hb.mono hst.size); have bI1 := bI.next hb; obtain ⟨q0, q1, q2, q3, q4⟩ := bI1.cells) | (go_at_call 63; refine (rname_any k hk _).mono ?_; rintro e w2 ⟨rfl, hb2⟩; have hB2 := hB.trans (hb2.mono hB.size); have bI2 := bI1.next hb2; obtain ⟨p0, p1, p2, p3, p4⟩ := bI2.cells) | (go_at_call 64; refine (rusesI _ _ _ (by omega) (by omega)).mono ?_; rintro e w3 ⟨rfl, rfl⟩) | (go_at_call 65; refine (rdigits_any _ (by omega) (by omega) _).mono ?_; rintro e w3 ⟨rfl, hb3⟩; replace hB2 := hB2.trans (hb3.mono hB2.size); replace bI2 := bI2.next hb3; clear p0 p1 p2 p3 p4 hb3; obtain ⟨p0, p1, p2, p3, p4⟩ := bI2.cells))
      go_ret
      exact ⟨by rw [hx.out]; rfl, hB2⟩
end Go.Proofs.YtnghendglcblkaaGreatDoor
