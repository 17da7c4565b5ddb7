/-
  PROVED HERE: what inst.Fit returns when it is called (a contract over this translation). No condition.
-/
import Derived.Test.YtnghendglcblkaaGreatDoorShelf
import Derived.Test.YtnghendglcblkaaGreatDoorIns4
namespace Go.Proofs.YtnghendglcblkaaGreatDoor
open Go.RowKit Go.Shelf
set_option linter.unusedVariables false
attribute [local go_sem] Oper.semAt_some

def allL : List UInt8 := [97, 98, 99, 105]
/-- May the k-th part be so? -/
def okX (op a b c i : Int) (k : Nat) : Bool := canB (ltr allL k) (prt a b c i (ltr allL k)) && (prt a b c i (ltr allL k) == 0 || (Ins.shp op).contains (ltr allL k).toNat.toUInt8)

theorem okX_lt (op a b c i : Int) (k : Nat) : 0 ≤ ltr allL k ∧ ltr allL k < 128 := by
  unfold ltr allL
  rcases k with _ | _ | _ | _ | k <;> simp
theorem fit_all (op a b c i : Int) (hop : Ins.opB op = true) : Ins.fitB op a b c i = (List.range allL.length).all (okX op a b c i) := by
  have e0 : okX op a b c i 0 = (canB 97 a && (a == 0 || (Ins.shp op).contains 97)) := rfl
  have e1 : okX op a b c i 1 = (canB 98 b && (b == 0 || (Ins.shp op).contains 98)) := rfl
  have e2 : okX op a b c i 2 = (canB 99 c && (c == 0 || (Ins.shp op).contains 99)) := rfl
  have e3 : okX op a b c i 3 = (canB 105 i && (i == 0 || (Ins.shp op).contains 105)) := rfl
  have er : List.range allL.length = [0, 1, 2, 3] := rfl
  have k0 : ∀ x l u, (l == (105 : Int)) = false → (canB l x && (x == 0 || u)) = Ins.rg x u := by
    intro x l u hl
    unfold canB Ins.rg
    rw [hl]
    by_cases h : x = 0
    · subst h; simp
    · by_cases h1 : 0 < x
      · have : 0 ≤ x := by omega
        simp [h1, this]; have h2 : (x == 0) = false := by simpa using h
        rw [h2, Bool.false_or, Bool.false_or, Bool.and_comm]
      · have : ¬ 0 ≤ x := by omega
        simp [h, h1, this]
  rw [er]
  simp only [List.all_cons, List.all_nil, Bool.and_true, e0, e1, e2, e3, Ins.fitB, hop, Bool.true_and, Ins.us]
  rw [k0 a 97 _ rfl, k0 b 98 _ rfl, k0 c 99 _ rfl, show canB 105 i = true from rfl, Bool.true_and, Bool.and_assoc, Bool.and_assoc]
theorem contains_index (l : List UInt8) (x : UInt8) : decide (0 ≤ Lib.indexByte l x) = l.contains x := by
  induction l with
  | nil => rfl
  | cons b l ih =>
    have hg := Lib.indexByte_ge l x
    rw [List.contains_cons, ← ih]
    have e : Lib.indexByte (b :: l) x = if b == x then 0 else if Lib.indexByte l x == -1 then -1 else Lib.indexByte l x + 1 := rfl
    by_cases h : b = x
    · have e2 : Lib.indexByte (b :: l) x = 0 := by rw [e, if_pos (by simpa using h)]
      rw [e2]; subst h; simp
    · have h2 : (x == b) = false := by simpa using fun e => h e.symm
      rw [h2, Bool.false_or]
      rw [if_neg (by simpa using h)] at e
      by_cases h3 : Lib.indexByte l x = -1
      · rw [if_pos (by simpa using h3)] at e
        rw [e, h3]
      · rw [if_neg (by simpa using h3)] at e
        rw [e]
        have h4 : 0 ≤ Lib.indexByte l x := by omega
        have h5 : 0 ≤ Lib.indexByte l x + 1 := by omega
        simp [h4, h5]

set_option maxRecDepth 100000 in
set_option maxHeartbeats 2000000 in
theorem fit_any (op a b c i : Int) (hi0 : -2147483648 ≤ i) (hi1 : i < 2147483648) (w : World) :
    Calls Tryz.prog 43 #[.agg #[.int .i64 op, .int .i64 a, .int .i64 b, .int .i64 c, .int .i32 i]] w fun e w' => e = .returned (.bool (Ins.fitB op a b c i)) ∧ Below w.heap.size w w' := by
  refine (callsIn_wide (n := 5)).1 ?_
  refine callsIn_of_wp_marks Tryz.func43 rfl trivial ?_ rfl
  simp only [Tryz.ntmps43, List.size_toArray, List.length_cons, List.length_nil, Nat.reduceAdd, Nat.reduceSub, Array.replicate_succ, Array.replicate_zero, List.push_toArray, List.append_toArray, List.nil_append, List.cons_append]
  cases hop : Ins.opB op with
  | false =>
    have hr : Hid (Ins.fitB op a b c i = false) := by show Ins.fitB op a b c i = false; simp [Ins.fitB, hop]
    gi_wp2_with (refine ⟨trivial, ?_⟩; gi_at_call 66; refine (callsIn_wide.2 (known_any _ _)).mono ?_; rintro e w' ⟨rfl, rfl⟩)
    have bR := Boxed.new (w.alloc (.cells #[.int .i64 op, .int .i64 a, .int .i64 b, .int .i64 c, .int .i32 i] 35)) 4 (.bool false)
    simp only [World.size_alloc] at bR
    have hc := bR.cell
    refine ⟨.bool false, ?_, by rw [hr.out], ((Below.refl _ w).alloc (Nat.le_refl _) _).alloc (by simp) _⟩
    simp [results, Tryz.f43, go_sem, hc]
  | true =>
    gi_wp2_with (first | (refine ⟨trivial, ?_⟩; gi_at_call 66; refine (callsIn_wide.2 (known_any _ _)).mono ?_; rintro e w' ⟨rfl, rfl⟩) | (refine ⟨trivial, ?_⟩; gi_at_call 27; refine (callsIn_wide.2 (shape_any _ _)).mono ?_; rintro e w' ⟨rfl, rfl⟩) | (refine ⟨trivial, ?_⟩; gi_at_call 44; refine (callsIn_wide.2 (parts_any _ _ _ _ _ _ _)).mono ?_; rintro e w' ⟨rfl, rfl⟩))
    have bR := (((Boxed.new (w.alloc (.cells #[.int .i64 op, .int .i64 a, .int .i64 b, .int .i64 c, .int .i32 i] 35)) 4 (.bool false)).alloc (.cells #[.string (Ins.shS op)] 9)).alloc (.cells #[.int .i64 op, .int .i64 a, .int .i64 b, .int .i64 c, .int .i32 i] 35)).alloc (.cells #[.string ⟨#[97, 98, 99, 105]⟩] 9)
    have bU := ((Boxed.new ((w.alloc (.cells #[.int .i64 op, .int .i64 a, .int .i64 b, .int .i64 c, .int .i32 i] 35)).alloc (.cells #[.bool false] 4)) 9 (.string (Ins.shS op))).alloc (.cells #[.int .i64 op, .int .i64 a, .int .i64 b, .int .i64 c, .int .i32 i] 35)).alloc (.cells #[.string ⟨#[97, 98, 99, 105]⟩] 9)
    have bI := (Ib.new (((w.alloc (.cells #[.int .i64 op, .int .i64 a, .int .i64 b, .int .i64 c, .int .i32 i] 35)).alloc (.cells #[.bool false] 4)).alloc (.cells #[.string (Ins.shS op)] 9)) op a b c i).alloc (.cells #[.string ⟨#[97, 98, 99, 105]⟩] 9)
    have bL := Boxed.new ((((w.alloc (.cells #[.int .i64 op, .int .i64 a, .int .i64 b, .int .i64 c, .int .i32 i] 35)).alloc (.cells #[.bool false] 4)).alloc (.cells #[.string (Ins.shS op)] 9)).alloc (.cells #[.int .i64 op, .int .i64 a, .int .i64 b, .int .i64 c, .int .i32 i] 35)) 9 (.string ⟨#[97, 98, 99, 105]⟩)
    simp only [World.size_alloc] at bR bU bI bL
    have hB0 : Below w.heap.size w (((((w.alloc (.cells #[.int .i64 op, .int .i64 a, .int .i64 b, .int .i64 c, .int .i32 i] 35)).alloc (.cells #[.bool false] 4)).alloc (.cells #[.string (Ins.shS op)] 9)).alloc (.cells #[.int .i64 op, .int .i64 a, .int .i64 b, .int .i64 c, .int .i32 i] 35)).alloc (.cells #[.string ⟨#[97, 98, 99, 105]⟩] 9)) := (((((Below.refl _ w).alloc (Nat.le_refl _) _).alloc (by simp) _).alloc (by simp; omega) _).alloc (by simp; omega) _).alloc (by simp; omega) _
    have hsz : (((((w.alloc (.cells #[.int .i64 op, .int .i64 a, .int .i64 b, .int .i64 c, .int .i32 i] 35)).alloc (.cells #[.bool false] 4)).alloc (.cells #[.string (Ins.shS op)] 9)).alloc (.cells #[.int .i64 op, .int .i64 a, .int .i64 b, .int .i64 c, .int .i32 i] 35)).alloc (.cells #[.string ⟨#[97, 98, 99, 105]⟩] 9)).heap.size = w.heap.size + 5 := by simp
    obtain ⟨W0, hW0⟩ : ∃ W0, ((((w.alloc (.cells #[.int .i64 op, .int .i64 a, .int .i64 b, .int .i64 c, .int .i32 i] 35)).alloc (.cells #[.bool false] 4)).alloc (.cells #[.string (Ins.shS op)] 9)).alloc (.cells #[.int .i64 op, .int .i64 a, .int .i64 b, .int .i64 c, .int .i32 i] 35)).alloc (.cells #[.string ⟨#[97, 98, 99, 105]⟩] 9) = W0 := ⟨_, rfl⟩
    rw [hW0] at bR bU bI bL hB0 hsz ⊢
    clear hW0
    refine wpIn_rangeFunc_ownH rfl (by omega) (gf := 69) (lb := #[.pointer (some ⟨w.heap.size + 1 + 1 + 1 + 1, 0, none⟩), .pointer (some ⟨w.heap.size + 1 + 1 + 1, 0, none⟩)]) rfl trivial (enters_of Tryz.func69 (by kernel_rfl) rfl)
      (parts_stops _ (by omega) (w.heap.size + 1 + 1 + 1 + 1) (w.heap.size + 1 + 1 + 1) ⟨#[97, 98, 99, 105]⟩ allL rfl (by show ∀ x ∈ allL, x.toNat < 128; decide) op a b c i hi0 hi1 W0 bL bI) keepsK_t (keepsK_b (fun b hb => by omega)) (Below.refl _ _) (fun _ => rfl)
      (fun pre W => ((pre.all (okX op a b c i) = true ∧ Boxed W (w.heap.size + 1) 4 (.bool false)) ∧ Boxed W (w.heap.size + 1 + 1) 9 (.string (Ins.shS op))) ∧ Below w.heap.size w W)
      (fun cd pre W => (cd = .ret ∧ pre.all (okX op a b c i) = false ∧ Boxed W (w.heap.size + 1) 4 (.bool false)) ∧ Below w.heap.size w W)
      (OwnFrom.and (OwnFrom.and (OwnFrom.and (ownFrom_pure _ _) (Own.from (boxed_own _ _ _) _)) (Own.from (boxed_own _ _ _) _)) (ownFrom_below (Nat.le_refl _) (by omega)))
      (fun cd => OwnFrom.and (OwnFrom.and (ownFrom_pure _ _) (OwnFrom.and (ownFrom_pure _ _) (Own.from (boxed_own _ _ _) _))) (ownFrom_below (Nat.le_refl _) (by omega)))
      ⟨⟨⟨rfl, bR⟩, bU⟩, hB0⟩
      (fun x a' W => a' = { tmps := #[.agg #[.int .i64 op, .int .i64 a, .int .i64 b, .int .i64 c, .int .i32 i], .pointer (some ⟨w.heap.size, 0, none⟩), .pointer (some ⟨w.heap.size + 1, 0, none⟩), .pointer (some ⟨w.heap.size + 1 + 1, 0, none⟩), .int .i32 (ltr allL x), .int .i64 (prt a b c i (ltr allL x)), .pointer (some ⟨w.heap.size, 0, none⟩), .int .i64 op, .bool true, .bool false, .pointer (some ⟨w.heap.size, 0, none⟩), .int .i64 op, .string (Ins.shS op), .agg #[.int .i64 op, .int .i64 a, .int .i64 b, .int .i64 c, .int .i32 i], .func (.func 69) #[] #[.pointer (some ⟨w.heap.size + 1 + 1 + 1 + 1, 0, none⟩), .pointer (some ⟨w.heap.size + 1 + 1 + 1, 0, none⟩)], .int .i32 (ltr allL x), .int .i64 (prt a b c i (ltr allL x)), undef, undef, undef, undef, undef, undef, undef, undef, undef, undef, undef, undef, undef, undef], defers := [] })
      (fun x a' _ X Y row hs hg hr => hs)
      ?assign ?body ?done ?stop
    case assign =>
      rintro l pre x W K hI hK
      dsimp only [encX]
      gi_wp2
      exact hK _ _ (KeepsFrom.refl _ _) (Keeps.refl _ _) hI rfl
    case body =>
      rintro l pre x a' W hl ⟨r, hr⟩ ⟨⟨⟨hp, bR1⟩, bU1⟩, hB1⟩ rfl hlt
      have cR := bR1.cell
      have fR := bR1.frozen
      have cU := bU1.cell
      obtain ⟨hl0, hl1⟩ := okX_lt op a b c i x
      have hP : Hid ((pre ++ [x]).all (okX op a b c i) = okX op a b c i x) := by show _ = _; simp only [List.all_append, List.all_cons, List.all_nil, Bool.and_true, hp, Bool.true_and]
      have HX : Hid (okX op a b c i x = (canB (ltr allL x) (prt a b c i (ltr allL x)) && (prt a b c i (ltr allL x) == 0 || (Ins.shp op).contains (ltr allL x).toNat.toUInt8))) := rfl
      clear hp
      obtain ⟨L, hL⟩ : ∃ L, ltr allL x = L := ⟨_, rfl⟩
      obtain ⟨v, hv⟩ : ∃ v, prt a b c i (ltr allL x) = v := ⟨_, rfl⟩
      rw [hv] at HX ⊢
      rw [hL] at HX hl0 hl1 ⊢
      clear hL hv
      cases hq : canB L v with
      | false =>
        have hf : Hid ((pre ++ [x]).all (okX op a b c i) = false) := by show _ = _; rw [hP.out, HX.out, hq, Bool.false_and]
        gi_wp2_with (first | (refine ⟨trivial, ?_⟩; gi_at_call 67; refine (CallsIn.inRound l (callsIn_wide.2 (can_any _ _ _))).mono ?_; rintro e w' ⟨rfl, rfl⟩) | (refine ⟨trivial, ?_⟩))
        exact ⟨(KeepsOthers.setCell _ _ _).from _, ⟨rfl, hf.out, bR1.set _⟩, hB1.setCell (p := ⟨w.heap.size + 1, 0, none⟩) (by show w.heap.size ≤ w.heap.size + 1; omega) _⟩
      | true =>
        by_cases hv0 : v = 0
        · subst hv0
          have hf : Hid ((pre ++ [x]).all (okX op a b c i) = true) := by show _ = _; rw [hP.out, HX.out, hq]; rfl
          gi_wp2_with (first | (refine ⟨trivial, ?_⟩; gi_at_call 67; refine (CallsIn.inRound l (callsIn_wide.2 (can_any _ _ _))).mono ?_; rintro e w' ⟨rfl, rfl⟩) | (refine ⟨trivial, ?_⟩))
          exact ⟨KeepsFrom.refl _ _, Keeps.refl _ _, ⟨⟨hf.out, bR1⟩, bU1⟩, hB1⟩
        · have hcon : ∀ W2, Calls Tryz.prog 68 #[.string (Ins.shS op), .int .i32 L] W2 fun e w' => e = .returned (.bool ((Ins.shp op).contains L.toNat.toUInt8)) ∧ w' = W2 := fun W2 => by
            have := Tryz.strings_ContainsRune_ascii (Ins.shS op) L W2 hl0 hl1
            rw [contains_index] at this
            exact this
          have hv0' : (v == 0) = false := by simpa using hv0
          cases hq2 : (Ins.shp op).contains L.toNat.toUInt8 with
          | false =>
            have hf : Hid ((pre ++ [x]).all (okX op a b c i) = false) := by show _ = _; rw [hP.out, HX.out, hq, hq2, hv0']; rfl
            rw [hq2] at hcon
            clear hq2
            gi_wp2_with (first | (refine ⟨trivial, ?_⟩; gi_at_call 67; refine (CallsIn.inRound l (callsIn_wide.2 (can_any _ _ _))).mono ?_; rintro e w' ⟨rfl, rfl⟩) | (refine ⟨trivial, ?_⟩; gi_at_call 68; refine (CallsIn.inRound l (callsIn_wide.2 (hcon _))).mono ?_; rintro e w' ⟨rfl, rfl⟩))
            exact ⟨(KeepsOthers.setCell _ _ _).from _, ⟨rfl, hf.out, bR1.set _⟩, hB1.setCell (p := ⟨w.heap.size + 1, 0, none⟩) (by show w.heap.size ≤ w.heap.size + 1; omega) _⟩
          | true =>
            have hf : Hid ((pre ++ [x]).all (okX op a b c i) = true) := by show _ = _; rw [hP.out, HX.out, hq, hq2, hv0']; rfl
            rw [hq2] at hcon
            clear hq2
            gi_wp2_with (first | (refine ⟨trivial, ?_⟩; gi_at_call 67; refine (CallsIn.inRound l (callsIn_wide.2 (can_any _ _ _))).mono ?_; rintro e w' ⟨rfl, rfl⟩) | (refine ⟨trivial, ?_⟩; gi_at_call 68; refine (CallsIn.inRound l (callsIn_wide.2 (hcon _))).mono ?_; rintro e w' ⟨rfl, rfl⟩))
            exact ⟨KeepsFrom.refl _ _, Keeps.refl _ _, ⟨⟨hf.out, bR1⟩, bU1⟩, hB1⟩
    case done =>
      rintro D ys W hD rfl ⟨⟨⟨hp, bR1⟩, bU1⟩, hB⟩ hK
      have hr : Hid (Ins.fitB op a b c i = true) := by show _ = _; rw [fit_all op a b c i hop]; exact hp
      have cR := bR1.cell
      have fR := bR1.frozen
      clear hp
      gi_wp2
      have hK' := (KeepsOthers.setCell W ⟨w.heap.size + 1, 0, none⟩ (.bool true)).same D _ hK rfl
      refine ⟨by simp, .inl ⟨_, _, rfl, run_takeDeferred hK', ?_⟩⟩
      have hc5 := cell_kept (bR1.set (.bool true)).cell (grownBy_putObj' _ D (.deferred none)) (fun r e => by cases e; exact ⟨_, hK', rfl⟩)
      refine ⟨.bool true, ?_, by rw [hr.out], (hB.setCell (p := ⟨w.heap.size + 1, 0, none⟩) (by show w.heap.size ≤ w.heap.size + 1; omega) _).trans (belowK_b (w := w) (Nat.le_refl _) _ D _ _ (by omega) hK' rfl rfl)⟩
      simp [results, Tryz.f43, go_sem, hc5]
    case stop =>
      rintro D cd pre W hD hpre ⟨⟨rfl, hin, bR1⟩, hB⟩ hK
      have hr : Hid (Ins.fitB op a b c i = false) := by
        show _ = _
        rw [fit_all op a b c i hop]
        rw [List.all_eq_false] at hin ⊢
        obtain ⟨x, hx, hy⟩ := hin
        exact ⟨x, hpre.subset hx, hy⟩
      clear hin
      gi_wp2
      refine ⟨by simp, .inl ⟨_, _, rfl, run_takeDeferred hK, ?_⟩⟩
      have hc5 := cell_kept bR1.cell (grownBy_putObj' _ D (.deferred none)) (fun r e => by cases e; exact ⟨_, hK, rfl⟩)
      refine ⟨.bool false, ?_, by rw [hr.out], hB.trans (belowK_b (w := w) (Nat.le_refl _) W D _ _ (by omega) hK rfl rfl)⟩
      simp [results, Tryz.f43, go_sem, hc5]
end Go.Proofs.YtnghendglcblkaaGreatDoor
