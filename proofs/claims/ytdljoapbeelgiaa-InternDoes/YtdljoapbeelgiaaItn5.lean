/-
  PROVED HERE: what Used and once of package intern return when they are called (contracts over this translation). No condition.
-/
import Derived.Test.YtdljoapbeelgiaaItn4
namespace Go.Proofs.Ytdljoapbeelgiaa
open Go.RowKit Go.Shelf
set_option linter.unusedVariables false
attribute [local go_sem] Oper.semAt_some

theorem askK_len {Z : Zt} {k : Nat} (h : k ≤ Z.length) : (askK Z k).length = (Z.take k).countP fun x => !decide (x.2 = 0) := by
  induction k with
  | zero => simp [askK]
  | succ k ih =>
    have e : Z.take (k + 1) = Z.take k ++ [zat Z k] := by
      rw [List.take_add_one, zat_lt (show k < Z.length by omega)]; rfl
    rw [e, List.countP_append, ← ih (by omega)]
    by_cases hz : (zat Z k).2 = 0
    · rw [askK_miss hz]; simp [hz]
    · rw [askK_hit hz]; simp [hz]
theorem askd_len (Z : Zt) : (askd Z).length = usd Z := by
  unfold askd usd; rw [askK_len (Nat.le_refl _), List.take_length]
theorem usd_le (Z : Zt) : usd Z ≤ Z.length := List.countP_le_length

/-- A place that is asked for finds some place. -/
theorem fnd_self {Z : Zt} {i : Nat} (hi : i < Z.length) (h : (zat Z i).2 ≠ 0) : ∃ j, fnd Z (zat Z i).1 = some j := by
  cases hf : fnd Z (zat Z i).1 with
  | some j => exact ⟨j, rfl⟩
  | none => exact absurd ⟨h, rfl⟩ (fnd_none.1 hf i hi)
theorem onceAt_iff {Z : Zt} {i : Nat} (hi : i < Z.length) (h : (zat Z i).2 ≠ 0) : onceAt Z i = decide (fN Z (zat Z i).1 = (i : Nat)) := by
  obtain ⟨j, hj⟩ := fnd_self hi h
  unfold onceAt fN
  rw [hj]
  simp [h]
  omega
theorem once_yes {Z : Zt} (h : ((askd Z).all fun i => decide (fN Z (zat Z i).1 = (i : Nat))) = true) : onceB Z = true := by
  unfold onceB
  rw [List.all_eq_true] at h ⊢
  intro i hi
  have hi := List.mem_range.1 hi
  by_cases hz : (zat Z i).2 = 0
  · unfold onceAt; simp [hz]
  · rw [onceAt_iff hi hz]; exact h i (askd_mem.2 ⟨hi, hz⟩)
theorem once_no {Z : Zt} {pre : List Nat} (hp : pre <+: askd Z) (h : (pre.all fun i => decide (fN Z (zat Z i).1 = (i : Nat))) = false) : onceB Z = false := by
  unfold onceB
  rw [List.all_eq_false] at h ⊢
  obtain ⟨x, hx, hy⟩ := h
  obtain ⟨h1, h2⟩ := askd_mem.1 (hp.subset hx)
  exact ⟨x, List.mem_range.2 h1, by rw [onceAt_iff h1 h2]; exact hy⟩

set_option maxRecDepth 100000 in
set_option maxHeartbeats 2000000 in
theorem used_any {w : World} {a a' : Option Addr} {n c c' : Nat} {Z : Zt} (hT : Tab w a n c a' c' Z) :
    Calls Try.prog 21 #[.agg #[.slice a n c, .slice a' n c']] w fun e w' => e = .returned (.int .i64 (usd Z)) ∧ Below w.heap.size w w' := by
  obtain ⟨r, hr⟩ := TabD.lie hT
  have hzn := hT.len
  have hcm := hT.2.2.2.1.1
  have hnc := hT.2.2.1
  refine (callsIn_wide (n := 5)).1 ?_
  refine callsIn_of_wp_marks Try.func21 rfl trivial ?_ rfl
  simp only [Try.ntmps21, List.size_toArray, List.length_cons, List.length_nil, Nat.reduceAdd, Nat.reduceSub, Array.replicate_succ, Array.replicate_zero, List.push_toArray, List.append_toArray, List.nil_append, List.cons_append]
  gi_wp2_with (refine ⟨trivial, ?_⟩; gi_at_call 38; refine (callsIn_wide.2 (asked_any _ _ _ _ _ _ _)).mono ?_; rintro e w' ⟨rfl, rfl⟩)
  have b1 := (Boxed.new (w.alloc (.cells #[.slice a n c, .slice a' n c'] 25)) 3 (.int .i64 0)).alloc (.cells #[.slice a n c, .slice a' n c'] 25)
  have b4 := Two.new ((w.alloc (.cells #[.slice a n c, .slice a' n c'] 25)).alloc (.cells #[.int .i64 0] 3)) 25 (.slice a n c) (.slice a' n c')
  simp only [World.size_alloc] at b1 b4
  have hB0 : Below w.heap.size w (((w.alloc (.cells #[.slice a n c, .slice a' n c'] 25)).alloc (.cells #[.int .i64 0] 3)).alloc (.cells #[.slice a n c, .slice a' n c'] 25)) :=
    (((Below.refl _ w).alloc (Nat.le_refl _) _).alloc (by simp) _).alloc (by simp; omega) _
  have hsz : (((w.alloc (.cells #[.slice a n c, .slice a' n c'] 25)).alloc (.cells #[.int .i64 0] 3)).alloc (.cells #[.slice a n c, .slice a' n c'] 25)).heap.size = w.heap.size + 3 := by simp
  obtain ⟨W0, hW0⟩ : ∃ W0, ((w.alloc (.cells #[.slice a n c, .slice a' n c'] 25)).alloc (.cells #[.int .i64 0] 3)).alloc (.cells #[.slice a n c, .slice a' n c'] 25) = W0 := ⟨_, rfl⟩
  rw [hW0] at b1 b4 hB0 hsz ⊢
  clear hW0
  have hT0 := (hT.later (keeps_of_below hB0)).wide (D' := fun b => b < w.heap.size ∨ b = w.heap.size + 1 + 1) (fun b hb => .inl hb)
  have hr0 : Lie (fun b => b < w.heap.size ∨ b = w.heap.size + 1 + 1) W0 a n Z r := ⟨fun i => ((hr.1 i).later (keeps_of_below hB0)).wide (fun b hb => .inl hb), fun b off e i hi => by
    obtain ⟨b2, off2, e2, hb2, _⟩ := hT.1.2.2.2 (by omega)
    have := hr.2 b off e i hi
    rw [e] at e2; cases e2
    exact (hB0.cell (p := ⟨b, off + i, none⟩) hb2).trans this⟩
  refine wpIn_rangeFunc_ownH rfl (by omega) (gf := 45) (lb := #[.pointer (some ⟨w.heap.size + 1 + 1, 0, none⟩)]) rfl trivial (enters_of Try.func45 (by kernel_rfl) rfl)
    (asked_stops _ (by omega) (w.heap.size + 1 + 1) (fun b => b < w.heap.size ∨ b = w.heap.size + 1 + 1) r W0 (fun b hb => by omega) (.inr rfl) b4 hT0 hr0) keepsK_t (keepsK_b (fun b hb => by omega)) (Below.refl _ _) (fun _ => rfl)
    (fun pre W => Boxed W (w.heap.size + 1) 3 (.int .i64 (pre.length : Nat)) ∧ Below w.heap.size w W)
    (fun cd pre W => False ∧ Below w.heap.size w W)
    (OwnFrom.and (Own.from (boxed_own _ _ _) _) (ownFrom_below (Nat.le_refl _) (by omega)))
    (fun cd => OwnFrom.and (ownFrom_pure _ _) (ownFrom_below (Nat.le_refl _) (by omega)))
    ⟨b1, hB0⟩
    (fun x a2 W => a2 = { tmps := #[.agg #[.slice a n c, .slice a' n c'], .pointer (some ⟨w.heap.size, 0, none⟩), .int .i64 0, .pointer (some ⟨w.heap.size + 1, 0, none⟩), .agg #[.slice a n c, .slice a' n c'], .func (.func 45) #[] #[.pointer (some ⟨w.heap.size + 1 + 1, 0, none⟩)], .int .i64 (x : Nat), .slice (r x).1 (r x).2.1 (r x).2.2, undef, undef, undef], defers := [] })
    (fun x a2 _ X Y row hs hg hr => hs)
    ?assign ?body ?done ?stop
  case assign =>
    rintro l pre x W K hI hK
    dsimp only [encA]
    gi_wp2
    exact hK _ _ (KeepsFrom.refl _ _) (Keeps.refl _ _) hI (by simp)
  case body =>
    rintro l pre x a2 W hl ⟨r2, hr2⟩ ⟨d1, hB1⟩ rfl hlt
    have c1 := d1.cell
    have f1 := d1.frozen
    rw [askd_len] at hlt
    have hle := usd_le Z
    have hlW : l < W.heap.size := (Array.getElem?_eq_some_iff.1 hr2).1
    have hw : IntKind.i64.wrap (((pre.length : Nat) : Int) + 1) = ((pre.length + 1 : Nat) : Int) := by rw [IntKind.wrap_i64]; omega
    gi_wp2
    exact ⟨(KeepsOthers.setCell _ _ _).from _, ⟨by simp, fun b hb => Below.heap_setCell _ _ _ _ (by show b ≠ w.heap.size + 1; omega)⟩, by simpa [hw] using d1.set _, hB1.setCell (p := ⟨w.heap.size + 1, 0, none⟩) (by show w.heap.size ≤ w.heap.size + 1; omega) _⟩
  case done =>
    rintro D ys W hD rfl ⟨d1, hB⟩ hK
    have c1 := d1.cell
    have hu : Hid (((askd Z).length : Int) = (usd Z : Int)) := by unfold Hid; rw [askd_len]
    gi_wp2
    refine ⟨by simp, .inl ⟨_, _, rfl, run_takeDeferred hK, ?_⟩⟩
    refine ⟨.int .i64 ((askd Z).length : Nat), ?_, by rw [hu.out], hB.trans (belowK_b (w := w) (Nat.le_refl _) _ D _ _ (by omega) hK rfl rfl)⟩
    simp [results, Try.f21, go_sem]
  case stop =>
    rintro D cd pre W hD hpre ⟨h, _⟩ hK
    exact h.elim

set_option maxRecDepth 100000 in
set_option maxHeartbeats 2000000 in
theorem once_any {w : World} {a a' : Option Addr} {n c c' : Nat} {Z : Zt} (hT : Tab w a n c a' c' Z) :
    Calls Try.prog 26 #[.agg #[.slice a n c, .slice a' n c']] w fun e w' => e = .returned (.bool (onceB Z)) ∧ Below w.heap.size w w' := by
  obtain ⟨r, hr⟩ := TabD.lie hT
  refine (callsIn_wide (n := 5)).1 ?_
  refine callsIn_of_wp_marks Try.func26 rfl trivial ?_ rfl
  simp only [Try.ntmps26, List.size_toArray, List.length_cons, List.length_nil, Nat.reduceAdd, Nat.reduceSub, Array.replicate_succ, Array.replicate_zero, List.push_toArray, List.append_toArray, List.nil_append, List.cons_append]
  gi_wp2_with (refine ⟨trivial, ?_⟩; gi_at_call 38; refine (callsIn_wide.2 (asked_any _ _ _ _ _ _ _)).mono ?_; rintro e w' ⟨rfl, rfl⟩)
  have b0 := (((Two.new w 25 (.slice a n c) (.slice a' n c')).kept (World.grownBy_alloc _ (.cells #[.bool false] 4) none) (by simp))).kept (World.grownBy_alloc _ (.cells #[.slice a n c, .slice a' n c'] 25) none) (by simp)
  have b1 := (Boxed.new (w.alloc (.cells #[.slice a n c, .slice a' n c'] 25)) 4 (.bool false)).alloc (.cells #[.slice a n c, .slice a' n c'] 25)
  have b4 := Two.new ((w.alloc (.cells #[.slice a n c, .slice a' n c'] 25)).alloc (.cells #[.bool false] 4)) 25 (.slice a n c) (.slice a' n c')
  simp only [World.size_alloc] at b1 b4
  have hB0 : Below w.heap.size w (((w.alloc (.cells #[.slice a n c, .slice a' n c'] 25)).alloc (.cells #[.bool false] 4)).alloc (.cells #[.slice a n c, .slice a' n c'] 25)) :=
    (((Below.refl _ w).alloc (Nat.le_refl _) _).alloc (by simp) _).alloc (by simp; omega) _
  have hsz : (((w.alloc (.cells #[.slice a n c, .slice a' n c'] 25)).alloc (.cells #[.bool false] 4)).alloc (.cells #[.slice a n c, .slice a' n c'] 25)).heap.size = w.heap.size + 3 := by simp
  obtain ⟨W0, hW0⟩ : ∃ W0, ((w.alloc (.cells #[.slice a n c, .slice a' n c'] 25)).alloc (.cells #[.bool false] 4)).alloc (.cells #[.slice a n c, .slice a' n c'] 25) = W0 := ⟨_, rfl⟩
  rw [hW0] at b0 b1 b4 hB0 hsz ⊢
  clear hW0
  have hT0 := (hT.later (keeps_of_below hB0)).wide (D' := fun b => b < w.heap.size ∨ b = w.heap.size + 1 + 1) (fun b hb => .inl hb)
  have hr0 : Lie (fun b => b < w.heap.size ∨ b = w.heap.size + 1 + 1) W0 a n Z r := ⟨fun i => ((hr.1 i).later (keeps_of_below hB0)).wide (fun b hb => .inl hb), fun b off e i hi => by
    obtain ⟨b2, off2, e2, hb2, _⟩ := hT.1.2.2.2 (by omega)
    have := hr.2 b off e i hi
    rw [e] at e2; cases e2
    exact (hB0.cell (p := ⟨b, off + i, none⟩) hb2).trans this⟩
  refine wpIn_rangeFunc_ownH rfl (by omega) (gf := 45) (lb := #[.pointer (some ⟨w.heap.size + 1 + 1, 0, none⟩)]) rfl trivial (enters_of Try.func45 (by kernel_rfl) rfl)
    (asked_stops _ (by omega) (w.heap.size + 1 + 1) (fun b => b < w.heap.size ∨ b = w.heap.size + 1 + 1) r W0 (fun b hb => by omega) (.inr rfl) b4 hT0 hr0) keepsK_t (keepsK_b (fun b hb => by omega)) (Below.refl _ _) (fun _ => rfl)
    (fun pre W => ((pre.all fun i => decide (fN Z (zat Z i).1 = (i : Nat))) = true ∧ Two W w.heap.size 25 (.slice a n c) (.slice a' n c') ∧ Boxed W (w.heap.size + 1) 4 (.bool false)) ∧ Below w.heap.size w W)
    (fun cd pre W => (cd = .ret ∧ (pre.all fun i => decide (fN Z (zat Z i).1 = (i : Nat))) = false ∧ Boxed W (w.heap.size + 1) 4 (.bool false)) ∧ Below w.heap.size w W)
    (OwnFrom.and (OwnFrom.and (ownFrom_pure _ _) (OwnFrom.and (Own.from (two_own _ _ _ _) _) (Own.from (boxed_own _ _ _) _))) (ownFrom_below (Nat.le_refl _) (by omega)))
    (fun cd => OwnFrom.and (OwnFrom.and (ownFrom_pure _ _) (OwnFrom.and (ownFrom_pure _ _) (Own.from (boxed_own _ _ _) _))) (ownFrom_below (Nat.le_refl _) (by omega)))
    ⟨⟨rfl, b0, b1⟩, hB0⟩
    (fun x a2 W => a2 = { tmps := #[.agg #[.slice a n c, .slice a' n c'], .pointer (some ⟨w.heap.size, 0, none⟩), .pointer (some ⟨w.heap.size + 1, 0, none⟩), .int .i64 (x : Nat), .slice (r x).1 (r x).2.1 (r x).2.2, undef, undef, .agg #[.slice a n c, .slice a' n c'], .func (.func 45) #[] #[.pointer (some ⟨w.heap.size + 1 + 1, 0, none⟩)], .int .i64 (x : Nat), .slice (r x).1 (r x).2.1 (r x).2.2, undef, undef, undef, undef, undef, undef, undef, undef, undef], defers := [] })
    (fun x a2 _ X Y row hs hg hr => hs)
    ?assign ?body ?done ?stop
  case assign =>
    rintro l pre x W K hI hK
    dsimp only [encA]
    gi_wp2
    exact hK _ _ (KeepsFrom.refl _ _) (Keeps.refl _ _) hI rfl
  case body =>
    rintro l pre x a2 W hl ⟨r2, hr2⟩ ⟨⟨hp, d0, d1⟩, hB1⟩ rfl hlt
    have c00 := d0.cell0
    have c01 := d0.cell1
    have c1 := d1.cell
    have f1 := d1.frozen
    have hlW : l < W.heap.size := (Array.getElem?_eq_some_iff.1 hr2).1
    have hX : Lab W.heap.size W (r x).1 (r x).2.1 (r x).2.2 (zat Z x).1 := ((hr.1 x).later (keeps_of_below hB1)).wide (fun b hb => Nat.lt_of_lt_of_le hb hB1.size)
    have hTW : Tab W a n c a' c' Z := hT.next hB1
    obtain ⟨f, hf⟩ : ∃ f, Hid (fN Z (zat Z x).1 = f) := ⟨_, rfl⟩
    by_cases hq : f = (x : Nat)
    · have HP : Hid (((pre ++ [x]).all fun i => decide (fN Z (zat Z i).1 = (i : Nat))) = true) := by show ((pre ++ [x]).all _) = true; rw [List.all_append, hp]; simp [hf.out, hq]
      clear hp
      gi_wp2_with (refine ⟨trivial, ?_⟩; gi_at_call 18; refine (CallsIn.inRound l (callsIn_wide.2 (find_any hTW hX))).mono ?_; rintro e w1 ⟨rfl, hb1⟩; rw [hf.out, hq])
      exact ⟨(koB hb1).from _, ⟨hb1.size, fun b hb => hb1.block b (by omega)⟩, ⟨HP.out, d0.kept (below_grown hb1) (by simp), d1.kept (below_grown hb1) (by simp)⟩, hB1.trans (hb1.mono hB1.size)⟩
    · have HP : Hid (((pre ++ [x]).all fun i => decide (fN Z (zat Z i).1 = (i : Nat))) = false) := by show ((pre ++ [x]).all _) = false; rw [List.all_append, hp]; simp [hf.out, hq]
      have hq' : (f == ((x : Nat) : Int)) = false := by simpa using hq
      clear hp
      gi_wp2_with (refine ⟨trivial, ?_⟩; gi_at_call 18; refine (CallsIn.inRound l (callsIn_wide.2 (find_any hTW hX))).mono ?_; rintro e w1 ⟨rfl, hb1⟩; rw [hf.out]; have d1' := d1.kept (below_grown hb1) (by simp); have c2 := d1'.cell; have f2 := d1'.frozen; have HB : Hid (Below w.heap.size w w1) := hB1.trans (hb1.mono hB1.size))
      exact ⟨((koB hb1).trans (KeepsOthers.setCell _ _ _)).from _, ⟨rfl, HP.out, d1'.set _⟩, HB.out.setCell (p := ⟨w.heap.size + 1, 0, none⟩) (by show w.heap.size ≤ w.heap.size + 1; omega) _⟩
  case done =>
    rintro D ys W hD rfl ⟨⟨hp, d0, d1⟩, hB⟩ hK
    have hr : Hid (onceB Z = true) := once_yes hp
    have c1 := d1.cell
    have f1 := d1.frozen
    clear hp
    gi_wp2
    have hK' := (KeepsOthers.setCell W ⟨w.heap.size + 1, 0, none⟩ (.bool true)).same D _ hK rfl
    refine ⟨by simp, .inl ⟨_, _, rfl, run_takeDeferred hK', ?_⟩⟩
    have hc5 := cell_kept (d1.set (.bool true)).cell (grownBy_putObj' _ D (.deferred none)) (fun r e => by cases e; exact ⟨_, hK', rfl⟩)
    refine ⟨.bool true, ?_, by rw [hr.out], (hB.setCell (p := ⟨w.heap.size + 1, 0, none⟩) (by show w.heap.size ≤ w.heap.size + 1; omega) _).trans (belowK_b (w := w) (Nat.le_refl _) _ D _ _ (by omega) hK' rfl rfl)⟩
    simp [results, Try.f26, go_sem, hc5]
  case stop =>
    rintro D cd pre W hD hpre ⟨⟨rfl, hin, d1⟩, hB⟩ hK
    have hr : Hid (onceB Z = false) := once_no hpre hin
    clear hin
    gi_wp2
    refine ⟨by simp, .inl ⟨_, _, rfl, run_takeDeferred hK, ?_⟩⟩
    have hc5 := cell_kept d1.cell (grownBy_putObj' _ D (.deferred none)) (fun r e => by cases e; exact ⟨_, hK, rfl⟩)
    refine ⟨.bool false, ?_, by rw [hr.out], hB.trans (belowK_b (w := w) (Nat.le_refl _) W D _ _ (by omega) hK rfl rfl)⟩
    simp [results, Try.f26, go_sem, hc5]
end Go.Proofs.Ytdljoapbeelgiaa
