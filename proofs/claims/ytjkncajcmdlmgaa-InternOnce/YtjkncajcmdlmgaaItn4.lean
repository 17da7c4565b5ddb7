/-
  PROVED HERE: what Find and Used of package intern return when they are called (contracts over this translation). No condition.
-/
import Derived.Test.YtjkncajcmdlmgaaItn3
import Derived.RangeFuncBox
namespace Go.Proofs.Ytjkncajcmdlmgaa
open Go.RowKit Go.Shelf
set_option linter.unusedVariables false
attribute [local go_sem] Oper.semAt_some

def fN (Z : Zt) (l : List (Int × Int)) : Int := (((fnd Z l).getD 0 : Nat) : Int)
def fF (Z : Zt) (l : List (Int × Int)) : Bool := (fnd Z l).isSome
theorem koB {W w1 : World} (h : Below W.heap.size W w1) : KeepsOthers W w1 := KeepsOthers.of_grownBy (below_grown h) (fun j o e => by cases e)
theorem fnd_askd_none {Z : Zt} {l : List (Int × Int)} (h : ((askd Z).all fun i => !sameB (zat Z i).1 l) = true) : fnd Z l = none := by
  rw [List.all_eq_true] at h
  refine fnd_none.2 fun j hj hn => ?_
  have := h j (askd_mem.2 ⟨hj, hn.1⟩)
  simp [sameB, hn.2] at this
theorem fnd_askd_some {Z : Zt} {l : List (Int × Int)} {pre : List Nat} {x : Nat} (h : pre ++ [x] <+: askd Z) (hp : (pre.all fun i => !sameB (zat Z i).1 l) = true) (hx : sameB (zat Z x).1 l = true) : fnd Z l = some x := by
  obtain ⟨h1, h2, h3, h4⟩ := askd_split h
  rw [List.all_eq_true] at hp
  refine fnd_some.2 ⟨h1, ⟨h2, by simpa [sameB] using hx⟩, fun j hj hn => ?_⟩
  have := hp j (h3 j hj hn.1)
  simp [sameB, hn.2] at this

set_option maxRecDepth 100000 in
set_option maxHeartbeats 2000000 in
theorem find_any {w : World} {a a' al : Option Addr} {n c c' kl cl : Nat} {Z : Zt} {L : List (Int × Int)} (hT : Tab w a n c a' c' Z) (hL : Lab w.heap.size w al kl cl L) :
    Calls Try.prog 15 #[.agg #[.slice a n c, .slice a' n c'], .slice al kl cl] w fun e w' => e = .returned (.tuple #[.int .i64 (fN Z L), .bool (fF Z L)]) ∧ Below w.heap.size w w' := by
  obtain ⟨r, hr⟩ := TabD.lie hT
  refine (callsIn_wide (n := 5)).1 ?_
  refine callsIn_of_wp_marks Try.func15 rfl trivial ?_ rfl
  simp only [Try.ntmps15, List.size_toArray, List.length_cons, List.length_nil, Nat.reduceAdd, Nat.reduceSub, Array.replicate_succ, Array.replicate_zero, List.push_toArray, List.append_toArray, List.nil_append, List.cons_append]
  gi_wp2_with (refine ⟨trivial, ?_⟩; gi_at_call 24; refine (callsIn_wide.2 (asked_any _ _ _ _ _ _ _)).mono ?_; rintro e w' ⟨rfl, rfl⟩)
  have b1 := (((Boxed.new (w.alloc (.cells #[.slice a n c, .slice a' n c'] 27)) 29 (.slice al kl cl)).alloc (.cells #[.int .i64 0] 3)).alloc (.cells #[.bool false] 4)).alloc (.cells #[.slice a n c, .slice a' n c'] 27)
  have b2 := ((Boxed.new ((w.alloc (.cells #[.slice a n c, .slice a' n c'] 27)).alloc (.cells #[.slice al kl cl] 29)) 3 (.int .i64 0)).alloc (.cells #[.bool false] 4)).alloc (.cells #[.slice a n c, .slice a' n c'] 27)
  have b3 := (Boxed.new (((w.alloc (.cells #[.slice a n c, .slice a' n c'] 27)).alloc (.cells #[.slice al kl cl] 29)).alloc (.cells #[.int .i64 0] 3)) 4 (.bool false)).alloc (.cells #[.slice a n c, .slice a' n c'] 27)
  have b4 := Two.new ((((w.alloc (.cells #[.slice a n c, .slice a' n c'] 27)).alloc (.cells #[.slice al kl cl] 29)).alloc (.cells #[.int .i64 0] 3)).alloc (.cells #[.bool false] 4)) 27 (.slice a n c) (.slice a' n c')
  simp only [World.size_alloc] at b1 b2 b3 b4
  have hB0 : Below w.heap.size w (((((w.alloc (.cells #[.slice a n c, .slice a' n c'] 27)).alloc (.cells #[.slice al kl cl] 29)).alloc (.cells #[.int .i64 0] 3)).alloc (.cells #[.bool false] 4)).alloc (.cells #[.slice a n c, .slice a' n c'] 27)) :=
    ((((((Below.refl _ w).alloc (Nat.le_refl _) _).alloc (by simp) _).alloc (by simp; omega) _).alloc (by simp; omega) _).alloc (by simp; omega) _)
  have hsz : (((((w.alloc (.cells #[.slice a n c, .slice a' n c'] 27)).alloc (.cells #[.slice al kl cl] 29)).alloc (.cells #[.int .i64 0] 3)).alloc (.cells #[.bool false] 4)).alloc (.cells #[.slice a n c, .slice a' n c'] 27)).heap.size = w.heap.size + 5 := by simp
  obtain ⟨W0, hW0⟩ : ∃ W0, ((((w.alloc (.cells #[.slice a n c, .slice a' n c'] 27)).alloc (.cells #[.slice al kl cl] 29)).alloc (.cells #[.int .i64 0] 3)).alloc (.cells #[.bool false] 4)).alloc (.cells #[.slice a n c, .slice a' n c'] 27) = W0 := ⟨_, rfl⟩
  rw [hW0] at b1 b2 b3 b4 hB0 hsz ⊢
  clear hW0
  have hT0 := (hT.later (keeps_of_below hB0)).wide (D' := fun b => b < w.heap.size ∨ b = w.heap.size + 1 + 1 + 1 + 1) (fun b hb => .inl hb)
  have hr0 : Lie (fun b => b < w.heap.size ∨ b = w.heap.size + 1 + 1 + 1 + 1) W0 a n Z r := ⟨fun i => ((hr.1 i).later (keeps_of_below hB0)).wide (fun b hb => .inl hb), fun b off e i hi => by
    obtain ⟨b2, off2, e2, hb2, _⟩ := hT.1.2.2.2 (by omega)
    have := hr.2 b off e i hi
    rw [e] at e2; cases e2
    exact (hB0.cell (p := ⟨b, off + i, none⟩) hb2).trans this⟩
  refine wpIn_rangeFunc_ownH rfl (by omega) (gf := 28) (lb := #[.pointer (some ⟨w.heap.size + 1 + 1 + 1 + 1, 0, none⟩)]) rfl trivial (enters_of Try.func28 (by kernel_rfl) rfl)
    (asked_stops _ (by omega) (w.heap.size + 1 + 1 + 1 + 1) (fun b => b < w.heap.size ∨ b = w.heap.size + 1 + 1 + 1 + 1) r W0 (fun b hb => by omega) (.inr rfl) b4 hT0 hr0) keepsK_t (keepsK_b (fun b hb => by omega)) (Below.refl _ _) (fun _ => rfl)
    (fun pre W => ((pre.all fun i => !sameB (zat Z i).1 L) = true ∧ Boxed W (w.heap.size + 1) 29 (.slice al kl cl) ∧ Boxed W (w.heap.size + 1 + 1) 3 (.int .i64 0) ∧ Boxed W (w.heap.size + 1 + 1 + 1) 4 (.bool false)) ∧ Below w.heap.size w W)
    (fun cd pre W => (cd = .ret ∧ ((∃ pre1 x, pre = pre1 ++ [x] ∧ (pre1.all fun i => !sameB (zat Z i).1 L) = true ∧ sameB (zat Z x).1 L = true)) ∧ Boxed W (w.heap.size + 1 + 1) 3 (.int .i64 (pre.getLastD 0 : Nat)) ∧ Boxed W (w.heap.size + 1 + 1 + 1) 4 (.bool true)) ∧ Below w.heap.size w W)
    (OwnFrom.and (OwnFrom.and (ownFrom_pure _ _) (OwnFrom.and (Own.from (boxed_own _ _ _) _) (OwnFrom.and (Own.from (boxed_own _ _ _) _) (Own.from (boxed_own _ _ _) _)))) (ownFrom_below (Nat.le_refl _) (by omega)))
    (fun cd => OwnFrom.and (OwnFrom.and (ownFrom_pure _ _) (OwnFrom.and (ownFrom_pure _ _) (OwnFrom.and (Own.from (boxed_own _ _ _) _) (Own.from (boxed_own _ _ _) _)))) (ownFrom_below (Nat.le_refl _) (by omega)))
    ⟨⟨rfl, b1, b2, b3⟩, hB0⟩
    (fun x a2 W => a2 = { tmps := #[.agg #[.slice a n c, .slice a' n c'], .slice al kl cl, .pointer (some ⟨w.heap.size, 0, none⟩), .pointer (some ⟨w.heap.size + 1, 0, none⟩), .pointer (some ⟨w.heap.size + 1 + 1, 0, none⟩), .pointer (some ⟨w.heap.size + 1 + 1 + 1, 0, none⟩), .int .i64 (x : Nat), .slice (r x).1 (r x).2.1 (r x).2.2, .agg #[.slice a n c, .slice a' n c'], .func (.func 28) #[] #[.pointer (some ⟨w.heap.size + 1 + 1 + 1 + 1, 0, none⟩)], .int .i64 (x : Nat), .slice (r x).1 (r x).2.1 (r x).2.2, undef, undef, undef, undef], defers := [] })
    (fun x a2 _ X Y row hs hg hr => hs)
    ?assign ?body ?done ?stop
  case assign =>
    rintro l pre x W K hI hK
    dsimp only [encA]
    gi_wp2
    exact hK _ _ (KeepsFrom.refl _ _) (Keeps.refl _ _) hI rfl
  case body =>
    rintro l pre x a2 W hl ⟨r2, hr2⟩ ⟨⟨hp, d1, d2, d3⟩, hB1⟩ rfl hlt
    have c1 := d1.cell
    have hX : Lab w.heap.size W (r x).1 (r x).2.1 (r x).2.2 (zat Z x).1 := (hr.1 x).later (keeps_of_below hB1)
    have hLW := hL.later hB1
    cases hq : sameB (zat Z x).1 L with
    | true =>
      have HP : Hid ((pre.all fun i => !sameB (zat Z i).1 L) = true) := hp
      clear hp
      gi_wp2_with (refine ⟨trivial, ?_⟩; gi_at_call 25; refine (CallsIn.inRound l (callsIn_wide.2 (same_any hX hB1.size hLW hB1.size))).mono ?_; rintro e w1 ⟨rfl, hb1⟩; rw [hq]; have d2' := d2.kept (below_grown hb1) (by simp); have d3' := d3.kept (below_grown hb1) (by simp); have c2 := d2'.cell; have f2 := d2'.frozen; have c3 := d3'.cell; have f3 := d3'.frozen; have HB : Hid (Below w.heap.size w w1) := hB1.trans (hb1.mono hB1.size))
      exact ⟨(((koB hb1).trans (KeepsOthers.setCell _ _ _)).trans (KeepsOthers.setCell _ _ _)).from _, ⟨rfl, ⟨pre, x, rfl, HP.out, hq⟩, by simpa using (d2'.set (.int .i64 (x : Nat))).other (B' := w.heap.size + 1 + 1 + 1) (by omega) (.bool true), (d3'.other (by omega) _).set _⟩,
        (HB.out.setCell (p := ⟨w.heap.size + 1 + 1, 0, none⟩) (by show w.heap.size ≤ w.heap.size + 1 + 1; omega) _).setCell (p := ⟨w.heap.size + 1 + 1 + 1, 0, none⟩) (by show w.heap.size ≤ w.heap.size + 1 + 1 + 1; omega) _⟩
    | false =>
      have HP : Hid (((pre ++ [x]).all fun i => !sameB (zat Z i).1 L) = true) := by show ((pre ++ [x]).all fun i => !sameB (zat Z i).1 L) = true; rw [List.all_append, hp]; simp [hq]
      clear hp
      gi_wp2_with (refine ⟨trivial, ?_⟩; gi_at_call 25; refine (CallsIn.inRound l (callsIn_wide.2 (same_any hX hB1.size hLW hB1.size))).mono ?_; rintro e w1 ⟨rfl, hb1⟩; rw [hq])
      have hlW : l < W.heap.size := (Array.getElem?_eq_some_iff.1 hr2).1
      exact ⟨(koB hb1).from _, ⟨hb1.size, fun b hb => hb1.block b (by omega)⟩, ⟨HP.out, d1.kept (below_grown hb1) (by simp), d2.kept (below_grown hb1) (by simp), d3.kept (below_grown hb1) (by simp)⟩, hB1.trans (hb1.mono hB1.size)⟩
  case done =>
    rintro D ys W hD rfl ⟨⟨hp, d1, d2, d3⟩, hB⟩ hK
    have hn := fnd_askd_none hp
    have hN : Hid (fN Z L = 0) := by unfold Hid fN; rw [hn]; rfl
    have hF : Hid (fF Z L = false) := by unfold Hid fF; rw [hn]; rfl
    have c2 := d2.cell
    have f2 := d2.frozen
    have c3 := d3.cell
    have f3 := d3.frozen
    clear hp hn
    gi_wp2
    have hK' := (((KeepsOthers.setCell W ⟨w.heap.size + 1 + 1, 0, none⟩ (.int .i64 0)).trans (KeepsOthers.setCell _ ⟨w.heap.size + 1 + 1 + 1, 0, none⟩ (.bool false))).same D _ hK rfl)
    refine ⟨by simp, .inl ⟨_, _, rfl, run_takeDeferred hK', ?_⟩⟩
    have e2 := cell_kept ((d2.set (.int .i64 0)).other (B' := w.heap.size + 1 + 1 + 1) (by omega) (.bool false)).cell (grownBy_putObj' _ D (.deferred none)) (fun r e => by cases e; exact ⟨_, hK', rfl⟩)
    have e3 := cell_kept ((d3.other (B' := w.heap.size + 1 + 1) (by omega) (.int .i64 0)).set (.bool false)).cell (grownBy_putObj' _ D (.deferred none)) (fun r e => by cases e; exact ⟨_, hK', rfl⟩)
    refine ⟨.tuple #[.int .i64 0, .bool false], ?_, by rw [hN.out, hF.out], ((hB.setCell (p := ⟨w.heap.size + 1 + 1, 0, none⟩) (by show w.heap.size ≤ w.heap.size + 1 + 1; omega) _).setCell (p := ⟨w.heap.size + 1 + 1 + 1, 0, none⟩) (by show w.heap.size ≤ w.heap.size + 1 + 1 + 1; omega) _).trans (belowK_b (w := w) (Nat.le_refl _) _ D _ _ (by omega) hK' rfl rfl)⟩
    simp [results, Try.f15, go_sem, e2, e3]
  case stop =>
    rintro D cd pre W hD hpre ⟨⟨rfl, ⟨pre1, x, rfl, h1, h2⟩, d2, d3⟩, hB⟩ hK
    have hn := fnd_askd_some hpre h1 h2
    have hN : Hid (fN Z L = (x : Nat)) := by unfold Hid fN; rw [hn]; rfl
    have hF : Hid (fF Z L = true) := by unfold Hid fF; rw [hn]; rfl
    clear h1 h2 hn
    gi_wp2
    refine ⟨by simp, .inl ⟨_, _, rfl, run_takeDeferred hK, ?_⟩⟩
    have e2 := cell_kept d2.cell (grownBy_putObj' _ D (.deferred none)) (fun r e => by cases e; exact ⟨_, hK, rfl⟩)
    have e3 := cell_kept d3.cell (grownBy_putObj' _ D (.deferred none)) (fun r e => by cases e; exact ⟨_, hK, rfl⟩)
    refine ⟨.tuple #[.int .i64 (x : Nat), .bool true], ?_, by rw [hN.out, hF.out], hB.trans (belowK_b (w := w) (Nat.le_refl _) W D _ _ (by omega) hK rfl rfl)⟩
    simp [results, Try.f15, go_sem, e2, e3]
end Go.Proofs.Ytjkncajcmdlmgaa
