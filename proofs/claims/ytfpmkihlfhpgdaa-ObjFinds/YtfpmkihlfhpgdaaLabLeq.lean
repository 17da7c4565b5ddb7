/-
  PROVED HERE: what label.Leq returns when it is called (a contract over this translation). No condition.
-/
import Derived.Test.YtfpmkihlfhpgdaaLabIter
namespace Go.Proofs.Ytfpmkihlfhpgdaa
open Go.RowKit Go.Shelf
set_option linter.unusedVariables false
attribute [local go_sem] Oper.semAt_some

def leqB (A C : List (Int × Int)) : Bool := (both A C).all fun x => Lv.leq x.2.1 x.2.2

set_option maxRecDepth 100000 in
set_option maxHeartbeats 2000000 in
theorem lleq_any {B : Nat} {w : World} {ao ao' : Option Addr} {k k' cap cap' : Nat} {A C : List (Int × Int)} (hA : Lab w.heap.size w ao k cap A) (hC : Lab w.heap.size w ao' k' cap' C) :
    Calls Try.prog 94 #[.slice ao k cap, .slice ao' k' cap'] w fun e w' => e = .returned (.bool (leqB A C)) ∧ Below w.heap.size w w' := by
  refine (callsIn_wide (n := 5)).1 ?_
  refine callsIn_of_wp_marks Try.func94 rfl trivial ?_ rfl
  simp only [Try.ntmps94, List.size_toArray, List.length_cons, List.length_nil, Nat.reduceAdd, Nat.reduceSub, Array.replicate_succ, Array.replicate_zero, List.push_toArray, List.append_toArray, List.nil_append, List.cons_append]
  gi_wp2_with (refine ⟨trivial, ?_⟩; gi_at_call 107; refine (callsIn_wide.2 (both_any _ _ _ _ _ _ _)).mono ?_; rintro e w' ⟨rfl, rfl⟩)
  have bR := ((Boxed.new w 4 (.bool false)).alloc (.cells #[.slice ao k cap] 24)).alloc (.cells #[.slice ao' k' cap'] 24)
  have bA := (Boxed.new (w.alloc (.cells #[.bool false] 4)) 24 (.slice ao k cap)).alloc (.cells #[.slice ao' k' cap'] 24)
  have bC := Boxed.new ((w.alloc (.cells #[.bool false] 4)).alloc (.cells #[.slice ao k cap] 24)) 24 (.slice ao' k' cap')
  simp only [World.size_alloc] at bA bC
  have hB0 : Below w.heap.size w (((w.alloc (.cells #[.bool false] 4)).alloc (.cells #[.slice ao k cap] 24)).alloc (.cells #[.slice ao' k' cap'] 24)) := (((Below.refl _ w).alloc (Nat.le_refl _) _).alloc (by simp) _).alloc (by simp; omega) _
  have hsz : (((w.alloc (.cells #[.bool false] 4)).alloc (.cells #[.slice ao k cap] 24)).alloc (.cells #[.slice ao' k' cap'] 24)).heap.size = w.heap.size + 3 := by simp
  obtain ⟨W0, hW0⟩ : ∃ W0, ((w.alloc (.cells #[.bool false] 4)).alloc (.cells #[.slice ao k cap] 24)).alloc (.cells #[.slice ao' k' cap'] 24) = W0 := ⟨_, rfl⟩
  rw [hW0] at bR bA bC hB0 hsz ⊢
  clear hW0
  refine wpIn_rangeFunc_ownH rfl (by omega) (gf := 111) (lb := #[.pointer (some ⟨w.heap.size + 1, 0, none⟩), .pointer (some ⟨w.heap.size + 1 + 1, 0, none⟩)]) rfl trivial (enters_of Try.func111 (by kernel_rfl) rfl)
    (both_stops _ (by omega) (w.heap.size + 1) (w.heap.size + 1 + 1) (fun b => b < w.heap.size) W0 (by omega) (by omega) (fun b hb => by omega) bA.cell bC.cell (hA.later hB0) (hC.later hB0)) keepsK_t (keepsK_b (fun b hb => by omega)) (Below.refl _ _) (fun _ => rfl)
    (fun pre W => ((pre.all fun x => Lv.leq x.2.1 x.2.2) = true ∧ Boxed W w.heap.size 4 (.bool false)) ∧ Below w.heap.size w W)
    (fun c pre W => (c = .ret ∧ (pre.all fun x => Lv.leq x.2.1 x.2.2) = false ∧ Boxed W w.heap.size 4 (.bool false)) ∧ Below w.heap.size w W)
    (OwnFrom.and (OwnFrom.and (ownFrom_pure _ _) (Own.from (boxed_own _ _ _) _)) (ownFrom_below (Nat.le_refl _) (by omega)))
    (fun c => OwnFrom.and (OwnFrom.and (ownFrom_pure _ _) (OwnFrom.and (ownFrom_pure _ _) (Own.from (boxed_own _ _ _) _))) (ownFrom_below (Nat.le_refl _) (by omega)))
    ⟨⟨rfl, bR⟩, hB0⟩
    (fun x a' W => ∃ Bx, w.heap.size < Bx ∧ Two W Bx 118 (.int .i64 x.2.1) (.int .i64 x.2.2) ∧ a' = { tmps := #[.slice ao k cap, .slice ao' k' cap', undef, undef, .pointer (some ⟨w.heap.size, 0, none⟩), undef, .pointer (some ⟨Bx, 0, none⟩), .slice ao k cap, .slice ao' k' cap', .func (.func 111) #[] #[.pointer (some ⟨w.heap.size + 1, 0, none⟩), .pointer (some ⟨w.heap.size + 1 + 1, 0, none⟩)], .int .u64 x.1, .agg #[.int .i64 x.2.1, .int .i64 x.2.2], undef, undef, undef, undef, undef, undef], defers := [] })
    (fun x a' _ X Y row hs hg hr => by obtain ⟨Bx, h1, h2, h3⟩ := hs; exact ⟨Bx, h1, two_own Bx _ (fun (_ : Unit) => Value.int .i64 x.2.1) (fun _ => Value.int .i64 x.2.2) () X Y row h2 hg (fun r e => (hr r e).2), h3⟩)
    ?assign ?body ?done ?stop
  case assign =>
    rintro l pre x W K ⟨⟨hp, bR1⟩, hB1⟩ hK
    dsimp only [encP]
    gi_wp2
    exact hK _ _ ((KeepsOthers.alloc _ _).from _) (keeps_of_below ((Below.refl _ W).alloc hB1.size _)) ⟨⟨hp, bR1.alloc _⟩, hB1.alloc hB1.size _⟩ ⟨W.heap.size, bR1.lt, Two.new W _ _ _, rfl⟩
  case body =>
    rintro l pre x a' W hl ⟨r, hr⟩ ⟨⟨hp, bR1⟩, hB1⟩ ⟨Bx, hBx, bX, rfl⟩ hlt
    have c0 := bX.cell0
    have c1 := bX.cell1
    have cR := bR1.cell
    have fR := bR1.frozen
    cases hq : Lv.leq x.2.1 x.2.2 with
    | false =>
      have hP : Hid (((pre ++ [x]).all fun x => Lv.leq x.2.1 x.2.2) = false) := by show ((pre ++ [x]).all fun x => Lv.leq x.2.1 x.2.2) = false; simp [hq]
      clear hp
      gi_wp2_with (refine ⟨trivial, ?_⟩; gi_at_call 108; refine (CallsIn.inRound l (callsIn_wide.2 (leq_any _ _ _))).mono ?_; rintro e w' ⟨rfl, rfl⟩)
      exact ⟨(KeepsOthers.setCell _ _ _).from _, ⟨rfl, hP.out, bR1.set _⟩, hB1.setCell (p := ⟨w.heap.size, 0, none⟩) (Nat.le_refl _) _⟩
    | true =>
      have hP : Hid (((pre ++ [x]).all fun x => Lv.leq x.2.1 x.2.2) = true) := by show ((pre ++ [x]).all fun x => Lv.leq x.2.1 x.2.2) = true; simp [hq]; simpa using hp
      clear hp
      gi_wp2_with (refine ⟨trivial, ?_⟩; gi_at_call 108; refine (CallsIn.inRound l (callsIn_wide.2 (leq_any _ _ _))).mono ?_; rintro e w' ⟨rfl, rfl⟩)
      exact ⟨KeepsFrom.refl _ _, Keeps.refl _ _, ⟨hP.out, bR1⟩, hB1⟩
  case done =>
    rintro D ys W hD rfl ⟨⟨hp, bR1⟩, hB⟩ hK
    have hr : Hid (leqB A C = true) := hp
    have cR := bR1.cell
    have fR := bR1.frozen
    clear hp
    gi_wp2
    have hK' := (KeepsOthers.setCell W ⟨w.heap.size, 0, none⟩ (.bool true)).same D _ hK rfl
    refine ⟨by simp, .inl ⟨_, _, rfl, run_takeDeferred hK', ?_⟩⟩
    have hc5 := cell_kept (bR1.set (.bool true)).cell (grownBy_putObj' _ D (.deferred none)) (fun r e => by cases e; exact ⟨_, hK', rfl⟩)
    refine ⟨.bool true, ?_, by rw [hr.out], (hB.setCell (p := ⟨w.heap.size, 0, none⟩) (Nat.le_refl _) _).trans (belowK_b (w := w) (Nat.le_refl _) _ D _ _ (by omega) hK' rfl rfl)⟩
    simp [results, Try.f94, go_sem, hc5]
  case stop =>
    rintro D c pre W hD hpre ⟨⟨rfl, hin, bR1⟩, hB⟩ hK
    have hr : Hid (leqB A C = false) := by
      show (both A C).all _ = false
      rw [List.all_eq_false] at hin ⊢
      obtain ⟨x, hx, hy⟩ := hin
      exact ⟨x, hpre.subset hx, hy⟩
    clear hin
    gi_wp2
    refine ⟨by simp, .inl ⟨_, _, rfl, run_takeDeferred hK, ?_⟩⟩
    have hc5 := cell_kept bR1.cell (grownBy_putObj' _ D (.deferred none)) (fun r e => by cases e; exact ⟨_, hK, rfl⟩)
    refine ⟨.bool false, ?_, by rw [hr.out], hB.trans (belowK_b (w := w) (Nat.le_refl _) W D _ _ (by omega) hK rfl rfl)⟩
    simp [results, Try.f94, go_sem, hc5]
end Go.Proofs.Ytfpmkihlfhpgdaa
