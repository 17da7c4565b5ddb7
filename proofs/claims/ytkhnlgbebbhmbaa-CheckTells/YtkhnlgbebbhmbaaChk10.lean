/-
  PROVED HERE: what the statements' helper 'awake' of layer 3 returns when it is called (a contract over this translation). No condition.
-/
import Derived.Test.YtkhnlgbebbhmbaaChk9
namespace Go.Proofs.Ytkhnlgbebbhmbaa
open Go.ChangeShapes Go.WideShapes Go.ChangeAt Go.RowKit
set_option linter.unusedVariables false

theorem next3 {w w1 w2 : World} (h : Below w.heap.size w w1) (k : Below w1.heap.size w1 w2) : Below w.heap.size w w2 := h.trans (k.mono h.size)
theorem litLab (w : World) (c l : Int) : Lab (w.alloc (.cells #[.int .u64 c, .int .i64 l] 43)).heap.size (w.alloc (.cells #[.int .u64 c, .int .i64 l] 43)) (some ⟨w.heap.size, 0, none⟩) 1 1 [(c, l)] :=
  ⟨rfl, Nat.le_refl _, ⟨by omega, fun hz => by cases hz⟩, fun _ => ⟨_, _, rfl, by simp, fun i hi => by
    have : i = 0 := by omega
    subst this
    have b := Two.new w 43 (.int .u64 c) (.int .i64 l)
    exact ⟨b.cell0, b.cell1⟩⟩⟩
theorem litLabs {w : World} {ls : List (Option Addr × Nat × Nat × List (Int × Int))} (h : Labs w ls) (c l : Int) : Labs (w.alloc (.cells #[.int .u64 c, .int .i64 l] 43)) ((some ⟨w.heap.size, 0, none⟩, 1, 1, [(c, l)]) :: ls) :=
  (h.next ((Below.refl _ _).alloc (Nat.le_refl _) _)).push (litLab w c l)

set_option maxRecDepth 100000 in
set_option maxHeartbeats 2000000 in
theorem awake3_any (w : World) : Calls Try.prog 10 #[] w fun e w' => e = .returned (.bool true) ∧ Below w.heap.size w w' := by
  have H := litLabs (litLabs (litLabs (Labs.nil w) 7 4) 7 0) 7 1
  simp only [World.size_alloc] at H
  have hw := H _ (List.Mem.head _)
  have ho := H _ (List.Mem.tail _ (List.Mem.head _))
  have hs := H _ (List.Mem.tail _ (List.Mem.tail _ (List.Mem.head _)))
  clear H
  dsimp only at hw ho hs
  have hB := (((Below.refl w.heap.size w).alloc (Nat.le_refl _) (.cells #[.int .u64 7, .int .i64 4] 43)).alloc (by simp) (.cells #[.int .u64 7, .int .i64 0] 43)).alloc (by simp; omega) (.cells #[.int .u64 7, .int .i64 1] 43)
  have f1 : exc (raiseL [(7, 0)]) [] = [7] := by decide +kernel
  have f2 : leqB [(7, 4)] (raiseL []) = false := by decide +kernel
  have f3 : leqB [(7, 4)] (raiseL [(7, 0)]) = true := by decide +kernel
  have f4 : (leqB [(7, 1)] (raiseL []) && leqB [] [(7, 1)]) = false := by decide +kernel
  go_enter Try.func10, Try.ntmps10
  go_wp2_with (first | (go_at_call 28; refine (hides_any ho (Lab.nil _ _) (by omega) (by omega)).mono ?_; rintro e w1 ⟨ao1, n1, cap1, rfl, hh, hb⟩; rw [f1] at hh; obtain rfl : 1 = n1 := hh.1; replace ho := ho.next hb; replace hs := hs.next hb; replace hw := hw.next hb; replace hB := next3 hB hb; clear hb) | (go_at_call 11; refine (observe_any (Lab.nil _ _) hs (by omega) (by omega)).mono ?_; rintro e w1 ⟨rfl, hb⟩; rw [f2]; replace ho := ho.next hb; replace hs := hs.next hb; replace hw := hw.next hb; replace hh := hh.next hb; replace hB := next3 hB hb; clear hb) | (go_at_call 11; refine (observe_any ho hs (by omega) (by omega)).mono ?_; rintro e w1 ⟨rfl, hb⟩; rw [f3]; replace ho := ho.next hb; replace hs := hs.next hb; replace hw := hw.next hb; replace hh := hh.next hb; replace hB := next3 hB hb; clear hb) | (go_at_call 13; refine (modify_any (Lab.nil _ _) hw (by omega) (by omega)).mono ?_; rintro e w1 ⟨rfl, hb⟩; rw [f4]; replace hh := hh.next hb; replace hB := next3 hB hb; clear hb; obtain ⟨b, off, x, rfl, _, d0, hx⟩ := hh.at (i := 0) (by omega); obtain rfl : 7 = x := hx.out; rw [Nat.add_zero] at d0; have hcm := hh.2.2.1; have hnc := hh.2.1))
  go_ret
  exact ⟨rfl, hB⟩
end Go.Proofs.Ytkhnlgbebbhmbaa
