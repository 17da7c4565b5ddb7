/-
  PROVED HERE: chapter 4's examples (a contract over this translation).
-/
import Derived.Test.YtbmfehkahjeobaaDoorCod13
namespace Go.Proofs.YtbmfehkahjeobaaDoor
open Go.RowKit Go.Shelf
set_option linter.unusedVariables false

theorem read_dash : readO ⟨#[45]⟩ = some [] := by kernel_rfl
theorem read_falls : readO ⟨#[57, 58, 42, 44, 55, 58, 51]⟩ = none := by kernel_rfl
theorem read_fallsE : readE ⟨#[57, 58, 42, 44, 55, 58, 51]⟩ = 11 := by kernel_rfl
theorem text_ex : textOf [(7, 4), (9, 0)] = ⟨#[55, 58, 51, 44, 57, 58, 42]⟩ := by kernel_rfl
theorem labTwo (w : World) (c l c' l' : Int) : Lab (w.alloc (.cells #[.int .u64 c, .int .i64 l, .int .u64 c', .int .i64 l'] 35)).heap.size (w.alloc (.cells #[.int .u64 c, .int .i64 l, .int .u64 c', .int .i64 l'] 35)) (some ⟨w.heap.size, 0, none⟩) 2 2 [(c, l), (c', l')] :=
  ⟨rfl, Nat.le_refl _, ⟨by omega, fun h => by cases h⟩, fun _ => ⟨w.heap.size, 0, rfl, by simp, fun i hi => by
    have : i = 0 ∨ i = 1 := by omega
    rcases this with rfl | rfl <;> simp⟩⟩

set_option maxRecDepth 100000 in
theorem awake_any (w : World) (hv : Vars w) : Calls Tryd.prog 4 #[] w fun e w' => e = .returned (.bool true) ∧ Below w.heap.size w w' := by
  have hR1 : Calls Tryd.prog 5 #[.string ⟨#[45]⟩] w fun e w' => ∃ ao1 cap1, e = .returned (.tuple #[.slice ao1 0 cap1, .int .i64 0]) ∧ Below w.heap.size w w' :=
    (read_some ⟨#[45]⟩ (by decide) hv read_dash).mono fun e w' ⟨a, c, h, _, hb⟩ => ⟨a, c, h, hb⟩
  have hR2 : ∀ W, Vars W → Calls Tryd.prog 5 #[.string ⟨#[57, 58, 42, 44, 55, 58, 51]⟩] W fun e w' => e = .returned (.tuple #[.slice none 0 0, .int .i64 11]) ∧ Below W.heap.size W w' := fun W hW => by
    have h := read_none (w := W) ⟨#[57, 58, 42, 44, 55, 58, 51]⟩ (by decide) hW read_falls
    rw [read_fallsE] at h
    exact h
  have hT : ∀ W, Vars W → Calls Tryd.prog 7 #[.slice (some ⟨W.heap.size, 0, none⟩) 2 2] (W.alloc (.cells #[.int .u64 7, .int .i64 4, .int .u64 9, .int .i64 0] 35)) fun e w' => e = .returned (.string ⟨#[55, 58, 51, 44, 57, 58, 42]⟩) ∧ Below (W.heap.size + 1) (W.alloc (.cells #[.int .u64 7, .int .i64 4, .int .u64 9, .int .i64 0] 35)) w' := fun W hW => by
    have h := ctext_any (labTwo W 7 4 9 0) (fun k => (by rcases k with _ | _ | k <;> simp)) (hW.later ((Below.refl _ W).alloc (Nat.le_refl _) _)) (by omega)
    rw [text_ex] at h
    simpa using h
  have HV : Hid (Vars w) := hv
  clear hv
  go_enter Tryd.func4, Tryd.ntmps4
  go_wp2_with (first | (go_at_call 5; refine hR1.mono ?_; rintro e w1 ⟨ao1, cap1, rfl, hb1⟩) | (go_at_call 5; refine (hR2 _ (HV.out.later hb1)).mono ?_; rintro e w2 ⟨rfl, hb2⟩; have HV2 : Hid (Vars w2) := (HV.out.later hb1).later hb2; have hb12 : Below w.heap.size w w2 := hb1.trans (hb2.mono hb1.size)) | (go_at_call 7; refine (hT _ HV2.out).mono ?_; rintro e w3 ⟨rfl, hb3⟩))
  go_ret
  exact ⟨rfl, (hb12.alloc hb12.size _).trans (hb3.mono (Nat.le_succ_of_le hb12.size))⟩
end Go.Proofs.YtbmfehkahjeobaaDoor
