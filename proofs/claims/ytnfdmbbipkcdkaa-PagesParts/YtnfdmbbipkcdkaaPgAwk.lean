/-
  PROVED HERE: that the law's own examples of chapter 12 hold when they are called (a contract over this translation). No condition.
-/
import Derived.Test.YtnfdmbbipkcdkaaPg9
namespace Go.Proofs.Ytnfdmbbipkcdkaa
open Go.RowKit Go.Shelf
set_option linter.unusedVariables false
attribute [local go_sem] Oper.semAt_some
open Pg

theorem aw1 : putE [] ⟨2, 4, 0, 0, 1, false⟩ = 0 ∧ putL [] ⟨2, 4, 0, 0, 1, false⟩ = [⟨2, 4, 0, 0, 1, false⟩] := ⟨rfl, rfl⟩
theorem aw2 : fN [⟨2, 4, 0, 0, 1, false⟩] 3 = 2 ∧ fF [⟨2, 4, 0, 0, 1, false⟩] 3 = true ∧ fM [⟨2, 4, 0, 0, 1, false⟩] 3 = ⟨2, 4, 0, 0, 1, false⟩ := ⟨rfl, rfl, rfl⟩
theorem aw3 : putE [⟨2, 4, 0, 0, 1, false⟩] ⟨5, 1, 0, 0, 0, false⟩ = 12 := rfl
theorem aw4 : spP 35 = 2 ∧ spW 35 = 3 ∧ spB 35 = true := ⟨rfl, rfl, rfl⟩
set_option maxRecDepth 100000 in
set_option maxHeartbeats 2000000 in
theorem awake_any (w : World) : Calls Try.prog 6 #[] w fun e w' => e = .returned (.bool true) ∧ Below w.heap.size w w' := by
  have hp1 := fun W => put_any (Mps.nil W.heap.size W) Fit.nil 2 4 0 0 1 false
  have hF1 : Hid (Fit [(⟨2, 4, 0, 0, 1, false⟩ : Mp)]) := by show Fit _; have := fit_put (m := ⟨2, 4, 0, 0, 1, false⟩) Fit.nil; rw [aw1.2] at this; exact this
  simp only [aw1.1, aw1.2] at hp1
  have hs := fun W => split_any 35 (by omega) (by omega) W
  simp only [aw4.1, aw4.2.1, aw4.2.2] at hs
  have hfd : ∀ {W : World} {a : Option Addr} {c : Nat}, Mps W.heap.size W a 1 c [(⟨2, 4, 0, 0, 1, false⟩ : Mp)] → Calls Try.prog 17 #[.slice a 1 c, .int .i64 3] W fun e W' => e = .returned (.tuple #[.agg #[.int .i64 2, .int .i64 4, .int .u64 0, .int .u64 0, .int .i64 1, .bool false], .int .i64 2, .bool true]) ∧ Below W.heap.size W W' := fun h => by
    have := find_any h hF1.out 3
    rw [aw2.1, aw2.2.1, aw2.2.2] at this
    exact this
  have hp2 : ∀ {W : World} {a : Option Addr} {c : Nat}, Mps W.heap.size W a 1 c [(⟨2, 4, 0, 0, 1, false⟩ : Mp)] → Calls Try.prog 13 #[.slice a 1 c, .agg #[.int .i64 5, .int .i64 1, .int .u64 0, .int .u64 0, .int .i64 0, .bool false]] W fun e W' => ∃ u, e = .returned (.tuple #[u, .int .i64 12]) ∧ Below W.heap.size W W' := fun h => by
    have := put_any h hF1.out 5 1 0 0 0 false
    rw [aw3] at this
    exact this.mono fun e w' ⟨u, h1, _, h3⟩ => ⟨u, h1, h3⟩
  go_enter Try.func6, Try.ntmps6
  go_wp2_with (first | (go_at_call 13; (with_reducible refine (hp1 _).mono ?_); rintro e w1 ⟨u, rfl, hown, hb1⟩; obtain ⟨ao1, cap1, rfl, hM1⟩ := mps_of_row hown) | (go_at_call 17; refine (hfd hM1).mono ?_; rintro e w2 ⟨rfl, hb2'⟩; have hb2 := hb2'.alloc hb2'.size (.cells #[.int .i64 2, .int .i64 4, .int .u64 0, .int .u64 0, .int .i64 1, .bool false] 25)) | (go_at_call 13; refine (hp2 (hM1.next hb2)).mono ?_; rintro e w3 ⟨u3, rfl, hb3⟩) | (go_at_call 7; refine (hs _).mono ?_; rintro e w4 ⟨rfl, rfl⟩) | fail)
  go_ret
  have q2 := hb1.trans (hb2.mono hb1.size)
  exact ⟨rfl, q2.trans (hb3.mono q2.size)⟩
end Go.Proofs.Ytnfdmbbipkcdkaa
