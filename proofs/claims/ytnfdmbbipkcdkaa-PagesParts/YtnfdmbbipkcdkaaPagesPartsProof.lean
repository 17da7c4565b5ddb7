/-
  PROVED HERE: PagesParts holds for every input: a map of several pages is, for each page, what two maps are, one behind the other, of its first pages and of the others; maps in either order are the same. No condition.
-/
import Derived.Test.YtnfdmbbipkcdkaaRows
import Derived.Test.YtnfdmbbipkcdkaaPgLaw
import Derived.WalkKit
import Derived.ProofKit
import Derived.OpenShut
import Derived.Below
import Derived.ShutString
import Derived.Deep.QuietTactic
import Derived.Deep.DeepCutAuto
namespace Go.Proofs.Ytnfdmbbipkcdkaa
namespace pagesParts
open Go.ChangeShapes Go.WideShapes Go.ChangeAt Go.RowKit
open Go.ChangeMaps (open_string shut_string)
set_option linter.unusedVariables false

theorem own : ownKnob Try.prog.godebug = none := by kernel_rfl

open Pg
set_option maxRecDepth 100000 in
set_option maxHeartbeats 8000000 in
theorem walk (ao0 : Option Addr) (n0 cap0 : Nat) (L0 : List Pg.Mp) (va1 nn1 co1 se1 of1 : Int) (wb1 : Bool) (a2 : Int) (a3 : Int) (w : World) (l0 : Mps w.heap.size w ao0 n0 cap0 L0) (l1 : Pg.Mp.ok ⟨va1, nn1, co1, se1, of1, wb1⟩) (w2 : (Lit.int .i64 a2).wf = true) (w3 : (Lit.int .i64 a3).wf = true) :
    Calls Try.prog 5 #[.slice ao0 n0 cap0, .agg #[.int .i64 va1, .int .i64 nn1, .int .u64 co1, .int .u64 se1, .int .i64 of1, .bool wb1], .int .i64 a2, .int .i64 a3] w fun e w' => e = .returned (.bool true) ∧ Below w.heap.size w w' := by
  have hn0 : Hid (L0.length = n0) := l0.1
  have hnc0 := l0.2.1
  have hcm0 := l0.2.2.1.1
  have haw := fun W => awake_any W
  have hrf := fun {W} (h : Mps W.heap.size W ao0 n0 cap0 L0) => rfit_any h
  have hB : Below w.heap.size w (w.alloc (.cells #[.int .i64 va1, .int .i64 nn1, .int .u64 co1, .int .u64 se1, .int .i64 of1, .bool wb1] 25)) := (Below.refl _ w).alloc (Nat.le_refl _) _
  have hM := Mb.new w ⟨va1, nn1, co1, se1, of1, wb1⟩
  have hmx : Try.prog.follows .mixedOrders = true := by kernel_rfl
  by_cases h0 : 14 < n0
  · go_enter Try.func5, Try.ntmps5
    go_wp2_with (go_at_call 6; refine (haw _).mono ?_; rintro e w1 ⟨rfl, hb1⟩)
    go_ret
    exact ⟨rfl, bel_next hB hb1⟩
  · cases hfb : fitB L0 with
    | false =>
      simp only [hfb] at hrf
      go_enter Try.func5, Try.ntmps5
      go_wp2_with (first | (go_at_call 10; (with_reducible refine (hrf (bel_mps l0 hB)).mono ?_); rintro e w1 ⟨rfl, hb1⟩; replace hB := bel_next hB hb1) | (go_at_call 6; refine (haw _).mono ?_; rintro e w1 ⟨rfl, hb1⟩; replace hB := bel_next hB hb1) | fail)
      go_ret
      exact ⟨rfl, hB⟩
    | true =>
      simp only [hfb] at hrf
      have hF : Hid (Fit L0) := fit_iff.1 hfb
      have hn14 : n0 ≤ 14 := by omega
      have hnl : Hid (L0.length ≤ 14) := by show _ ≤ _; rw [hn0.out]; exact hn14
      clear hfb
      by_cases hat : 1 ≤ a2 ∧ a2 < nn1
      · obtain ⟨ha1, ha2⟩ := hat
        have hpt := fun {W} (h : Mps W.heap.size W ao0 n0 cap0 L0) => put_sl h hF.out va1 nn1 co1 se1 of1 wb1
        go_enter Try.func5, Try.ntmps5
        go_upto_region 4 with (first | (go_at_call 10; (with_reducible refine (hrf (bel_mps l0 hB)).mono ?_); rintro e w1 ⟨rfl, hb1⟩; replace hB := bel_next hB hb1; replace hM := hM.next hb1; obtain ⟨m0, m1, m2, m3, m4, m5⟩ := hM.cells; simp only at m0 m1 m2 m3 m4 m5) | (go_at_call 13; (with_reducible refine (hpt (bel_mps l0 hB)).mono ?_); rintro e w2 ⟨aA, cA, rfl, hA, hb2⟩; replace hB := bel_next hB hb2; replace hM := hM.next hb2; obtain ⟨n0', n1, n2, n3, n4, n5⟩ := hM.cells; simp only at n0' n1 n2 n3 n4 n5) | fail)
        go_cut [11, 12, 52, 53] (fun v11 v12 _ _ wc => ∃ B1 B2 : Nat, v11 = .pointer (some ⟨B1, 0, none⟩) ∧ v12 = .pointer (some ⟨B2, 0, none⟩) ∧ B1 ≠ B2 ∧ w2.heap.size ≤ B1 ∧ w2.heap.size ≤ B2 ∧ Mb wc B1 ⟨va1, nn1, co1, se1, of1, wb1⟩ ∧ Mb wc B2 ⟨va1, nn1, co1, se1, of1, wb1⟩ ∧ Mb wc w.heap.size ⟨va1, nn1, co1, se1, of1, wb1⟩ ∧ Below w2.heap.size w2 wc)
        case first =>
          have hA0 : w.heap.size < w2.heap.size := hM.lt
          clear m0 m1 m2 m3 m4 m5 n0' n1 n2 n3 n4 n5
          refine region_out (S := (fun W => Mb W w.heap.size (⟨va1, nn1, co1, se1, of1, wb1⟩ : Mp) ∧ Below w2.heap.size w2 W)) hmx ⟨hM.next (Below.refl _ _).drew, (Below.refl _ _).drew⟩ (fun hS => ?_)
          have hsz3 : w2.drew.heap.size = w2.heap.size := rfl
          generalize w2.drew = W3 at hS hsz3 ⊢
          refine wpAnyH_take (i := 0) (v := .agg #[.int .i64 va1, .int .i64 nn1, .int .u64 co1, .int .u64 se1, .int .i64 of1, .bool wb1]) rfl (by kernel_rfl) (by kernel_rfl) (by kernel_rfl) (fun _ _ _ h => h) (Or.inl ⟨by kernel_rfl, fun w2 hS2 => by obtain ⟨q0, q1, q2, q3, q4, q5⟩ := Mb.cells hS2.1; go_simp⟩) hS ?_
          simp only [Act.put]
          refine wpAnyH_take (i := 1) (v := .agg #[.int .i64 va1, .int .i64 nn1, .int .u64 co1, .int .u64 se1, .int .i64 of1, .bool wb1]) rfl (by kernel_rfl) (by kernel_rfl) (by kernel_rfl) (fun _ _ _ h => h) (Or.inl ⟨by kernel_rfl, fun w2 hS2 => by obtain ⟨q0, q1, q2, q3, q4, q5⟩ := Mb.cells hS2.1; go_simp⟩) hS ?_
          simp only [Act.put]
          refine wpAnyH_ready (rs := [2, 3]) (by kernel_rfl) (by simp) ?_
          have hS4 : Mb (W3.alloc (.cells #[.int .i64 0, .int .i64 0, .int .u64 0, .int .u64 0, .int .i64 0, .bool false] 25)) w.heap.size (⟨va1, nn1, co1, se1, of1, wb1⟩ : Mp) ∧ Below w2.heap.size w2 (W3.alloc (.cells #[.int .i64 0, .int .i64 0, .int .u64 0, .int .u64 0, .int .i64 0, .bool false] 25)) := ⟨Mb.alloc hS.1 _, Below.alloc hS.2 hS.2.size _⟩
          have hS5 : Mb ((W3.alloc (.cells #[.int .i64 0, .int .i64 0, .int .u64 0, .int .u64 0, .int .i64 0, .bool false] 25)).alloc (.cells #[.int .i64 0, .int .i64 0, .int .u64 0, .int .u64 0, .int .i64 0, .bool false] 25)) w.heap.size (⟨va1, nn1, co1, se1, of1, wb1⟩ : Mp) ∧ Below w2.heap.size w2 ((W3.alloc (.cells #[.int .i64 0, .int .i64 0, .int .u64 0, .int .u64 0, .int .i64 0, .bool false] 25)).alloc (.cells #[.int .i64 0, .int .i64 0, .int .u64 0, .int .u64 0, .int .i64 0, .bool false] 25)) := ⟨Mb.alloc hS4.1 _, Below.alloc hS4.2 hS4.2.size _⟩
          have hZ1 : Mb ((W3.alloc (.cells #[.int .i64 0, .int .i64 0, .int .u64 0, .int .u64 0, .int .i64 0, .bool false] 25)).alloc (.cells #[.int .i64 0, .int .i64 0, .int .u64 0, .int .u64 0, .int .i64 0, .bool false] 25)) W3.heap.size (⟨0, 0, 0, 0, 0, false⟩ : Mp) := (Mb.new W3 (⟨0, 0, 0, 0, 0, false⟩ : Mp)).alloc _
          have hZ2 : Mb ((W3.alloc (.cells #[.int .i64 0, .int .i64 0, .int .u64 0, .int .u64 0, .int .i64 0, .bool false] 25)).alloc (.cells #[.int .i64 0, .int .i64 0, .int .u64 0, .int .u64 0, .int .i64 0, .bool false] 25)) (W3.heap.size + 1) (⟨0, 0, 0, 0, 0, false⟩ : Mp) := by have := Mb.new (W3.alloc (.cells #[.int .i64 0, .int .i64 0, .int .u64 0, .int .u64 0, .int .i64 0, .bool false] 25)) (⟨0, 0, 0, 0, 0, false⟩ : Mp); rw [World.size_alloc] at this; exact this
          rw [hsz3] at hZ1 hZ2
          refine AllReadyH.cons rfl (fun K hK => ?_) (AllReadyH.cons rfl (fun K hK => ?_) AllReadyH.nil)
          · go_simp
            refine hK.out _ _ hS4 (fun _ => ?_)
            clear hK K
            refine wpAnyH_ready (rs := [3]) (by kernel_rfl) (by simp) ?_
            refine AllReadyH.cons rfl (fun K hK => ?_) AllReadyH.nil
            go_simp
            refine hK.out _ _ hS5 (fun _ => ?_)
            clear hK K
            generalize (W3.alloc (.cells #[.int .i64 0, .int .i64 0, .int .u64 0, .int .u64 0, .int .i64 0, .bool false] 25)).alloc (.cells #[.int .i64 0, .int .i64 0, .int .u64 0, .int .u64 0, .int .i64 0, .bool false] 25) = W5 at hS5 hZ1 hZ2 ⊢
            clear hS4 hS
            obtain ⟨z0, z1, z2, z3, z4, z5⟩ := hZ1.cells
            have zf := hZ1.frozen
            have hS6 : Mb (set6 W5 w2.heap.size (⟨va1, nn1, co1, se1, of1, wb1⟩ : Mp)) w.heap.size (⟨va1, nn1, co1, se1, of1, wb1⟩ : Mp) ∧ Below w2.heap.size w2 (set6 W5 w2.heap.size (⟨va1, nn1, co1, se1, of1, wb1⟩ : Mp)) := ⟨Mb.other6 hS5.1 (by omega), below_set6 hS5.2 (by omega)⟩
            have hy1 : Mb (set6 W5 w2.heap.size (⟨va1, nn1, co1, se1, of1, wb1⟩ : Mp)) w2.heap.size (⟨va1, nn1, co1, se1, of1, wb1⟩ : Mp) := Mb.set6 hZ1
            have hy2 : Mb (set6 W5 w2.heap.size (⟨va1, nn1, co1, se1, of1, wb1⟩ : Mp)) (w2.heap.size + 1) (⟨0, 0, 0, 0, 0, false⟩ : Mp) := Mb.other6 hZ2 (by omega)
            refine wpAnyH_ready (rs := [4]) (by kernel_rfl) (by simp) ?_
            refine AllReadyH.cons rfl (fun K hK => ?_) AllReadyH.nil
            go_simp
            refine hK.out _ _ hS6 (fun _ => ?_)
            clear hK K z0 z1 z2 z3 z4 z5 zf
            unfold set6 at hS6 hy1 hy2
            simp only at hS6 hy1 hy2
            generalize (((((W5.setCell ⟨w2.heap.size, 0, none⟩ (.int .i64 va1)).setCell ⟨w2.heap.size, 1, none⟩ (.int .i64 nn1)).setCell ⟨w2.heap.size, 2, none⟩ (.int .u64 co1)).setCell ⟨w2.heap.size, 3, none⟩ (.int .u64 se1)).setCell ⟨w2.heap.size, 4, none⟩ (.int .i64 of1)).setCell ⟨w2.heap.size, 5, none⟩ (.bool wb1) = W6 at hS6 hy1 hy2 ⊢
            obtain ⟨z0, z1, z2, z3, z4, z5⟩ := hy2.cells
            have zf := hy2.frozen
            have hS7 : Mb (set6 W6 (w2.heap.size + 1) (⟨va1, nn1, co1, se1, of1, wb1⟩ : Mp)) w.heap.size (⟨va1, nn1, co1, se1, of1, wb1⟩ : Mp) ∧ Below w2.heap.size w2 (set6 W6 (w2.heap.size + 1) (⟨va1, nn1, co1, se1, of1, wb1⟩ : Mp)) := ⟨Mb.other6 hS6.1 (by omega), below_set6 hS6.2 (by omega)⟩
            have hx1 : Mb (set6 W6 (w2.heap.size + 1) (⟨va1, nn1, co1, se1, of1, wb1⟩ : Mp)) w2.heap.size (⟨va1, nn1, co1, se1, of1, wb1⟩ : Mp) := Mb.other6 hy1 (by omega)
            have hx2 : Mb (set6 W6 (w2.heap.size + 1) (⟨va1, nn1, co1, se1, of1, wb1⟩ : Mp)) (w2.heap.size + 1) (⟨va1, nn1, co1, se1, of1, wb1⟩ : Mp) := Mb.set6 hy2
            refine wpAnyH_ready (rs := [5]) (by kernel_rfl) (by simp) ?_
            refine AllReadyH.cons rfl (fun K hK => ?_) AllReadyH.nil
            go_simp
            refine hK.out _ _ hS7 (fun _ => ?_)
            clear hK K z0 z1 z2 z3 z4 z5 zf
            refine wpAnyH_done (by kernel_rfl) ?_ _
            go_wp2
            go_meet
            case rel => exact ⟨w2.heap.size, (w2.heap.size + 1), rfl, rfl, by omega, by omega, by omega, hx1, hx2, hS7.1, hS7.2⟩
          · go_simp
            refine hK.out _ _ hS4 (fun _ => ?_)
            clear hK K
            refine wpAnyH_ready (rs := [2]) (by kernel_rfl) (by simp) ?_
            refine AllReadyH.cons rfl (fun K hK => ?_) AllReadyH.nil
            go_simp
            refine hK.out _ _ hS5 (fun _ => ?_)
            clear hK K
            generalize (W3.alloc (.cells #[.int .i64 0, .int .i64 0, .int .u64 0, .int .u64 0, .int .i64 0, .bool false] 25)).alloc (.cells #[.int .i64 0, .int .i64 0, .int .u64 0, .int .u64 0, .int .i64 0, .bool false] 25) = W5 at hS5 hZ1 hZ2 ⊢
            clear hS4 hS
            obtain ⟨z0, z1, z2, z3, z4, z5⟩ := hZ2.cells
            have zf := hZ2.frozen
            have hS6 : Mb (set6 W5 (w2.heap.size + 1) (⟨va1, nn1, co1, se1, of1, wb1⟩ : Mp)) w.heap.size (⟨va1, nn1, co1, se1, of1, wb1⟩ : Mp) ∧ Below w2.heap.size w2 (set6 W5 (w2.heap.size + 1) (⟨va1, nn1, co1, se1, of1, wb1⟩ : Mp)) := ⟨Mb.other6 hS5.1 (by omega), below_set6 hS5.2 (by omega)⟩
            have hy1 : Mb (set6 W5 (w2.heap.size + 1) (⟨va1, nn1, co1, se1, of1, wb1⟩ : Mp)) (w2.heap.size + 1) (⟨va1, nn1, co1, se1, of1, wb1⟩ : Mp) := Mb.set6 hZ2
            have hy2 : Mb (set6 W5 (w2.heap.size + 1) (⟨va1, nn1, co1, se1, of1, wb1⟩ : Mp)) w2.heap.size (⟨0, 0, 0, 0, 0, false⟩ : Mp) := Mb.other6 hZ1 (by omega)
            refine wpAnyH_ready (rs := [4]) (by kernel_rfl) (by simp) ?_
            refine AllReadyH.cons rfl (fun K hK => ?_) AllReadyH.nil
            go_simp
            refine hK.out _ _ hS6 (fun _ => ?_)
            clear hK K z0 z1 z2 z3 z4 z5 zf
            unfold set6 at hS6 hy1 hy2
            simp only at hS6 hy1 hy2
            generalize (((((W5.setCell ⟨(w2.heap.size + 1), 0, none⟩ (.int .i64 va1)).setCell ⟨(w2.heap.size + 1), 1, none⟩ (.int .i64 nn1)).setCell ⟨(w2.heap.size + 1), 2, none⟩ (.int .u64 co1)).setCell ⟨(w2.heap.size + 1), 3, none⟩ (.int .u64 se1)).setCell ⟨(w2.heap.size + 1), 4, none⟩ (.int .i64 of1)).setCell ⟨(w2.heap.size + 1), 5, none⟩ (.bool wb1) = W6 at hS6 hy1 hy2 ⊢
            obtain ⟨z0, z1, z2, z3, z4, z5⟩ := hy2.cells
            have zf := hy2.frozen
            have hS7 : Mb (set6 W6 w2.heap.size (⟨va1, nn1, co1, se1, of1, wb1⟩ : Mp)) w.heap.size (⟨va1, nn1, co1, se1, of1, wb1⟩ : Mp) ∧ Below w2.heap.size w2 (set6 W6 w2.heap.size (⟨va1, nn1, co1, se1, of1, wb1⟩ : Mp)) := ⟨Mb.other6 hS6.1 (by omega), below_set6 hS6.2 (by omega)⟩
            have hx1 : Mb (set6 W6 w2.heap.size (⟨va1, nn1, co1, se1, of1, wb1⟩ : Mp)) (w2.heap.size + 1) (⟨va1, nn1, co1, se1, of1, wb1⟩ : Mp) := Mb.other6 hy1 (by omega)
            have hx2 : Mb (set6 W6 w2.heap.size (⟨va1, nn1, co1, se1, of1, wb1⟩ : Mp)) w2.heap.size (⟨va1, nn1, co1, se1, of1, wb1⟩ : Mp) := Mb.set6 hy2
            refine wpAnyH_ready (rs := [5]) (by kernel_rfl) (by simp) ?_
            refine AllReadyH.cons rfl (fun K hK => ?_) AllReadyH.nil
            go_simp
            refine hK.out _ _ hS7 (fun _ => ?_)
            clear hK K z0 z1 z2 z3 z4 z5 zf
            refine wpAnyH_done (by kernel_rfl) ?_ _
            go_wp2
            go_meet
            case rel => exact ⟨(w2.heap.size + 1), w2.heap.size, rfl, rfl, by omega, by omega, by omega, hx1, hx2, hS7.1, hS7.2⟩
        case rest =>
          have hA0 : w.heap.size < w2.heap.size := hM.lt
          clear hM m0 m1 m2 m3 m4 m5 n0' n1 n2 n3 n4 n5
          obtain ⟨B1, B2, rfl, rfl, hne, hg1, hg2, hX1, hX2, hM, hbc⟩ := hcut
          obtain ⟨sv, hsv⟩ : ∃ z, IntKind.i64.wrap (va1 + a2) = z := ⟨_, rfl⟩
          obtain ⟨so, hso⟩ : ∃ z, IntKind.i64.wrap (of1 + a2) = z := ⟨_, rfl⟩
          obtain ⟨sn, hsn⟩ : ∃ z, IntKind.i64.wrap (nn1 - a2) = z := ⟨_, rfl⟩
          have hne1 : w.heap.size ≠ B1 := by omega
          have hne2 : w.heap.size ≠ B2 := by omega
          obtain ⟨x0, x1, x2, x3, x4, x5⟩ := hX1.cells
          have xf := hX1.frozen
          simp only at x0 x1 x2 x3 x4 x5
          go_upto_region 6 with fail
          have hX1' := hX1.setN a2
          have hX2' : Mb (wc.setCell ⟨B1, 1, none⟩ (.int .i64 a2)) B2 (⟨va1, nn1, co1, se1, of1, wb1⟩ : Mp) := hX2.other (Ne.symm hne)
          have hM' : Mb (wc.setCell ⟨B1, 1, none⟩ (.int .i64 a2)) w.heap.size (⟨va1, nn1, co1, se1, of1, wb1⟩ : Mp) := hM.other hne1
          have hB' : Below w2.heap.size w2 (wc.setCell ⟨B1, 1, none⟩ (.int .i64 a2)) := hbc.setCell (p := ⟨B1, 1, none⟩) hg1 _
          refine region_out (S := fun W => Mb W w.heap.size (⟨va1, nn1, co1, se1, of1, wb1⟩ : Mp)) hmx (hM'.next (Below.refl _ _).drew) (fun hS => ?_)
          replace hX1' := hX1'.next (Below.refl _ _).drew
          replace hX2' := hX2'.next (Below.refl _ _).drew
          replace hB' := hB'.drew
          clear hX1 hX2 hM hM' hbc x0 x1 x2 x3 x4 x5 xf
          generalize (wc.setCell ⟨B1, 1, none⟩ (.int .i64 a2)).drew = W3 at hS hX1' hX2' hB' ⊢
          refine wpAnyH_take (i := 0) (v := .pointer (some ⟨w.heap.size, 0, none⟩)) rfl (by kernel_rfl) (by kernel_rfl) (by kernel_rfl) (fun _ _ _ h => h) (Or.inl ⟨by kernel_rfl, fun w2 hS2 => by go_simp⟩) hS ?_
          simp only [Act.put]
          refine wpAnyH_take (i := 1) (v := .int .i64 va1) rfl (by kernel_rfl) (by kernel_rfl) (by kernel_rfl) (fun _ _ _ h => h) (Or.inl ⟨by kernel_rfl, fun w2 hS2 => by obtain ⟨q0, q1, q2, q3, q4, q5⟩ := Mb.cells hS2; go_simp⟩) hS ?_
          simp only [Act.put]
          refine wpAnyH_take (i := 2) (v := .int .i64 a2) rfl (by kernel_rfl) (by kernel_rfl) (by kernel_rfl) (fun _ _ _ h => h) (Or.inl ⟨by kernel_rfl, fun w2 hS2 => by go_simp⟩) hS ?_
          simp only [Act.put]
          refine wpAnyH_take (i := 3) (v := .int .i64 sv) rfl (by kernel_rfl) (by kernel_rfl) (by kernel_rfl) (fun _ _ _ h => h) (Or.inl ⟨by kernel_rfl, fun w2 hS2 => by go_simp⟩) hS ?_
          simp only [Act.put]
          refine wpAnyH_take (i := 4) (v := .pointer (some ⟨w.heap.size, 4, none⟩)) rfl (by kernel_rfl) (by kernel_rfl) (by kernel_rfl) (fun _ _ _ h => h) (Or.inl ⟨by kernel_rfl, fun w2 hS2 => by go_simp⟩) hS ?_
          simp only [Act.put]
          refine wpAnyH_take (i := 5) (v := .int .i64 of1) rfl (by kernel_rfl) (by kernel_rfl) (by kernel_rfl) (fun _ _ _ h => h) (Or.inl ⟨by kernel_rfl, fun w2 hS2 => by obtain ⟨q0, q1, q2, q3, q4, q5⟩ := Mb.cells hS2; go_simp⟩) hS ?_
          simp only [Act.put]
          refine wpAnyH_take (i := 6) (v := .int .i64 a2) rfl (by kernel_rfl) (by kernel_rfl) (by kernel_rfl) (fun _ _ _ h => h) (Or.inl ⟨by kernel_rfl, fun w2 hS2 => by go_simp⟩) hS ?_
          simp only [Act.put]
          refine wpAnyH_take (i := 7) (v := .int .i64 so) rfl (by kernel_rfl) (by kernel_rfl) (by kernel_rfl) (fun _ _ _ h => h) (Or.inl ⟨by kernel_rfl, fun w2 hS2 => by go_simp⟩) hS ?_
          simp only [Act.put]
          refine wpAnyH_take (i := 8) (v := .pointer (some ⟨w.heap.size, 1, none⟩)) rfl (by kernel_rfl) (by kernel_rfl) (by kernel_rfl) (fun _ _ _ h => h) (Or.inl ⟨by kernel_rfl, fun w2 hS2 => by go_simp⟩) hS ?_
          simp only [Act.put]
          refine wpAnyH_take (i := 9) (v := .int .i64 nn1) rfl (by kernel_rfl) (by kernel_rfl) (by kernel_rfl) (fun _ _ _ h => h) (Or.inl ⟨by kernel_rfl, fun w2 hS2 => by obtain ⟨q0, q1, q2, q3, q4, q5⟩ := Mb.cells hS2; go_simp⟩) hS ?_
          simp only [Act.put]
          refine wpAnyH_take (i := 10) (v := .int .i64 a2) rfl (by kernel_rfl) (by kernel_rfl) (by kernel_rfl) (fun _ _ _ h => h) (Or.inl ⟨by kernel_rfl, fun w2 hS2 => by go_simp⟩) hS ?_
          simp only [Act.put]
          refine wpAnyH_take (i := 11) (v := .int .i64 sn) rfl (by kernel_rfl) (by kernel_rfl) (by kernel_rfl) (fun _ _ _ h => h) (Or.inl ⟨by kernel_rfl, fun w2 hS2 => by go_simp⟩) hS ?_
          simp only [Act.put]
          refine wpAnyH_take (i := 12) (v := .pointer (some ⟨B2, 0, none⟩)) rfl (by kernel_rfl) (by kernel_rfl) (by kernel_rfl) (fun _ _ _ h => h) (Or.inl ⟨by kernel_rfl, fun w2 hS2 => by go_simp⟩) hS ?_
          simp only [Act.put]
          have hzz := Mb.cells hX2'
          simp only at hzz
          have z0 := hzz.1
          have z1 := hzz.2.1
          have z4 := hzz.2.2.2.2.1
          have zf := Mb.frozen hX2'
          clear hzz
          have hS9 : Mb (W3.setCell ⟨B2, 0, none⟩ (.int .i64 sv)) w.heap.size (⟨va1, nn1, co1, se1, of1, wb1⟩ : Mp) := Mb.other hS hne2
          refine wpAnyH_ready (rs := [13]) (by kernel_rfl) (by simp) ?_
          refine AllReadyH.cons rfl (fun K hK => ?_) AllReadyH.nil
          go_simp
          refine hK.out _ _ hS9 (fun _ => ?_)
          clear hK K z0 z1 z4 zf hS
          have hS := hS9
          replace hX2' := hX2'.setV sv
          replace hX1' := hX1'.other (g := B2) (j := 0) (v := .int .i64 sv) hne
          replace hB' := hB'.setCell (p := ⟨B2, 0, none⟩) hg2 (.int .i64 sv)
          clear hS9
          generalize W3.setCell ⟨B2, 0, none⟩ (.int .i64 sv) = W4 at hS hX1' hX2' hB' ⊢
          refine wpAnyH_take (i := 14) (v := .pointer (some ⟨B2, 4, none⟩)) rfl (by kernel_rfl) (by kernel_rfl) (by kernel_rfl) (fun _ _ _ h => h) (Or.inl ⟨by kernel_rfl, fun w2 hS2 => by go_simp⟩) hS ?_
          simp only [Act.put]
          have hzz := Mb.cells hX2'
          simp only at hzz
          have z0 := hzz.1
          have z1 := hzz.2.1
          have z4 := hzz.2.2.2.2.1
          have zf := Mb.frozen hX2'
          clear hzz
          have hS9 : Mb (W4.setCell ⟨B2, 4, none⟩ (.int .i64 so)) w.heap.size (⟨va1, nn1, co1, se1, of1, wb1⟩ : Mp) := Mb.other hS hne2
          refine wpAnyH_ready (rs := [15]) (by kernel_rfl) (by simp) ?_
          refine AllReadyH.cons rfl (fun K hK => ?_) AllReadyH.nil
          go_simp
          refine hK.out _ _ hS9 (fun _ => ?_)
          clear hK K z0 z1 z4 zf hS
          have hS := hS9
          replace hX2' := hX2'.setO so
          replace hX1' := hX1'.other (g := B2) (j := 4) (v := .int .i64 so) hne
          replace hB' := hB'.setCell (p := ⟨B2, 4, none⟩) hg2 (.int .i64 so)
          clear hS9
          generalize W4.setCell ⟨B2, 4, none⟩ (.int .i64 so) = W5 at hS hX1' hX2' hB' ⊢
          refine wpAnyH_take (i := 16) (v := .pointer (some ⟨B2, 1, none⟩)) rfl (by kernel_rfl) (by kernel_rfl) (by kernel_rfl) (fun _ _ _ h => h) (Or.inl ⟨by kernel_rfl, fun w2 hS2 => by go_simp⟩) hS ?_
          simp only [Act.put]
          have hzz := Mb.cells hX2'
          simp only at hzz
          have z0 := hzz.1
          have z1 := hzz.2.1
          have z4 := hzz.2.2.2.2.1
          have zf := Mb.frozen hX2'
          clear hzz
          have hS9 : Mb (W5.setCell ⟨B2, 1, none⟩ (.int .i64 sn)) w.heap.size (⟨va1, nn1, co1, se1, of1, wb1⟩ : Mp) := Mb.other hS hne2
          refine wpAnyH_ready (rs := [17]) (by kernel_rfl) (by simp) ?_
          refine AllReadyH.cons rfl (fun K hK => ?_) AllReadyH.nil
          go_simp
          refine hK.out _ _ hS9 (fun _ => ?_)
          clear hK K z0 z1 z4 zf hS
          have hS := hS9
          replace hX2' := hX2'.setN sn
          replace hX1' := hX1'.other (g := B2) (j := 1) (v := .int .i64 sn) hne
          replace hB' := hB'.setCell (p := ⟨B2, 1, none⟩) hg2 (.int .i64 sn)
          clear hS9
          generalize W5.setCell ⟨B2, 1, none⟩ (.int .i64 sn) = W6 at hS hX1' hX2' hB' ⊢
          refine wpAnyH_done (by kernel_rfl) ?_ _
          have hBf := bel_next hB hB'
          have hAf := hA.next hB'
          clear hB hA hB' hmx
          by_cases hpe : putE L0 (⟨va1, nn1, co1, se1, of1, wb1⟩ : Mp) = 0
          · have he : Hid (putE L0 (⟨va1, nn1, co1, se1, of1, wb1⟩ : Mp) = 0) := hpe
            obtain ⟨hone, _, _⟩ := (put_ok hF.out).1 hpe
            have hone' := oneB_iff.1 hone
            simp only at hone'
            obtain ⟨o1, o2, o3, o4, o5⟩ := hone'
            have hsv' : sv = va1 + a2 := by rw [← hsv, IntKind.wrap_i64]; omega
            have hso' : so = of1 + a2 := by rw [← hso, IntKind.wrap_i64]; omega
            have hsn' : sn = nn1 - a2 := by rw [← hsn, IntKind.wrap_i64]; omega
            have hp := parts hF.out hnl.out he.out ha1 ha2
            have hpf := parts_fnd (p := a3) hF.out hnl.out he.out ha1 ha2
            unfold fstM sndM at hp hpf
            simp only at hp hpf
            rw [← hsv', ← hso', ← hsn'] at hp hpf
            obtain ⟨p1, p2, p3, p4, p5, p6⟩ := hp
            obtain ⟨f1, f2, f3, f4, f5⟩ := hpf
            have hFA : Fit (putL L0 (⟨va1, a2, co1, se1, of1, wb1⟩ : Mp)) := fit_put hF.out
            have hFB : Fit (putL (putL L0 (⟨va1, a2, co1, se1, of1, wb1⟩ : Mp)) (⟨sv, sn, co1, se1, so, wb1⟩ : Mp)) := fit_put hFA
            have hFC : Fit (putL L0 (⟨sv, sn, co1, se1, so, wb1⟩ : Mp)) := fit_put hF.out
            have hFW : Fit (putL L0 (⟨va1, nn1, co1, se1, of1, wb1⟩ : Mp)) := fit_put hF.out
            have kA := fun {W : World} (h : Mps W.heap.size W ao0 n0 cap0 L0) => put_sl h hF.out va1 a2 co1 se1 of1 wb1
            have kB := fun {W : World} {a c} (h : Mps W.heap.size W a (putL L0 (⟨va1, a2, co1, se1, of1, wb1⟩ : Mp)).length c (putL L0 (⟨va1, a2, co1, se1, of1, wb1⟩ : Mp))) => put_sl h hFA sv sn co1 se1 so wb1
            have kC := fun {W : World} (h : Mps W.heap.size W ao0 n0 cap0 L0) => put_sl h hF.out sv sn co1 se1 so wb1
            have kD := fun {W : World} {a c} (h : Mps W.heap.size W a (putL L0 (⟨sv, sn, co1, se1, so, wb1⟩ : Mp)).length c (putL L0 (⟨sv, sn, co1, se1, so, wb1⟩ : Mp))) => put_sl h hFC va1 a2 co1 se1 of1 wb1
            have kS := fun {W : World} {a c b d} (h : Mps W.heap.size W a (putL (putL L0 (⟨va1, a2, co1, se1, of1, wb1⟩ : Mp)) (⟨sv, sn, co1, se1, so, wb1⟩ : Mp)).length c (putL (putL L0 (⟨va1, a2, co1, se1, of1, wb1⟩ : Mp)) (⟨sv, sn, co1, se1, so, wb1⟩ : Mp))) (h' : Mps W.heap.size W b (putL (putL L0 (⟨va1, a2, co1, se1, of1, wb1⟩ : Mp)) (⟨sv, sn, co1, se1, so, wb1⟩ : Mp)).length d (putL (putL L0 (⟨va1, a2, co1, se1, of1, wb1⟩ : Mp)) (⟨sv, sn, co1, se1, so, wb1⟩ : Mp))) => same_any h h'
            obtain ⟨⟨h0, h1, hc2, hs3, h4, hw5⟩, e1⟩ : ∃ z, Hid (fM (putL L0 (⟨va1, nn1, co1, se1, of1, wb1⟩ : Mp)) a3 = z) := ⟨_, rfl⟩
            obtain ⟨⟨i0, i1, ic2, is3, i4, iw5⟩, e2⟩ : ∃ z, Hid (fM (putL (putL L0 (⟨va1, a2, co1, se1, of1, wb1⟩ : Mp)) (⟨sv, sn, co1, se1, so, wb1⟩ : Mp)) a3 = z) := ⟨_, rfl⟩
            obtain ⟨fn, e3⟩ : ∃ z, Hid (fN (putL L0 (⟨va1, nn1, co1, se1, of1, wb1⟩ : Mp)) a3 = z) := ⟨_, rfl⟩
            obtain ⟨ff, e4⟩ : ∃ z, Hid (fF (putL L0 (⟨va1, nn1, co1, se1, of1, wb1⟩ : Mp)) a3 = z) := ⟨_, rfl⟩
            rw [e4.out] at f1
            rw [e3.out] at f2
            rw [e1.out, e2.out] at f3 f4 f5
            simp only at f3 f4 f5
            subst f3 f4 f5
            have kW : ∀ {W : World} {a c}, Mps W.heap.size W a (putL L0 (⟨va1, nn1, co1, se1, of1, wb1⟩ : Mp)).length c (putL L0 (⟨va1, nn1, co1, se1, of1, wb1⟩ : Mp)) → Calls Try.prog 17 #[.slice a (putL L0 (⟨va1, nn1, co1, se1, of1, wb1⟩ : Mp)).length c, .int .i64 a3] W fun e W' => e = .returned (.tuple #[.agg #[.int .i64 h0, .int .i64 h1, .int .u64 hc2, .int .u64 hs3, .int .i64 h4, .bool hw5], .int .i64 fn, .bool ff]) ∧ Below W.heap.size W W' := fun h => by
              have := find_any h hFW a3
              rw [e1.out, e3.out, e4.out] at this
              exact this
            have kY : ∀ {W : World} {a c}, Mps W.heap.size W a (putL (putL L0 (⟨va1, a2, co1, se1, of1, wb1⟩ : Mp)) (⟨sv, sn, co1, se1, so, wb1⟩ : Mp)).length c (putL (putL L0 (⟨va1, a2, co1, se1, of1, wb1⟩ : Mp)) (⟨sv, sn, co1, se1, so, wb1⟩ : Mp)) → Calls Try.prog 17 #[.slice a (putL (putL L0 (⟨va1, a2, co1, se1, of1, wb1⟩ : Mp)) (⟨sv, sn, co1, se1, so, wb1⟩ : Mp)).length c, .int .i64 a3] W fun e W' => e = .returned (.tuple #[.agg #[.int .i64 i0, .int .i64 i1, .int .u64 hc2, .int .u64 hs3, .int .i64 i4, .bool hw5], .int .i64 fn, .bool ff]) ∧ Below W.heap.size W W' := fun h => by
              have := find_any h hFB a3
              rw [e2.out, ← f1, ← f2] at this
              exact this
            simp only [p1] at kA
            simp only [p2] at kB
            simp only [p3] at kC
            simp only [p4] at kD
            simp only [← p5] at kD
            simp only [sameB_refl] at kS
            have hWs : (putL L0 (⟨va1, nn1, co1, se1, of1, wb1⟩ : Mp)).length ≤ 16 := hFW.1
            obtain ⟨PW, e5⟩ : ∃ z, Hid (putL L0 (⟨va1, nn1, co1, se1, of1, wb1⟩ : Mp) = z) := ⟨_, rfl⟩
            simp only [hpe]
            rw [e5.out] at p6 hAf hWs
            simp only [e5.out] at kW ⊢
            obtain ⟨PB, e8⟩ : ∃ z, Hid (putL (putL L0 (⟨va1, a2, co1, se1, of1, wb1⟩ : Mp)) (⟨sv, sn, co1, se1, so, wb1⟩ : Mp) = z) := ⟨_, rfl⟩
            rw [e8.out] at p6
            simp only [e8.out] at kB kD kS kY
            obtain ⟨PA, e6⟩ : ∃ z, Hid (putL L0 (⟨va1, a2, co1, se1, of1, wb1⟩ : Mp) = z) := ⟨_, rfl⟩
            simp only [e6.out] at kA kB
            obtain ⟨PC, e7⟩ : ∃ z, Hid (putL L0 (⟨sv, sn, co1, se1, so, wb1⟩ : Mp) = z) := ⟨_, rfl⟩
            simp only [e7.out] at kC kD
            obtain ⟨nW, g1⟩ : ∃ z, PW.length = z := ⟨_, rfl⟩
            obtain ⟨nA, g2⟩ : ∃ z, PA.length = z := ⟨_, rfl⟩
            obtain ⟨nB, g3⟩ : ∃ z, PB.length = z := ⟨_, rfl⟩
            obtain ⟨nC, g4⟩ : ∃ z, PC.length = z := ⟨_, rfl⟩
            simp only [g1] at kW hAf ⊢
            simp only [g2] at kA kB
            simp only [g3] at kB kD kS kY
            simp only [g4] at kC kD
            rw [g1, g3] at p6
            rw [g1] at hWs
            have hlen : IntKind.i64.wrap ((nW : Int) + 1) = (nB : Int) := by rw [IntKind.wrap_i64]; omega
            clear g1 g2 g3 g4 e1 e2 e3 e4 e5 e6 e7 e8 p1 p2 p3 p4 p5 p6 hFA hFB hFC hFW f1 f2 hsv hso hsn hsv' hso' hsn' hpe hone o1 o2 o3 o4 o5 he hWs
            have y1 := Mb.cells hX1'
            simp only at y1
            have y10 := y1.1
            have y11 := y1.2.1
            have y12 := y1.2.2.1
            have y13 := y1.2.2.2.1
            have y14 := y1.2.2.2.2.1
            have y15 := y1.2.2.2.2.2
            clear y1
            go_wp2_with (first | (go_at_call 13; (with_reducible refine (kA (bel_mps l0 hBf)).mono ?_); rintro e w5 ⟨aP, cP, rfl, hP, hb1⟩; replace hBf := bel_next hBf hb1; replace hAf := hAf.next hb1; replace hX1' := hX1'.next hb1; replace hX2' := hX2'.next hb1; obtain ⟨y0, y1, y2, y3, y4, y5⟩ := hX2'.cells; simp only at y0 y1 y2 y3 y4 y5) | (go_at_call 13; (with_reducible refine (kB hP).mono ?_); rintro e w6 ⟨aQ, cQ, rfl, hQ, hb1⟩; replace hBf := bel_next hBf hb1; replace hAf := hAf.next hb1; replace hX1' := hX1'.next hb1; replace hX2' := hX2'.next hb1; obtain ⟨y0, y1, y2, y3, y4, y5⟩ := hX2'.cells; simp only at y0 y1 y2 y3 y4 y5) | (go_at_call 13; (with_reducible refine (kC (bel_mps l0 hBf)).mono ?_); rintro e w7 ⟨aR, cR, rfl, hR, hb1⟩; replace hBf := bel_next hBf hb1; replace hAf := hAf.next hb1; replace hX1' := hX1'.next hb1; replace hX2' := hX2'.next hb1; replace hQ := hQ.next hb1; obtain ⟨v0, v1, v2, v3, v4, v5⟩ := hX1'.cells; simp only at v0 v1 v2 v3 v4 v5) | (go_at_call 13; (with_reducible refine (kD hR).mono ?_); rintro e w8 ⟨aT, cT, rfl, hT, hb1⟩; replace hBf := bel_next hBf hb1; replace hAf := hAf.next hb1; replace hX1' := hX1'.next hb1; replace hX2' := hX2'.next hb1; replace hQ := hQ.next hb1) | (go_at_call 11; (with_reducible refine (kS hQ hT).mono ?_); rintro e w9 ⟨rfl, hb1⟩; replace hBf := bel_next hBf hb1; replace hAf := hAf.next hb1; replace hQ := hQ.next hb1) | (go_at_call 17; (with_reducible refine (kW hAf).mono ?_); rintro e wa ⟨rfl, hb1⟩; have hal := hb1.alloc hb1.size (.cells #[.int .i64 h0, .int .i64 h1, .int .u64 hc2, .int .u64 hs3, .int .i64 h4, .bool hw5] 25); replace hBf := bel_next hBf hal; replace hQ := hQ.next hal; have hH := Mb.new wa ⟨h0, h1, hc2, hs3, h4, hw5⟩) | (go_at_call 17; (with_reducible refine (kY hQ).mono ?_); rintro e wb ⟨rfl, hb1⟩; have hal := hb1.alloc hb1.size (.cells #[.int .i64 i0, .int .i64 i1, .int .u64 hc2, .int .u64 hs3, .int .i64 i4, .bool hw5] 25); replace hBf := bel_next hBf hal; replace hH := hH.next hal; have hI := Mb.new wb ⟨i0, i1, hc2, hs3, i4, hw5⟩; obtain ⟨r0, r1, r2, r3, r4, r5⟩ := hH.cells; simp only at r0 r1 r2 r3 r4 r5; obtain ⟨s0, s1, s2, s3, s4, s5⟩ := hI.cells; simp only at s0 s1 s2 s3 s4 s5) | (go_at_call 6; refine (haw _).mono ?_; rintro e wc ⟨rfl, hb1⟩; replace hBf := bel_next hBf hb1) | fail)
            go_ret
            exact ⟨rfl, hBf⟩
          · have hpb : (putE L0 (⟨va1, nn1, co1, se1, of1, wb1⟩ : Mp) == 0) = false := by rw [beq_eq_false_iff_ne]; exact hpe
            go_wp2_with (first | (go_at_call 6; refine (haw _).mono ?_; rintro e w9 ⟨rfl, hb9⟩) | fail)
            go_ret
            exact ⟨rfl, bel_next hBf hb9⟩
      · go_enter Try.func5, Try.ntmps5
        by_cases ha1 : 1 ≤ a2
        · have ha2 : nn1 ≤ a2 := by omega
          go_wp2_with (first | (go_at_call 10; (with_reducible refine (hrf (bel_mps l0 hB)).mono ?_); rintro e w1 ⟨rfl, hb1⟩; replace hB := bel_next hB hb1; replace hM := hM.next hb1; obtain ⟨m0, m1, m2, m3, m4, m5⟩ := hM.cells; simp only at m0 m1 m2 m3 m4 m5) | (go_at_call 6; refine (haw _).mono ?_; rintro e w1 ⟨rfl, hb1⟩; replace hB := bel_next hB hb1) | fail)
          go_ret
          exact ⟨rfl, hB⟩
        · have ha1' : a2 < 1 := by omega
          go_wp2_with (first | (go_at_call 10; (with_reducible refine (hrf (bel_mps l0 hB)).mono ?_); rintro e w1 ⟨rfl, hb1⟩; replace hB := bel_next hB hb1; replace hM := hM.next hb1; obtain ⟨m0, m1, m2, m3, m4, m5⟩ := hM.cells; simp only at m0 m1 m2 m3 m4 m5) | (go_at_call 6; refine (haw _).mono ?_; rintro e w1 ⟨rfl, hb1⟩; replace hB := bel_next hB hb1) | fail)
          go_ret
          exact ⟨rfl, hB⟩

set_option maxRecDepth 100000 in
theorem lifted (os : Os) (started : os.Started) (H : Type) (enc : TypeId × Value → H) :
    ReturnsInHanded {} Try.checked os 5 .any (Rows.pagesPartsSpec.pre6 enc Try.prog Try.f5 Rows.pagesPartsRow.domain false) (Rows.pagesPartsSpec.post enc Try.prog Try.f5 false true false false) := by
  refine returnsInHanded_of_change (C := Try.checked) own started (by kernel_rfl) Try.func5
    (ChangeSpec.witness6 (enc := enc) (C := Try.checked) false ⟨#[], #[.slice none 0 0, .agg #[.int .i64 0, .int .i64 0, .int .u64 0, .int .u64 0, .int .i64 0, .bool false], .int .i64 0, .int .i64 0], []⟩ 8 (by kernel_rfl) (by kernel_rfl) (by kernel_rfl) (by kernel_rfl)) ?_
  intro W base args ds gs before hval0 hW hcnd _
  have hval : ∀ (j : Nat) t v, Try.f5.params[j]? = some t → args[j]? = some v → Value.okWide Try.prog W .any base t v := hval0
  have hW' := hW
  obtain ⟨p, q, hA0, hV, rfl, hfz, hnd⟩ := hW
  have hA : DataW.TrodAll enc Try.prog W 0 (fun _ => true) true Try.f5.params.toList args.toList ds p := hA0
  rw [Try.params5] at hA hval
  obtain ⟨v0, vs0, d0, ds0, p0, q0, hargs, rfl, rfl, h0, r0⟩ := trodAll_cons hA
  obtain ⟨v1, vs1, d1, ds1, p1, q1, rfl, rfl, rfl, h1, r1⟩ := trodAll_cons r0
  obtain ⟨v2, vs2, d2, ds2, p2, q2, rfl, rfl, rfl, h2, r2⟩ := trodAll_cons r1
  obtain ⟨v3, vs3, d3, ds3, p3, q3, rfl, rfl, rfl, h3, r3⟩ := trodAll_cons r2
  obtain ⟨rfl, rfl, rfl⟩ := trodAll_nil r3
  obtain rfl : args = #[v0, v1, v2, v3] := by cases args; simp_all
  obtain ⟨rfl, rfl⟩ := trodVars_none hV
  obtain ⟨ao0, n0, cap0, rfl⟩ := okWide_slice Try.underlying22 (hval 0 22 v0 rfl rfl)
  have k0 := h0
  have lt0 : ∀ x ∈ p0, x.block < W.heap.size := by obtain ⟨m, hm⟩ := k0; exact DataW.trod_lt m _ _ _ hm
  obtain ⟨L0, l0⟩ := mps_of_trod h0
  obtain ⟨va1, nn1, co1, se1, of1, wb1, rfl, l1⟩ := map_of_trod (hval 1 25 v1 rfl rfl) h1
  have k1 := h1
  have lt1 : ∀ x ∈ p1, x.block < W.heap.size := by obtain ⟨m, hm⟩ := k1; exact DataW.trod_lt m _ _ _ hm
  obtain ⟨a2, rfl, rfl, rfl, w2⟩ := open_int Try.underlying3 (hval 2 3 v2 rfl rfl) h2
  obtain ⟨a3, rfl, rfl, rfl, w3⟩ := open_int Try.underlying3 (hval 3 3 v3 rfl rfl) h3
  clear hA0 hval0
  refine (walk ao0 n0 cap0 L0 va1 nn1 co1 se1 of1 wb1 a2 a3 W l0 l1 w2 w3).mono fun e W' ⟨he, bel⟩ => ?_
  subst he
  exact ⟨_, rfl, _, _, _, [], _, [], hW', trodAll_mk1 (shut_bool Try.underlying4 _), (trodAll_cons_mk (Below.trod laidOut (by kernel_rfl) (of_decide_eq_true (by kernel_rfl)) k0 bel lt0) (trodAll_cons_mk (Below.trod laidOut (by kernel_rfl) (of_decide_eq_true (by kernel_rfl)) k1 bel lt1) (trodAll_cons_mk (shut_int Try.underlying3 w2) (trodAll_cons_mk (shut_int Try.underlying3 w3) trodAll_mk0)))), rfl, bel.frame _, fun h => by cases h⟩

theorem over : Rows.pagesPartsRow.holds Try.pinned (OpenSpec.ofChange Rows.pagesPartsSpec) :=
  OpenClaim.holds_of_wide 5 Try.f5 rfl rfl rfl rfl rfl rfl rfl ⟨rfl, rfl, rfl, rfl, rfl⟩ rfl rfl rfl rfl rfl (by kernel_rfl) Try.func5 (by kernel_rfl)
    (of_decide_eq_true (by kernel_rfl)) (by unfold Func.isWrapper; first | (rw [if_pos (by decide +kernel)]; kernel_rfl) | (rw [if_neg (by decide +kernel)]; exact ⟨rfl, rfl⟩))
    (fun os started H enc _ => lifted os started H enc)

end pagesParts
/-- The statement. -/
theorem pagesParts_holds : Rows.PagesPartsSaid :=
  pagesParts.over
#print axioms pagesParts_holds
end Go.Proofs.Ytnfdmbbipkcdkaa
