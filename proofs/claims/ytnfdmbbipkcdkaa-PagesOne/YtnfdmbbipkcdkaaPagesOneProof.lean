/-
  PROVED HERE: PagesOne holds for every input: a page is of one map at most; behind a new map just its pages are found otherwise, each at its place in the segment; without it all is as it was. No condition.
-/
import Derived.Test.YtnfdmbbipkcdkaaRows
import Derived.Test.YtnfdmbbipkcdkaaPgLaw
import Derived.WalkKit
import Derived.ProofKit
import Derived.OpenShut
import Derived.Below
import Derived.ShutString
import Derived.Deep.QuietTactic
namespace Go.Proofs.Ytnfdmbbipkcdkaa
namespace pagesOne
open Go.ChangeShapes Go.WideShapes Go.ChangeAt Go.RowKit
open Go.ChangeMaps (open_string shut_string)
set_option linter.unusedVariables false

theorem own : ownKnob Try.prog.godebug = none := by kernel_rfl

open Pg
set_option maxRecDepth 100000 in
set_option maxHeartbeats 8000000 in
theorem walk (ao0 : Option Addr) (n0 cap0 : Nat) (L0 : List Pg.Mp) (va1 nn1 co1 se1 of1 : Int) (wb1 : Bool) (a2 : Int) (w : World) (l0 : Mps w.heap.size w ao0 n0 cap0 L0) (l1 : Pg.Mp.ok ⟨va1, nn1, co1, se1, of1, wb1⟩) (w2 : (Lit.int .i64 a2).wf = true) :
    Calls Try.prog 4 #[.slice ao0 n0 cap0, .agg #[.int .i64 va1, .int .i64 nn1, .int .u64 co1, .int .u64 se1, .int .i64 of1, .bool wb1], .int .i64 a2] w fun e w' => e = .returned (.bool true) ∧ Below w.heap.size w w' := by
  have hn0 : Hid (L0.length = n0) := l0.1
  have hnc0 := l0.2.1
  have hcm0 := l0.2.2.1.1
  have haw := fun W => awake_any W
  have hrf := fun {W} (h : Mps W.heap.size W ao0 n0 cap0 L0) => rfit_any h
  have h2 : -9223372036854775808 ≤ a2 ∧ a2 ≤ 9223372036854775807 := by simpa [Lit.wf, IntKind.min, IntKind.max, IntKind.bits, IntKind.signed] using w2
  have hB : Below w.heap.size w (w.alloc (.cells #[.int .i64 va1, .int .i64 nn1, .int .u64 co1, .int .u64 se1, .int .i64 of1, .bool wb1] 25)) := (Below.refl _ w).alloc (Nat.le_refl _) _
  have hM := Mb.new w ⟨va1, nn1, co1, se1, of1, wb1⟩
  by_cases h0 : 30 < n0
  · go_enter Try.func4, Try.ntmps4
    go_wp2_with (go_at_call 6; refine (haw _).mono ?_; rintro e w1 ⟨rfl, hb1⟩)
    go_ret
    exact ⟨rfl, bel_next hB hb1⟩
  · cases hfb : fitB L0 with
    | false =>
      simp only [hfb] at hrf
      go_enter Try.func4, Try.ntmps4
      go_wp2_with (first | (go_at_call 10; (with_reducible refine (hrf (bel_mps l0 hB)).mono ?_); rintro e w1 ⟨rfl, hb1⟩; replace hB := bel_next hB hb1) | (go_at_call 6; refine (haw _).mono ?_; rintro e w1 ⟨rfl, hb1⟩; replace hB := bel_next hB hb1) | fail)
      go_ret
      exact ⟨rfl, hB⟩
    | true =>
      simp only [hfb] at hrf
      have hF : Hid (Fit L0) := fit_iff.1 hfb
      have hn16 : n0 ≤ 16 := by rw [← hn0.out]; exact hF.out.1
      clear hfb
      go_enter Try.func4, Try.ntmps4
      go_wp2_with (first | (go_at_call 10; (with_reducible refine (hrf (bel_mps l0 hB)).mono ?_); rintro e w1 ⟨rfl, hb1⟩; replace hB := bel_next hB hb1; replace hM := hM.next hb1) | fail)
      go_loopw [7, 31] (fun vn vi wr => ∃ k c : Nat, k ≤ n0 ∧ c ≤ k ∧ vi = .int .i64 k ∧ vn = .int .i64 c ∧ Hid (cnt (L0.take k) a2 = c) ∧ Mb wr w.heap.size ⟨va1, nn1, co1, se1, of1, wb1⟩ ∧ Below w.heap.size w wr) (fun _ vi _ => n0 - (intOf vi).toNat)
      case atStart => exact ⟨0, 0, Nat.zero_le _, Nat.le_refl _, rfl, rfl, rfl, hM, hB⟩
      case round =>
        clear hB hM hb1
        obtain ⟨k, c, hk, hck, rfl, rfl, hc, hM, hB⟩ := hrel
        by_cases hkn : k < n0
        · obtain ⟨b, off, x0, x1, x2, x3, x4, x5, rfl, hbb, hx, c0, c1, c2, c3, c4, c5⟩ := MpsD.at (bel_mps l0 hB) hkn
          have hkl : Hid (k < L0.length) := by show k < L0.length; rw [hn0.out]; exact hkn
          have hkn' : (k : Int) < n0 := by omega
          have hone := hF.out.one hkl.out
          rw [hx.out] at hone
          obtain ⟨o1, o2, o3, o4, o5⟩ := hone
          simp only at o1 o2 o3 o4 o5
          have hB1 := hB.alloc hB.size (.cells #[.int .i64 x0, .int .i64 x1, .int .u64 x2, .int .u64 x3, .int .i64 x4, .bool x5] 25)
          have hM1 := hM.alloc (.cells #[.int .i64 x0, .int .i64 x1, .int .u64 x2, .int .u64 x3, .int .i64 x4, .bool x5] 25)
          have hs := cnt_succ (p := a2) hkl.out
          rw [hx.out, hc.out] at hs
          by_cases h1 : x0 ≤ a2
          · have hw : IntKind.i64.wrap (a2 - x0) = a2 - x0 := by rw [IntKind.wrap_i64]; omega
            by_cases h3 : a2 - x0 < x1
            · have hc2 : Hid (cnt (L0.take (k + 1)) a2 = c + 1) := by show _ = _; rw [hs, if_pos (by rw [hasB_iff]; simp only; omega)]
              clear hs
              go_wp2
              go_roundw
              case rel => exact ⟨k + 1, c + 1, by omega, by omega, by simp, by simp, hc2, hM1, hB1⟩
              case measure => simp [intOf]; omega
            · have hc2 : Hid (cnt (L0.take (k + 1)) a2 = c) := by show _ = _; rw [hs, if_neg (by rw [hasB_iff]; simp only; omega)]; rfl
              clear hs
              go_wp2
              go_roundw
              case rel => exact ⟨k + 1, c, by omega, by omega, by simp, rfl, hc2, hM1, hB1⟩
              case measure => simp [intOf]; omega
          · have hc2 : Hid (cnt (L0.take (k + 1)) a2 = c) := by show _ = _; rw [hs, if_neg (by rw [hasB_iff]; simp only; omega)]; rfl
            clear hs
            go_wp2
            go_roundw
            case rel => exact ⟨k + 1, c, by omega, by omega, by simp, rfl, hc2, hM1, hB1⟩
            case measure => simp [intOf]; omega
        · obtain rfl : n0 = k := by omega
          have hc' : Hid (cnt L0 a2 = c) := by show _ = _; have := hc.out; rw [List.take_of_length_le (by rw [hn0.out]; omega)] at this; exact this
          have hcf := cnt_fnd (p := a2) hF.out
          rw [hc'.out] at hcf
          clear hc hc' hkn hk hck
          cases hfn0 : fnd L0 a2 with
          | none =>
            have hfn : Hid (fnd L0 a2 = none) := hfn0
            rw [hfn0] at hcf
            obtain rfl : c = 0 := hcf
            clear hfn0
            by_cases hpe : putE L0 (⟨va1, nn1, co1, se1, of1, wb1⟩ : Mp) = 0
            · have he : Hid (putE L0 (⟨va1, nn1, co1, se1, of1, wb1⟩ : Mp) = 0) := hpe
              obtain ⟨hone, hap, _⟩ := (put_ok hF.out).1 hpe
              have hone' := oneB_iff.1 hone
              simp only at hone'
              obtain ⟨o1, o2, o3, o4, o5⟩ := hone'
              clear hpe hap hone
              by_cases hlo : a2 < va1
              · have q1 : Hid (fM L0 a2 = ⟨0, 0, 0, 0, 0, false⟩) := by show _ = _; unfold fM; rw [hfn.out]; rfl
                have q2 : Hid (fN L0 a2 = 0) := by show _ = _; unfold fN; rw [hfn.out]
                have q3 : Hid (fF L0 a2 = false) := by show _ = _; unfold fF; rw [hfn.out]; rfl
                have hfp : Hid (fnd (putL L0 (⟨va1, nn1, co1, se1, of1, wb1⟩ : Mp)) a2 = fnd L0 a2) := by show _ = _; rw [fnd_put hF.out he.out, if_neg (by rw [hasB_iff]; simp only; omega)]
                have q4 : Hid (fM (putL L0 (⟨va1, nn1, co1, se1, of1, wb1⟩ : Mp)) a2 = fM L0 a2) := by show _ = _; unfold fM; rw [hfp.out]
                have q5 : Hid (fN (putL L0 (⟨va1, nn1, co1, se1, of1, wb1⟩ : Mp)) a2 = fN L0 a2) := by show _ = _; unfold fN; rw [hfp.out]
                have q6 : Hid (fF (putL L0 (⟨va1, nn1, co1, se1, of1, wb1⟩ : Mp)) a2 = fF L0 a2) := by show _ = _; unfold fF; rw [hfp.out]
                rw [q1.out] at q4
                rw [q2.out] at q5
                rw [q3.out] at q6
                have hfd : ∀ {W : World}, Mps W.heap.size W ao0 n0 cap0 L0 → Calls Try.prog 17 #[.slice ao0 n0 cap0, .int .i64 a2] W fun e W' => e = .returned (.tuple #[.agg #[.int .i64 0, .int .i64 0, .int .u64 0, .int .u64 0, .int .i64 0, .bool false], .int .i64 (0), .bool false]) ∧ Below W.heap.size W W' := fun h => by
                  have := find_any h hF.out a2
                  rw [q1.out, q2.out, q3.out] at this
                  exact this
                have hpt := fun {W} (h : Mps W.heap.size W ao0 n0 cap0 L0) => put_sl h hF.out va1 nn1 co1 se1 of1 wb1
                have hfk : ∀ {W : World} {a c}, Mps W.heap.size W a (putL L0 (⟨va1, nn1, co1, se1, of1, wb1⟩ : Mp)).length c (putL L0 (⟨va1, nn1, co1, se1, of1, wb1⟩ : Mp)) → Calls Try.prog 17 #[.slice a (putL L0 (⟨va1, nn1, co1, se1, of1, wb1⟩ : Mp)).length c, .int .i64 a2] W fun e W' => e = .returned (.tuple #[.agg #[.int .i64 0, .int .i64 0, .int .u64 0, .int .u64 0, .int .i64 0, .bool false], .int .i64 (0), .bool false]) ∧ Below W.heap.size W W' := fun h => by
                  have := find_any h (fit_put hF.out) a2
                  rw [q4.out, q5.out, q6.out] at this
                  exact this
                have hdp := drop_put hF.out he.out
                have hdE : drE (putL L0 (⟨va1, nn1, co1, se1, of1, wb1⟩ : Mp)) va1 = 0 := by unfold drE; rw [if_pos hdp.1]
                have hdL : drL (putL L0 (⟨va1, nn1, co1, se1, of1, wb1⟩ : Mp)) va1 = L0 := hdp.2
                have hdr := fun {W : World} {a c} (h : Mps W.heap.size W a (putL L0 (⟨va1, nn1, co1, se1, of1, wb1⟩ : Mp)).length c (putL L0 (⟨va1, nn1, co1, se1, of1, wb1⟩ : Mp))) => drop_sl h (fit_put (m := (⟨va1, nn1, co1, se1, of1, wb1⟩ : Mp)) hF.out) va1
                simp only [hdE, hdL, hn0.out] at hdr
                have hsm := fun {W : World} {a c} (h : Mps W.heap.size W a n0 c L0) (h' : Mps W.heap.size W ao0 n0 cap0 L0) => rsame_any h h'
                simp only [sameB_refl] at hsm
                clear hdp hdE hdL
                obtain ⟨P, e8⟩ : ∃ z, Hid (putL L0 (⟨va1, nn1, co1, se1, of1, wb1⟩ : Mp) = z) := ⟨_, rfl⟩
                obtain ⟨np, hnp⟩ : ∃ z, (putL L0 (⟨va1, nn1, co1, se1, of1, wb1⟩ : Mp)).length = z := ⟨_, rfl⟩
                simp only [he.out, hnp] at hpt
                simp only [hnp] at hfk
                simp only [hnp] at hdr
                simp only [e8.out] at hpt hfk hdr
                clear hnp e8 q1 q2 q3 q4 q5 q6
                have t1 : ¬ va1 ≤ a2 := by omega
                go_wp2_with (first | (go_at_call 17; (with_reducible refine (hfd (bel_mps l0 hB)).mono ?_); rintro e w6 ⟨rfl, hb1⟩; have hal := hb1.alloc hb1.size (.cells #[.int .i64 0, .int .i64 0, .int .u64 0, .int .u64 0, .int .i64 0, .bool false] 25); replace hB := bel_next hB hal; replace hM := hM.next hal; have hG := Mb.new w6 (⟨0, 0, 0, 0, 0, false⟩ : Mp); obtain ⟨m0, m1, m2, m3, m4, m5⟩ := hM.cells; simp only at m0 m1 m2 m3 m4 m5; obtain ⟨v0, v1, v2, v3, v4, v5⟩ := hG.cells; simp only at v0 v1 v2 v3 v4 v5) | (go_at_call 13; (with_reducible refine (hpt (bel_mps l0 hB)).mono ?_); rintro e w7 ⟨aA, cA, rfl, hA, hb1⟩; replace hB := bel_next hB hb1; replace hM := hM.next hb1; replace hG := hG.next hb1) | (go_at_call 17; (with_reducible refine (hfk hA).mono ?_); rintro e w8 ⟨rfl, hb1⟩; have hal := hb1.alloc hb1.size (.cells #[.int .i64 0, .int .i64 0, .int .u64 0, .int .u64 0, .int .i64 0, .bool false] 25); replace hB := bel_next hB hal; replace hM := hM.next hal; replace hG := hG.next hal; replace hA := hA.next hal; have hX := Mb.new w8 (⟨0, 0, 0, 0, 0, false⟩ : Mp); obtain ⟨n0, n1, n2, n3, n4, n5⟩ := hM.cells; simp only at n0 n1 n2 n3 n4 n5; obtain ⟨u0, u1, u2, u3, u4, u5⟩ := hG.cells; simp only at u0 u1 u2 u3 u4 u5; obtain ⟨x0, x1, x2, x3, x4, x5⟩ := hX.cells; simp only at x0 x1 x2 x3 x4 x5) | (go_at_call 15; (with_reducible refine (hdr hA).mono ?_); rintro e w9 ⟨aC, cC, rfl, hC, hb1⟩; replace hB := bel_next hB hb1) | (go_at_call 12; (with_reducible refine (hsm hC (bel_mps l0 hB)).mono ?_); rintro e wa ⟨rfl, hb1⟩; replace hB := bel_next hB hb1) | (go_at_call 6; refine (haw _).mono ?_; rintro e wb ⟨rfl, hb1⟩; replace hB := bel_next hB hb1) | fail)
                go_ret
                exact ⟨rfl, hB⟩
              · by_cases hhi : va1 + nn1 ≤ a2
                · have q1 : Hid (fM L0 a2 = ⟨0, 0, 0, 0, 0, false⟩) := by show _ = _; unfold fM; rw [hfn.out]; rfl
                  have q2 : Hid (fN L0 a2 = 0) := by show _ = _; unfold fN; rw [hfn.out]
                  have q3 : Hid (fF L0 a2 = false) := by show _ = _; unfold fF; rw [hfn.out]; rfl
                  have hfp : Hid (fnd (putL L0 (⟨va1, nn1, co1, se1, of1, wb1⟩ : Mp)) a2 = fnd L0 a2) := by show _ = _; rw [fnd_put hF.out he.out, if_neg (by rw [hasB_iff]; simp only; omega)]
                  have q4 : Hid (fM (putL L0 (⟨va1, nn1, co1, se1, of1, wb1⟩ : Mp)) a2 = fM L0 a2) := by show _ = _; unfold fM; rw [hfp.out]
                  have q5 : Hid (fN (putL L0 (⟨va1, nn1, co1, se1, of1, wb1⟩ : Mp)) a2 = fN L0 a2) := by show _ = _; unfold fN; rw [hfp.out]
                  have q6 : Hid (fF (putL L0 (⟨va1, nn1, co1, se1, of1, wb1⟩ : Mp)) a2 = fF L0 a2) := by show _ = _; unfold fF; rw [hfp.out]
                  rw [q1.out] at q4
                  rw [q2.out] at q5
                  rw [q3.out] at q6
                  have hfd : ∀ {W : World}, Mps W.heap.size W ao0 n0 cap0 L0 → Calls Try.prog 17 #[.slice ao0 n0 cap0, .int .i64 a2] W fun e W' => e = .returned (.tuple #[.agg #[.int .i64 0, .int .i64 0, .int .u64 0, .int .u64 0, .int .i64 0, .bool false], .int .i64 (0), .bool false]) ∧ Below W.heap.size W W' := fun h => by
                    have := find_any h hF.out a2
                    rw [q1.out, q2.out, q3.out] at this
                    exact this
                  have hpt := fun {W} (h : Mps W.heap.size W ao0 n0 cap0 L0) => put_sl h hF.out va1 nn1 co1 se1 of1 wb1
                  have hfk : ∀ {W : World} {a c}, Mps W.heap.size W a (putL L0 (⟨va1, nn1, co1, se1, of1, wb1⟩ : Mp)).length c (putL L0 (⟨va1, nn1, co1, se1, of1, wb1⟩ : Mp)) → Calls Try.prog 17 #[.slice a (putL L0 (⟨va1, nn1, co1, se1, of1, wb1⟩ : Mp)).length c, .int .i64 a2] W fun e W' => e = .returned (.tuple #[.agg #[.int .i64 0, .int .i64 0, .int .u64 0, .int .u64 0, .int .i64 0, .bool false], .int .i64 (0), .bool false]) ∧ Below W.heap.size W W' := fun h => by
                    have := find_any h (fit_put hF.out) a2
                    rw [q4.out, q5.out, q6.out] at this
                    exact this
                  have hdp := drop_put hF.out he.out
                  have hdE : drE (putL L0 (⟨va1, nn1, co1, se1, of1, wb1⟩ : Mp)) va1 = 0 := by unfold drE; rw [if_pos hdp.1]
                  have hdL : drL (putL L0 (⟨va1, nn1, co1, se1, of1, wb1⟩ : Mp)) va1 = L0 := hdp.2
                  have hdr := fun {W : World} {a c} (h : Mps W.heap.size W a (putL L0 (⟨va1, nn1, co1, se1, of1, wb1⟩ : Mp)).length c (putL L0 (⟨va1, nn1, co1, se1, of1, wb1⟩ : Mp))) => drop_sl h (fit_put (m := (⟨va1, nn1, co1, se1, of1, wb1⟩ : Mp)) hF.out) va1
                  simp only [hdE, hdL, hn0.out] at hdr
                  have hsm := fun {W : World} {a c} (h : Mps W.heap.size W a n0 c L0) (h' : Mps W.heap.size W ao0 n0 cap0 L0) => rsame_any h h'
                  simp only [sameB_refl] at hsm
                  clear hdp hdE hdL
                  obtain ⟨P, e8⟩ : ∃ z, Hid (putL L0 (⟨va1, nn1, co1, se1, of1, wb1⟩ : Mp) = z) := ⟨_, rfl⟩
                  obtain ⟨np, hnp⟩ : ∃ z, (putL L0 (⟨va1, nn1, co1, se1, of1, wb1⟩ : Mp)).length = z := ⟨_, rfl⟩
                  simp only [he.out, hnp] at hpt
                  simp only [hnp] at hfk
                  simp only [hnp] at hdr
                  simp only [e8.out] at hpt hfk hdr
                  clear hnp e8 q1 q2 q3 q4 q5 q6
                  have hwm : IntKind.i64.wrap (a2 - va1) = a2 - va1 := by rw [IntKind.wrap_i64]; omega
                  have t1 : va1 ≤ a2 := by omega
                  have t2 : ¬ a2 - va1 < nn1 := by omega
                  go_wp2_with (first | (go_at_call 17; (with_reducible refine (hfd (bel_mps l0 hB)).mono ?_); rintro e w6 ⟨rfl, hb1⟩; have hal := hb1.alloc hb1.size (.cells #[.int .i64 0, .int .i64 0, .int .u64 0, .int .u64 0, .int .i64 0, .bool false] 25); replace hB := bel_next hB hal; replace hM := hM.next hal; have hG := Mb.new w6 (⟨0, 0, 0, 0, 0, false⟩ : Mp); obtain ⟨m0, m1, m2, m3, m4, m5⟩ := hM.cells; simp only at m0 m1 m2 m3 m4 m5; obtain ⟨v0, v1, v2, v3, v4, v5⟩ := hG.cells; simp only at v0 v1 v2 v3 v4 v5) | (go_at_call 13; (with_reducible refine (hpt (bel_mps l0 hB)).mono ?_); rintro e w7 ⟨aA, cA, rfl, hA, hb1⟩; replace hB := bel_next hB hb1; replace hM := hM.next hb1; replace hG := hG.next hb1) | (go_at_call 17; (with_reducible refine (hfk hA).mono ?_); rintro e w8 ⟨rfl, hb1⟩; have hal := hb1.alloc hb1.size (.cells #[.int .i64 0, .int .i64 0, .int .u64 0, .int .u64 0, .int .i64 0, .bool false] 25); replace hB := bel_next hB hal; replace hM := hM.next hal; replace hG := hG.next hal; replace hA := hA.next hal; have hX := Mb.new w8 (⟨0, 0, 0, 0, 0, false⟩ : Mp); obtain ⟨n0, n1, n2, n3, n4, n5⟩ := hM.cells; simp only at n0 n1 n2 n3 n4 n5; obtain ⟨u0, u1, u2, u3, u4, u5⟩ := hG.cells; simp only at u0 u1 u2 u3 u4 u5; obtain ⟨x0, x1, x2, x3, x4, x5⟩ := hX.cells; simp only at x0 x1 x2 x3 x4 x5) | (go_at_call 15; (with_reducible refine (hdr hA).mono ?_); rintro e w9 ⟨aC, cC, rfl, hC, hb1⟩; replace hB := bel_next hB hb1) | (go_at_call 12; (with_reducible refine (hsm hC (bel_mps l0 hB)).mono ?_); rintro e wa ⟨rfl, hb1⟩; replace hB := bel_next hB hb1) | (go_at_call 6; refine (haw _).mono ?_; rintro e wb ⟨rfl, hb1⟩; replace hB := bel_next hB hb1) | fail)
                  go_ret
                  exact ⟨rfl, hB⟩
                · have q1 : Hid (fM L0 a2 = ⟨0, 0, 0, 0, 0, false⟩) := by show _ = _; unfold fM; rw [hfn.out]; rfl
                  have q2 : Hid (fN L0 a2 = 0) := by show _ = _; unfold fN; rw [hfn.out]
                  have q3 : Hid (fF L0 a2 = false) := by show _ = _; unfold fF; rw [hfn.out]; rfl
                  have hfp : Hid (fnd (putL L0 (⟨va1, nn1, co1, se1, of1, wb1⟩ : Mp)) a2 = some (⟨va1, nn1, co1, se1, of1, wb1⟩ : Mp)) := by show _ = _; rw [fnd_put hF.out he.out, if_pos (by rw [hasB_iff]; simp only; omega)]
                  have q4 : Hid (fM (putL L0 (⟨va1, nn1, co1, se1, of1, wb1⟩ : Mp)) a2 = ⟨va1, nn1, co1, se1, of1, wb1⟩) := by show _ = _; unfold fM; rw [hfp.out]; rfl
                  have q5 : Hid (fN (putL L0 (⟨va1, nn1, co1, se1, of1, wb1⟩ : Mp)) a2 = of1 + a2 - va1) := by show _ = _; unfold fN; rw [hfp.out]
                  have q6 : Hid (fF (putL L0 (⟨va1, nn1, co1, se1, of1, wb1⟩ : Mp)) a2 = true) := by show _ = _; unfold fF; rw [hfp.out]; rfl
                  have hfd : ∀ {W : World}, Mps W.heap.size W ao0 n0 cap0 L0 → Calls Try.prog 17 #[.slice ao0 n0 cap0, .int .i64 a2] W fun e W' => e = .returned (.tuple #[.agg #[.int .i64 0, .int .i64 0, .int .u64 0, .int .u64 0, .int .i64 0, .bool false], .int .i64 (0), .bool false]) ∧ Below W.heap.size W W' := fun h => by
                    have := find_any h hF.out a2
                    rw [q1.out, q2.out, q3.out] at this
                    exact this
                  have hpt := fun {W} (h : Mps W.heap.size W ao0 n0 cap0 L0) => put_sl h hF.out va1 nn1 co1 se1 of1 wb1
                  have hfk : ∀ {W : World} {a c}, Mps W.heap.size W a (putL L0 (⟨va1, nn1, co1, se1, of1, wb1⟩ : Mp)).length c (putL L0 (⟨va1, nn1, co1, se1, of1, wb1⟩ : Mp)) → Calls Try.prog 17 #[.slice a (putL L0 (⟨va1, nn1, co1, se1, of1, wb1⟩ : Mp)).length c, .int .i64 a2] W fun e W' => e = .returned (.tuple #[.agg #[.int .i64 va1, .int .i64 nn1, .int .u64 co1, .int .u64 se1, .int .i64 of1, .bool wb1], .int .i64 (of1 + a2 - va1), .bool true]) ∧ Below W.heap.size W W' := fun h => by
                    have := find_any h (fit_put hF.out) a2
                    rw [q4.out, q5.out, q6.out] at this
                    exact this
                  have hdp := drop_put hF.out he.out
                  have hdE : drE (putL L0 (⟨va1, nn1, co1, se1, of1, wb1⟩ : Mp)) va1 = 0 := by unfold drE; rw [if_pos hdp.1]
                  have hdL : drL (putL L0 (⟨va1, nn1, co1, se1, of1, wb1⟩ : Mp)) va1 = L0 := hdp.2
                  have hdr := fun {W : World} {a c} (h : Mps W.heap.size W a (putL L0 (⟨va1, nn1, co1, se1, of1, wb1⟩ : Mp)).length c (putL L0 (⟨va1, nn1, co1, se1, of1, wb1⟩ : Mp))) => drop_sl h (fit_put (m := (⟨va1, nn1, co1, se1, of1, wb1⟩ : Mp)) hF.out) va1
                  simp only [hdE, hdL, hn0.out] at hdr
                  have hsm := fun {W : World} {a c} (h : Mps W.heap.size W a n0 c L0) (h' : Mps W.heap.size W ao0 n0 cap0 L0) => rsame_any h h'
                  simp only [sameB_refl] at hsm
                  clear hdp hdE hdL
                  obtain ⟨P, e8⟩ : ∃ z, Hid (putL L0 (⟨va1, nn1, co1, se1, of1, wb1⟩ : Mp) = z) := ⟨_, rfl⟩
                  obtain ⟨np, hnp⟩ : ∃ z, (putL L0 (⟨va1, nn1, co1, se1, of1, wb1⟩ : Mp)).length = z := ⟨_, rfl⟩
                  simp only [he.out, hnp] at hpt
                  simp only [hnp] at hfk
                  simp only [hnp] at hdr
                  simp only [e8.out] at hpt hfk hdr
                  clear hnp e8 q1 q2 q3 q4 q5 q6
                  have hwm : IntKind.i64.wrap (a2 - va1) = a2 - va1 := by rw [IntKind.wrap_i64]; omega
                  have t1 : va1 ≤ a2 := by omega
                  have t2 : a2 - va1 < nn1 := by omega
                  have hws : IntKind.i64.wrap (of1 + a2) = of1 + a2 := by rw [IntKind.wrap_i64]; omega
                  have hwt : IntKind.i64.wrap (of1 + a2 - va1) = of1 + a2 - va1 := by rw [IntKind.wrap_i64]; omega
                  go_wp2_with (first | (go_at_call 17; (with_reducible refine (hfd (bel_mps l0 hB)).mono ?_); rintro e w6 ⟨rfl, hb1⟩; have hal := hb1.alloc hb1.size (.cells #[.int .i64 0, .int .i64 0, .int .u64 0, .int .u64 0, .int .i64 0, .bool false] 25); replace hB := bel_next hB hal; replace hM := hM.next hal; have hG := Mb.new w6 (⟨0, 0, 0, 0, 0, false⟩ : Mp); obtain ⟨m0, m1, m2, m3, m4, m5⟩ := hM.cells; simp only at m0 m1 m2 m3 m4 m5; obtain ⟨v0, v1, v2, v3, v4, v5⟩ := hG.cells; simp only at v0 v1 v2 v3 v4 v5) | (go_at_call 13; (with_reducible refine (hpt (bel_mps l0 hB)).mono ?_); rintro e w7 ⟨aA, cA, rfl, hA, hb1⟩; replace hB := bel_next hB hb1; replace hM := hM.next hb1; replace hG := hG.next hb1) | (go_at_call 17; (with_reducible refine (hfk hA).mono ?_); rintro e w8 ⟨rfl, hb1⟩; have hal := hb1.alloc hb1.size (.cells #[.int .i64 va1, .int .i64 nn1, .int .u64 co1, .int .u64 se1, .int .i64 of1, .bool wb1] 25); replace hB := bel_next hB hal; replace hM := hM.next hal; replace hG := hG.next hal; replace hA := hA.next hal; have hX := Mb.new w8 (⟨va1, nn1, co1, se1, of1, wb1⟩ : Mp); obtain ⟨n0, n1, n2, n3, n4, n5⟩ := hM.cells; simp only at n0 n1 n2 n3 n4 n5; obtain ⟨u0, u1, u2, u3, u4, u5⟩ := hG.cells; simp only at u0 u1 u2 u3 u4 u5; obtain ⟨x0, x1, x2, x3, x4, x5⟩ := hX.cells; simp only at x0 x1 x2 x3 x4 x5) | (go_at_call 15; (with_reducible refine (hdr hA).mono ?_); rintro e w9 ⟨aC, cC, rfl, hC, hb1⟩; replace hB := bel_next hB hb1) | (go_at_call 12; (with_reducible refine (hsm hC (bel_mps l0 hB)).mono ?_); rintro e wa ⟨rfl, hb1⟩; replace hB := bel_next hB hb1) | (go_at_call 6; refine (haw _).mono ?_; rintro e wb ⟨rfl, hb1⟩; replace hB := bel_next hB hb1) | fail)
                  go_ret
                  exact ⟨rfl, hB⟩
            · obtain ⟨pe, he⟩ : ∃ z, Hid (putE L0 (⟨va1, nn1, co1, se1, of1, wb1⟩ : Mp) = z) := ⟨_, rfl⟩
              rw [he.out] at hpe
              have q1 : Hid (fM L0 a2 = ⟨0, 0, 0, 0, 0, false⟩) := by show _ = _; unfold fM; rw [hfn.out]; rfl
              have q2 : Hid (fN L0 a2 = 0) := by show _ = _; unfold fN; rw [hfn.out]
              have q3 : Hid (fF L0 a2 = false) := by show _ = _; unfold fF; rw [hfn.out]; rfl
              have hfp : Hid (fnd (putL L0 (⟨va1, nn1, co1, se1, of1, wb1⟩ : Mp)) a2 = fnd L0 a2) := by show _ = _; rw [put_no (by rw [he.out]; exact hpe)]
              have q4 : Hid (fM (putL L0 (⟨va1, nn1, co1, se1, of1, wb1⟩ : Mp)) a2 = fM L0 a2) := by show _ = _; unfold fM; rw [hfp.out]
              have q5 : Hid (fN (putL L0 (⟨va1, nn1, co1, se1, of1, wb1⟩ : Mp)) a2 = fN L0 a2) := by show _ = _; unfold fN; rw [hfp.out]
              have q6 : Hid (fF (putL L0 (⟨va1, nn1, co1, se1, of1, wb1⟩ : Mp)) a2 = fF L0 a2) := by show _ = _; unfold fF; rw [hfp.out]
              rw [q1.out] at q4
              rw [q2.out] at q5
              rw [q3.out] at q6
              have hfd : ∀ {W : World}, Mps W.heap.size W ao0 n0 cap0 L0 → Calls Try.prog 17 #[.slice ao0 n0 cap0, .int .i64 a2] W fun e W' => e = .returned (.tuple #[.agg #[.int .i64 0, .int .i64 0, .int .u64 0, .int .u64 0, .int .i64 0, .bool false], .int .i64 (0), .bool false]) ∧ Below W.heap.size W W' := fun h => by
                have := find_any h hF.out a2
                rw [q1.out, q2.out, q3.out] at this
                exact this
              have hpt := fun {W} (h : Mps W.heap.size W ao0 n0 cap0 L0) => put_sl h hF.out va1 nn1 co1 se1 of1 wb1
              have hfk : ∀ {W : World} {a c}, Mps W.heap.size W a (putL L0 (⟨va1, nn1, co1, se1, of1, wb1⟩ : Mp)).length c (putL L0 (⟨va1, nn1, co1, se1, of1, wb1⟩ : Mp)) → Calls Try.prog 17 #[.slice a (putL L0 (⟨va1, nn1, co1, se1, of1, wb1⟩ : Mp)).length c, .int .i64 a2] W fun e W' => e = .returned (.tuple #[.agg #[.int .i64 0, .int .i64 0, .int .u64 0, .int .u64 0, .int .i64 0, .bool false], .int .i64 (0), .bool false]) ∧ Below W.heap.size W W' := fun h => by
                have := find_any h (fit_put hF.out) a2
                rw [q4.out, q5.out, q6.out] at this
                exact this
              obtain ⟨P, e8⟩ : ∃ z, Hid (putL L0 (⟨va1, nn1, co1, se1, of1, wb1⟩ : Mp) = z) := ⟨_, rfl⟩
              obtain ⟨np, hnp⟩ : ∃ z, (putL L0 (⟨va1, nn1, co1, se1, of1, wb1⟩ : Mp)).length = z := ⟨_, rfl⟩
              simp only [he.out, hnp] at hpt
              simp only [hnp] at hfk
              simp only [e8.out] at hpt hfk
              clear hnp e8 q1 q2 q3 q4 q5 q6
              have hpb : (pe == 0) = false := by rw [beq_eq_false_iff_ne]; exact hpe
              clear hpe
              go_wp2_with (first | (go_at_call 17; (with_reducible refine (hfd (bel_mps l0 hB)).mono ?_); rintro e w6 ⟨rfl, hb1⟩; have hal := hb1.alloc hb1.size (.cells #[.int .i64 0, .int .i64 0, .int .u64 0, .int .u64 0, .int .i64 0, .bool false] 25); replace hB := bel_next hB hal; replace hM := hM.next hal; have hG := Mb.new w6 (⟨0, 0, 0, 0, 0, false⟩ : Mp); obtain ⟨m0, m1, m2, m3, m4, m5⟩ := hM.cells; simp only at m0 m1 m2 m3 m4 m5; obtain ⟨v0, v1, v2, v3, v4, v5⟩ := hG.cells; simp only at v0 v1 v2 v3 v4 v5) | (go_at_call 13; (with_reducible refine (hpt (bel_mps l0 hB)).mono ?_); rintro e w7 ⟨aA, cA, rfl, hA, hb1⟩; replace hB := bel_next hB hb1; replace hM := hM.next hb1; replace hG := hG.next hb1) | (go_at_call 17; (with_reducible refine (hfk hA).mono ?_); rintro e w8 ⟨rfl, hb1⟩; have hal := hb1.alloc hb1.size (.cells #[.int .i64 0, .int .i64 0, .int .u64 0, .int .u64 0, .int .i64 0, .bool false] 25); replace hB := bel_next hB hal; replace hM := hM.next hal; replace hG := hG.next hal; replace hA := hA.next hal; have hX := Mb.new w8 (⟨0, 0, 0, 0, 0, false⟩ : Mp); obtain ⟨n0, n1, n2, n3, n4, n5⟩ := hM.cells; simp only at n0 n1 n2 n3 n4 n5; obtain ⟨u0, u1, u2, u3, u4, u5⟩ := hG.cells; simp only at u0 u1 u2 u3 u4 u5; obtain ⟨x0, x1, x2, x3, x4, x5⟩ := hX.cells; simp only at x0 x1 x2 x3 x4 x5) | (go_at_call 6; refine (haw _).mono ?_; rintro e wb ⟨rfl, hb1⟩; replace hB := bel_next hB hb1) | fail)
              go_ret
              exact ⟨rfl, hB⟩
          | some y =>
            obtain ⟨g0, g1, g2, g3, g4, g5⟩ := y
            have hfn : Hid (fnd L0 a2 = some ⟨g0, g1, g2, g3, g4, g5⟩) := hfn0
            obtain ⟨hin, hhas⟩ := (fnd_some hF.out).1 hfn0
            have hg := oneB_iff.1 (hF.out.2.1 _ hin)
            rw [hasB_iff] at hhas
            simp only at hg hhas
            obtain ⟨i1, i2, i3, i4, i5⟩ := hg
            obtain ⟨j1, j2⟩ := hhas
            rw [hfn0] at hcf
            obtain rfl : c = 1 := hcf
            clear hfn0 hin
            by_cases hpe : putE L0 (⟨va1, nn1, co1, se1, of1, wb1⟩ : Mp) = 0
            · have he : Hid (putE L0 (⟨va1, nn1, co1, se1, of1, wb1⟩ : Mp) = 0) := hpe
              obtain ⟨hone, hap, _⟩ := (put_ok hF.out).1 hpe
              have hone' := oneB_iff.1 hone
              simp only at hone'
              obtain ⟨o1, o2, o3, o4, o5⟩ := hone'
              clear hpe hap hone
              by_cases hlo : a2 < va1
              · have q1 : Hid (fM L0 a2 = ⟨g0, g1, g2, g3, g4, g5⟩) := by show _ = _; unfold fM; rw [hfn.out]; rfl
                have q2 : Hid (fN L0 a2 = g4 + a2 - g0) := by show _ = _; unfold fN; rw [hfn.out]
                have q3 : Hid (fF L0 a2 = true) := by show _ = _; unfold fF; rw [hfn.out]; rfl
                have hfp : Hid (fnd (putL L0 (⟨va1, nn1, co1, se1, of1, wb1⟩ : Mp)) a2 = fnd L0 a2) := by show _ = _; rw [fnd_put hF.out he.out, if_neg (by rw [hasB_iff]; simp only; omega)]
                have q4 : Hid (fM (putL L0 (⟨va1, nn1, co1, se1, of1, wb1⟩ : Mp)) a2 = fM L0 a2) := by show _ = _; unfold fM; rw [hfp.out]
                have q5 : Hid (fN (putL L0 (⟨va1, nn1, co1, se1, of1, wb1⟩ : Mp)) a2 = fN L0 a2) := by show _ = _; unfold fN; rw [hfp.out]
                have q6 : Hid (fF (putL L0 (⟨va1, nn1, co1, se1, of1, wb1⟩ : Mp)) a2 = fF L0 a2) := by show _ = _; unfold fF; rw [hfp.out]
                rw [q1.out] at q4
                rw [q2.out] at q5
                rw [q3.out] at q6
                have hfd : ∀ {W : World}, Mps W.heap.size W ao0 n0 cap0 L0 → Calls Try.prog 17 #[.slice ao0 n0 cap0, .int .i64 a2] W fun e W' => e = .returned (.tuple #[.agg #[.int .i64 g0, .int .i64 g1, .int .u64 g2, .int .u64 g3, .int .i64 g4, .bool g5], .int .i64 (g4 + a2 - g0), .bool true]) ∧ Below W.heap.size W W' := fun h => by
                  have := find_any h hF.out a2
                  rw [q1.out, q2.out, q3.out] at this
                  exact this
                have hpt := fun {W} (h : Mps W.heap.size W ao0 n0 cap0 L0) => put_sl h hF.out va1 nn1 co1 se1 of1 wb1
                have hfk : ∀ {W : World} {a c}, Mps W.heap.size W a (putL L0 (⟨va1, nn1, co1, se1, of1, wb1⟩ : Mp)).length c (putL L0 (⟨va1, nn1, co1, se1, of1, wb1⟩ : Mp)) → Calls Try.prog 17 #[.slice a (putL L0 (⟨va1, nn1, co1, se1, of1, wb1⟩ : Mp)).length c, .int .i64 a2] W fun e W' => e = .returned (.tuple #[.agg #[.int .i64 g0, .int .i64 g1, .int .u64 g2, .int .u64 g3, .int .i64 g4, .bool g5], .int .i64 (g4 + a2 - g0), .bool true]) ∧ Below W.heap.size W W' := fun h => by
                  have := find_any h (fit_put hF.out) a2
                  rw [q4.out, q5.out, q6.out] at this
                  exact this
                have hdp := drop_put hF.out he.out
                have hdE : drE (putL L0 (⟨va1, nn1, co1, se1, of1, wb1⟩ : Mp)) va1 = 0 := by unfold drE; rw [if_pos hdp.1]
                have hdL : drL (putL L0 (⟨va1, nn1, co1, se1, of1, wb1⟩ : Mp)) va1 = L0 := hdp.2
                have hdr := fun {W : World} {a c} (h : Mps W.heap.size W a (putL L0 (⟨va1, nn1, co1, se1, of1, wb1⟩ : Mp)).length c (putL L0 (⟨va1, nn1, co1, se1, of1, wb1⟩ : Mp))) => drop_sl h (fit_put (m := (⟨va1, nn1, co1, se1, of1, wb1⟩ : Mp)) hF.out) va1
                simp only [hdE, hdL, hn0.out] at hdr
                have hsm := fun {W : World} {a c} (h : Mps W.heap.size W a n0 c L0) (h' : Mps W.heap.size W ao0 n0 cap0 L0) => rsame_any h h'
                simp only [sameB_refl] at hsm
                clear hdp hdE hdL
                obtain ⟨P, e8⟩ : ∃ z, Hid (putL L0 (⟨va1, nn1, co1, se1, of1, wb1⟩ : Mp) = z) := ⟨_, rfl⟩
                obtain ⟨np, hnp⟩ : ∃ z, (putL L0 (⟨va1, nn1, co1, se1, of1, wb1⟩ : Mp)).length = z := ⟨_, rfl⟩
                simp only [he.out, hnp] at hpt
                simp only [hnp] at hfk
                simp only [hnp] at hdr
                simp only [e8.out] at hpt hfk hdr
                clear hnp e8 q1 q2 q3 q4 q5 q6
                have hwa : IntKind.i64.wrap (g4 + a2 - g0 - g4) = a2 - g0 := by rw [IntKind.wrap_i64]; omega
                have hwb : IntKind.i64.wrap (a2 - g0) = a2 - g0 := by rw [IntKind.wrap_i64]; omega
                have s1 : ¬ a2 < g0 := by omega
                have s2 : ¬ g1 ≤ a2 - g0 := by omega
                have t1 : ¬ va1 ≤ a2 := by omega
                go_wp2_with (first | (go_at_call 17; (with_reducible refine (hfd (bel_mps l0 hB)).mono ?_); rintro e w6 ⟨rfl, hb1⟩; have hal := hb1.alloc hb1.size (.cells #[.int .i64 g0, .int .i64 g1, .int .u64 g2, .int .u64 g3, .int .i64 g4, .bool g5] 25); replace hB := bel_next hB hal; replace hM := hM.next hal; have hG := Mb.new w6 (⟨g0, g1, g2, g3, g4, g5⟩ : Mp); obtain ⟨m0, m1, m2, m3, m4, m5⟩ := hM.cells; simp only at m0 m1 m2 m3 m4 m5; obtain ⟨v0, v1, v2, v3, v4, v5⟩ := hG.cells; simp only at v0 v1 v2 v3 v4 v5) | (go_at_call 13; (with_reducible refine (hpt (bel_mps l0 hB)).mono ?_); rintro e w7 ⟨aA, cA, rfl, hA, hb1⟩; replace hB := bel_next hB hb1; replace hM := hM.next hb1; replace hG := hG.next hb1) | (go_at_call 17; (with_reducible refine (hfk hA).mono ?_); rintro e w8 ⟨rfl, hb1⟩; have hal := hb1.alloc hb1.size (.cells #[.int .i64 g0, .int .i64 g1, .int .u64 g2, .int .u64 g3, .int .i64 g4, .bool g5] 25); replace hB := bel_next hB hal; replace hM := hM.next hal; replace hG := hG.next hal; replace hA := hA.next hal; have hX := Mb.new w8 (⟨g0, g1, g2, g3, g4, g5⟩ : Mp); obtain ⟨n0, n1, n2, n3, n4, n5⟩ := hM.cells; simp only at n0 n1 n2 n3 n4 n5; obtain ⟨u0, u1, u2, u3, u4, u5⟩ := hG.cells; simp only at u0 u1 u2 u3 u4 u5; obtain ⟨x0, x1, x2, x3, x4, x5⟩ := hX.cells; simp only at x0 x1 x2 x3 x4 x5) | (go_at_call 15; (with_reducible refine (hdr hA).mono ?_); rintro e w9 ⟨aC, cC, rfl, hC, hb1⟩; replace hB := bel_next hB hb1) | (go_at_call 12; (with_reducible refine (hsm hC (bel_mps l0 hB)).mono ?_); rintro e wa ⟨rfl, hb1⟩; replace hB := bel_next hB hb1) | (go_at_call 6; refine (haw _).mono ?_; rintro e wb ⟨rfl, hb1⟩; replace hB := bel_next hB hb1) | fail)
                go_ret
                exact ⟨rfl, hB⟩
              · by_cases hhi : va1 + nn1 ≤ a2
                · have q1 : Hid (fM L0 a2 = ⟨g0, g1, g2, g3, g4, g5⟩) := by show _ = _; unfold fM; rw [hfn.out]; rfl
                  have q2 : Hid (fN L0 a2 = g4 + a2 - g0) := by show _ = _; unfold fN; rw [hfn.out]
                  have q3 : Hid (fF L0 a2 = true) := by show _ = _; unfold fF; rw [hfn.out]; rfl
                  have hfp : Hid (fnd (putL L0 (⟨va1, nn1, co1, se1, of1, wb1⟩ : Mp)) a2 = fnd L0 a2) := by show _ = _; rw [fnd_put hF.out he.out, if_neg (by rw [hasB_iff]; simp only; omega)]
                  have q4 : Hid (fM (putL L0 (⟨va1, nn1, co1, se1, of1, wb1⟩ : Mp)) a2 = fM L0 a2) := by show _ = _; unfold fM; rw [hfp.out]
                  have q5 : Hid (fN (putL L0 (⟨va1, nn1, co1, se1, of1, wb1⟩ : Mp)) a2 = fN L0 a2) := by show _ = _; unfold fN; rw [hfp.out]
                  have q6 : Hid (fF (putL L0 (⟨va1, nn1, co1, se1, of1, wb1⟩ : Mp)) a2 = fF L0 a2) := by show _ = _; unfold fF; rw [hfp.out]
                  rw [q1.out] at q4
                  rw [q2.out] at q5
                  rw [q3.out] at q6
                  have hfd : ∀ {W : World}, Mps W.heap.size W ao0 n0 cap0 L0 → Calls Try.prog 17 #[.slice ao0 n0 cap0, .int .i64 a2] W fun e W' => e = .returned (.tuple #[.agg #[.int .i64 g0, .int .i64 g1, .int .u64 g2, .int .u64 g3, .int .i64 g4, .bool g5], .int .i64 (g4 + a2 - g0), .bool true]) ∧ Below W.heap.size W W' := fun h => by
                    have := find_any h hF.out a2
                    rw [q1.out, q2.out, q3.out] at this
                    exact this
                  have hpt := fun {W} (h : Mps W.heap.size W ao0 n0 cap0 L0) => put_sl h hF.out va1 nn1 co1 se1 of1 wb1
                  have hfk : ∀ {W : World} {a c}, Mps W.heap.size W a (putL L0 (⟨va1, nn1, co1, se1, of1, wb1⟩ : Mp)).length c (putL L0 (⟨va1, nn1, co1, se1, of1, wb1⟩ : Mp)) → Calls Try.prog 17 #[.slice a (putL L0 (⟨va1, nn1, co1, se1, of1, wb1⟩ : Mp)).length c, .int .i64 a2] W fun e W' => e = .returned (.tuple #[.agg #[.int .i64 g0, .int .i64 g1, .int .u64 g2, .int .u64 g3, .int .i64 g4, .bool g5], .int .i64 (g4 + a2 - g0), .bool true]) ∧ Below W.heap.size W W' := fun h => by
                    have := find_any h (fit_put hF.out) a2
                    rw [q4.out, q5.out, q6.out] at this
                    exact this
                  have hdp := drop_put hF.out he.out
                  have hdE : drE (putL L0 (⟨va1, nn1, co1, se1, of1, wb1⟩ : Mp)) va1 = 0 := by unfold drE; rw [if_pos hdp.1]
                  have hdL : drL (putL L0 (⟨va1, nn1, co1, se1, of1, wb1⟩ : Mp)) va1 = L0 := hdp.2
                  have hdr := fun {W : World} {a c} (h : Mps W.heap.size W a (putL L0 (⟨va1, nn1, co1, se1, of1, wb1⟩ : Mp)).length c (putL L0 (⟨va1, nn1, co1, se1, of1, wb1⟩ : Mp))) => drop_sl h (fit_put (m := (⟨va1, nn1, co1, se1, of1, wb1⟩ : Mp)) hF.out) va1
                  simp only [hdE, hdL, hn0.out] at hdr
                  have hsm := fun {W : World} {a c} (h : Mps W.heap.size W a n0 c L0) (h' : Mps W.heap.size W ao0 n0 cap0 L0) => rsame_any h h'
                  simp only [sameB_refl] at hsm
                  clear hdp hdE hdL
                  obtain ⟨P, e8⟩ : ∃ z, Hid (putL L0 (⟨va1, nn1, co1, se1, of1, wb1⟩ : Mp) = z) := ⟨_, rfl⟩
                  obtain ⟨np, hnp⟩ : ∃ z, (putL L0 (⟨va1, nn1, co1, se1, of1, wb1⟩ : Mp)).length = z := ⟨_, rfl⟩
                  simp only [he.out, hnp] at hpt
                  simp only [hnp] at hfk
                  simp only [hnp] at hdr
                  simp only [e8.out] at hpt hfk hdr
                  clear hnp e8 q1 q2 q3 q4 q5 q6
                  have hwa : IntKind.i64.wrap (g4 + a2 - g0 - g4) = a2 - g0 := by rw [IntKind.wrap_i64]; omega
                  have hwb : IntKind.i64.wrap (a2 - g0) = a2 - g0 := by rw [IntKind.wrap_i64]; omega
                  have s1 : ¬ a2 < g0 := by omega
                  have s2 : ¬ g1 ≤ a2 - g0 := by omega
                  have hwm : IntKind.i64.wrap (a2 - va1) = a2 - va1 := by rw [IntKind.wrap_i64]; omega
                  have t1 : va1 ≤ a2 := by omega
                  have t2 : ¬ a2 - va1 < nn1 := by omega
                  go_wp2_with (first | (go_at_call 17; (with_reducible refine (hfd (bel_mps l0 hB)).mono ?_); rintro e w6 ⟨rfl, hb1⟩; have hal := hb1.alloc hb1.size (.cells #[.int .i64 g0, .int .i64 g1, .int .u64 g2, .int .u64 g3, .int .i64 g4, .bool g5] 25); replace hB := bel_next hB hal; replace hM := hM.next hal; have hG := Mb.new w6 (⟨g0, g1, g2, g3, g4, g5⟩ : Mp); obtain ⟨m0, m1, m2, m3, m4, m5⟩ := hM.cells; simp only at m0 m1 m2 m3 m4 m5; obtain ⟨v0, v1, v2, v3, v4, v5⟩ := hG.cells; simp only at v0 v1 v2 v3 v4 v5) | (go_at_call 13; (with_reducible refine (hpt (bel_mps l0 hB)).mono ?_); rintro e w7 ⟨aA, cA, rfl, hA, hb1⟩; replace hB := bel_next hB hb1; replace hM := hM.next hb1; replace hG := hG.next hb1) | (go_at_call 17; (with_reducible refine (hfk hA).mono ?_); rintro e w8 ⟨rfl, hb1⟩; have hal := hb1.alloc hb1.size (.cells #[.int .i64 g0, .int .i64 g1, .int .u64 g2, .int .u64 g3, .int .i64 g4, .bool g5] 25); replace hB := bel_next hB hal; replace hM := hM.next hal; replace hG := hG.next hal; replace hA := hA.next hal; have hX := Mb.new w8 (⟨g0, g1, g2, g3, g4, g5⟩ : Mp); obtain ⟨n0, n1, n2, n3, n4, n5⟩ := hM.cells; simp only at n0 n1 n2 n3 n4 n5; obtain ⟨u0, u1, u2, u3, u4, u5⟩ := hG.cells; simp only at u0 u1 u2 u3 u4 u5; obtain ⟨x0, x1, x2, x3, x4, x5⟩ := hX.cells; simp only at x0 x1 x2 x3 x4 x5) | (go_at_call 15; (with_reducible refine (hdr hA).mono ?_); rintro e w9 ⟨aC, cC, rfl, hC, hb1⟩; replace hB := bel_next hB hb1) | (go_at_call 12; (with_reducible refine (hsm hC (bel_mps l0 hB)).mono ?_); rintro e wa ⟨rfl, hb1⟩; replace hB := bel_next hB hb1) | (go_at_call 6; refine (haw _).mono ?_; rintro e wb ⟨rfl, hb1⟩; replace hB := bel_next hB hb1) | fail)
                  go_ret
                  exact ⟨rfl, hB⟩
                · exfalso
                  have := fnd_was (p := a2) hF.out he.out (by rw [hasB_iff]; simp only; omega)
                  rw [hfn.out] at this
                  cases this
            · obtain ⟨pe, he⟩ : ∃ z, Hid (putE L0 (⟨va1, nn1, co1, se1, of1, wb1⟩ : Mp) = z) := ⟨_, rfl⟩
              rw [he.out] at hpe
              have q1 : Hid (fM L0 a2 = ⟨g0, g1, g2, g3, g4, g5⟩) := by show _ = _; unfold fM; rw [hfn.out]; rfl
              have q2 : Hid (fN L0 a2 = g4 + a2 - g0) := by show _ = _; unfold fN; rw [hfn.out]
              have q3 : Hid (fF L0 a2 = true) := by show _ = _; unfold fF; rw [hfn.out]; rfl
              have hfp : Hid (fnd (putL L0 (⟨va1, nn1, co1, se1, of1, wb1⟩ : Mp)) a2 = fnd L0 a2) := by show _ = _; rw [put_no (by rw [he.out]; exact hpe)]
              have q4 : Hid (fM (putL L0 (⟨va1, nn1, co1, se1, of1, wb1⟩ : Mp)) a2 = fM L0 a2) := by show _ = _; unfold fM; rw [hfp.out]
              have q5 : Hid (fN (putL L0 (⟨va1, nn1, co1, se1, of1, wb1⟩ : Mp)) a2 = fN L0 a2) := by show _ = _; unfold fN; rw [hfp.out]
              have q6 : Hid (fF (putL L0 (⟨va1, nn1, co1, se1, of1, wb1⟩ : Mp)) a2 = fF L0 a2) := by show _ = _; unfold fF; rw [hfp.out]
              rw [q1.out] at q4
              rw [q2.out] at q5
              rw [q3.out] at q6
              have hfd : ∀ {W : World}, Mps W.heap.size W ao0 n0 cap0 L0 → Calls Try.prog 17 #[.slice ao0 n0 cap0, .int .i64 a2] W fun e W' => e = .returned (.tuple #[.agg #[.int .i64 g0, .int .i64 g1, .int .u64 g2, .int .u64 g3, .int .i64 g4, .bool g5], .int .i64 (g4 + a2 - g0), .bool true]) ∧ Below W.heap.size W W' := fun h => by
                have := find_any h hF.out a2
                rw [q1.out, q2.out, q3.out] at this
                exact this
              have hpt := fun {W} (h : Mps W.heap.size W ao0 n0 cap0 L0) => put_sl h hF.out va1 nn1 co1 se1 of1 wb1
              have hfk : ∀ {W : World} {a c}, Mps W.heap.size W a (putL L0 (⟨va1, nn1, co1, se1, of1, wb1⟩ : Mp)).length c (putL L0 (⟨va1, nn1, co1, se1, of1, wb1⟩ : Mp)) → Calls Try.prog 17 #[.slice a (putL L0 (⟨va1, nn1, co1, se1, of1, wb1⟩ : Mp)).length c, .int .i64 a2] W fun e W' => e = .returned (.tuple #[.agg #[.int .i64 g0, .int .i64 g1, .int .u64 g2, .int .u64 g3, .int .i64 g4, .bool g5], .int .i64 (g4 + a2 - g0), .bool true]) ∧ Below W.heap.size W W' := fun h => by
                have := find_any h (fit_put hF.out) a2
                rw [q4.out, q5.out, q6.out] at this
                exact this
              obtain ⟨P, e8⟩ : ∃ z, Hid (putL L0 (⟨va1, nn1, co1, se1, of1, wb1⟩ : Mp) = z) := ⟨_, rfl⟩
              obtain ⟨np, hnp⟩ : ∃ z, (putL L0 (⟨va1, nn1, co1, se1, of1, wb1⟩ : Mp)).length = z := ⟨_, rfl⟩
              simp only [he.out, hnp] at hpt
              simp only [hnp] at hfk
              simp only [e8.out] at hpt hfk
              clear hnp e8 q1 q2 q3 q4 q5 q6
              have hwa : IntKind.i64.wrap (g4 + a2 - g0 - g4) = a2 - g0 := by rw [IntKind.wrap_i64]; omega
              have hwb : IntKind.i64.wrap (a2 - g0) = a2 - g0 := by rw [IntKind.wrap_i64]; omega
              have s1 : ¬ a2 < g0 := by omega
              have s2 : ¬ g1 ≤ a2 - g0 := by omega
              have hpb : (pe == 0) = false := by rw [beq_eq_false_iff_ne]; exact hpe
              clear hpe
              go_wp2_with (first | (go_at_call 17; (with_reducible refine (hfd (bel_mps l0 hB)).mono ?_); rintro e w6 ⟨rfl, hb1⟩; have hal := hb1.alloc hb1.size (.cells #[.int .i64 g0, .int .i64 g1, .int .u64 g2, .int .u64 g3, .int .i64 g4, .bool g5] 25); replace hB := bel_next hB hal; replace hM := hM.next hal; have hG := Mb.new w6 (⟨g0, g1, g2, g3, g4, g5⟩ : Mp); obtain ⟨m0, m1, m2, m3, m4, m5⟩ := hM.cells; simp only at m0 m1 m2 m3 m4 m5; obtain ⟨v0, v1, v2, v3, v4, v5⟩ := hG.cells; simp only at v0 v1 v2 v3 v4 v5) | (go_at_call 13; (with_reducible refine (hpt (bel_mps l0 hB)).mono ?_); rintro e w7 ⟨aA, cA, rfl, hA, hb1⟩; replace hB := bel_next hB hb1; replace hM := hM.next hb1; replace hG := hG.next hb1) | (go_at_call 17; (with_reducible refine (hfk hA).mono ?_); rintro e w8 ⟨rfl, hb1⟩; have hal := hb1.alloc hb1.size (.cells #[.int .i64 g0, .int .i64 g1, .int .u64 g2, .int .u64 g3, .int .i64 g4, .bool g5] 25); replace hB := bel_next hB hal; replace hM := hM.next hal; replace hG := hG.next hal; replace hA := hA.next hal; have hX := Mb.new w8 (⟨g0, g1, g2, g3, g4, g5⟩ : Mp); obtain ⟨n0, n1, n2, n3, n4, n5⟩ := hM.cells; simp only at n0 n1 n2 n3 n4 n5; obtain ⟨u0, u1, u2, u3, u4, u5⟩ := hG.cells; simp only at u0 u1 u2 u3 u4 u5; obtain ⟨x0, x1, x2, x3, x4, x5⟩ := hX.cells; simp only at x0 x1 x2 x3 x4 x5) | (go_at_call 6; refine (haw _).mono ?_; rintro e wb ⟨rfl, hb1⟩; replace hB := bel_next hB hb1) | fail)
              go_ret
              exact ⟨rfl, hB⟩

set_option maxRecDepth 100000 in
theorem lifted (os : Os) (started : os.Started) (H : Type) (enc : TypeId × Value → H) :
    ReturnsInHanded {} Try.checked os 4 .any (Rows.pagesOneSpec.pre6 enc Try.prog Try.f4 Rows.pagesOneRow.domain false) (Rows.pagesOneSpec.post enc Try.prog Try.f4 false true false false) := by
  refine returnsInHanded_of_change (C := Try.checked) own started (by kernel_rfl) Try.func4
    (ChangeSpec.witness6 (enc := enc) (C := Try.checked) false ⟨#[], #[.slice none 0 0, .agg #[.int .i64 0, .int .i64 0, .int .u64 0, .int .u64 0, .int .i64 0, .bool false], .int .i64 0], []⟩ 8 (by kernel_rfl) (by kernel_rfl) (by kernel_rfl) (by kernel_rfl)) ?_
  intro W base args ds gs before hval0 hW hcnd _
  have hval : ∀ (j : Nat) t v, Try.f4.params[j]? = some t → args[j]? = some v → Value.okWide Try.prog W .any base t v := hval0
  have hW' := hW
  obtain ⟨p, q, hA0, hV, rfl, hfz, hnd⟩ := hW
  have hA : DataW.TrodAll enc Try.prog W 0 (fun _ => true) true Try.f4.params.toList args.toList ds p := hA0
  rw [Try.params4] at hA hval
  obtain ⟨v0, vs0, d0, ds0, p0, q0, hargs, rfl, rfl, h0, r0⟩ := trodAll_cons hA
  obtain ⟨v1, vs1, d1, ds1, p1, q1, rfl, rfl, rfl, h1, r1⟩ := trodAll_cons r0
  obtain ⟨v2, vs2, d2, ds2, p2, q2, rfl, rfl, rfl, h2, r2⟩ := trodAll_cons r1
  obtain ⟨rfl, rfl, rfl⟩ := trodAll_nil r2
  obtain rfl : args = #[v0, v1, v2] := by cases args; simp_all
  obtain ⟨rfl, rfl⟩ := trodVars_none hV
  obtain ⟨ao0, n0, cap0, rfl⟩ := okWide_slice Try.underlying22 (hval 0 22 v0 rfl rfl)
  have k0 := h0
  have lt0 : ∀ x ∈ p0, x.block < W.heap.size := by obtain ⟨m, hm⟩ := k0; exact DataW.trod_lt m _ _ _ hm
  obtain ⟨L0, l0⟩ := mps_of_trod h0
  obtain ⟨va1, nn1, co1, se1, of1, wb1, rfl, l1⟩ := map_of_trod (hval 1 25 v1 rfl rfl) h1
  have k1 := h1
  have lt1 : ∀ x ∈ p1, x.block < W.heap.size := by obtain ⟨m, hm⟩ := k1; exact DataW.trod_lt m _ _ _ hm
  obtain ⟨a2, rfl, rfl, rfl, w2⟩ := open_int Try.underlying3 (hval 2 3 v2 rfl rfl) h2
  clear hA0 hval0
  refine (walk ao0 n0 cap0 L0 va1 nn1 co1 se1 of1 wb1 a2 W l0 l1 w2).mono fun e W' ⟨he, bel⟩ => ?_
  subst he
  exact ⟨_, rfl, _, _, _, [], _, [], hW', trodAll_mk1 (shut_bool Try.underlying4 _), (trodAll_cons_mk (Below.trod laidOut (by kernel_rfl) (of_decide_eq_true (by kernel_rfl)) k0 bel lt0) (trodAll_cons_mk (Below.trod laidOut (by kernel_rfl) (of_decide_eq_true (by kernel_rfl)) k1 bel lt1) (trodAll_cons_mk (shut_int Try.underlying3 w2) trodAll_mk0))), rfl, bel.frame _, fun h => by cases h⟩

theorem over : Rows.pagesOneRow.holds Try.pinned (OpenSpec.ofChange Rows.pagesOneSpec) :=
  OpenClaim.holds_of_wide 4 Try.f4 rfl rfl rfl rfl rfl rfl rfl ⟨rfl, rfl, rfl, rfl, rfl⟩ rfl rfl rfl rfl rfl (by kernel_rfl) Try.func4 (by kernel_rfl)
    (of_decide_eq_true (by kernel_rfl)) (by unfold Func.isWrapper; first | (rw [if_pos (by decide +kernel)]; kernel_rfl) | (rw [if_neg (by decide +kernel)]; exact ⟨rfl, rfl⟩))
    (fun os started H enc _ => lifted os started H enc)

end pagesOne
/-- The statement. -/
theorem pagesOne_holds : Rows.PagesOneSaid :=
  pagesOne.over
#print axioms pagesOne_holds
end Go.Proofs.Ytnfdmbbipkcdkaa
