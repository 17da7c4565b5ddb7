/-
  PROVED HERE: PagesDo holds for every input: which maps can be, which are the same, maps with one more or less, the map of a page, and the page of an address, are the document's, and stay fit. No condition.
-/
import Derived.Test.YtnfdmbbipkcdkaaRows
import Derived.Test.YtnfdmbbipkcdkaaPgLaw
import Derived.WalkKit
import Derived.ProofKit
import Derived.OpenShut
import Derived.Below
import Derived.ShutString
import Derived.Deep.QuietTactic
namespace Go.Proofs.Ytnfdmbbipkcdkaa
namespace pagesDo
open Go.ChangeShapes Go.WideShapes Go.ChangeAt Go.RowKit
open Go.ChangeMaps (open_string shut_string)
set_option linter.unusedVariables false

theorem own : ownKnob Try.prog.godebug = none := by kernel_rfl

open Pg
set_option maxRecDepth 100000 in
set_option maxHeartbeats 8000000 in
theorem walk (ao0 : Option Addr) (n0 cap0 : Nat) (L0 : List Pg.Mp) (ao1 : Option Addr) (n1 cap1 : Nat) (L1 : List Pg.Mp) (va2 nn2 co2 se2 of2 : Int) (wb2 : Bool) (a3 : Int) (a4 : Int) (w : World) (l0 : Mps w.heap.size w ao0 n0 cap0 L0) (l1 : Mps w.heap.size w ao1 n1 cap1 L1) (l2 : Pg.Mp.ok ⟨va2, nn2, co2, se2, of2, wb2⟩) (w3 : (Lit.int .i64 a3).wf = true) (w4 : (Lit.int .u64 a4).wf = true) :
    Calls Try.prog 3 #[.slice ao0 n0 cap0, .slice ao1 n1 cap1, .agg #[.int .i64 va2, .int .i64 nn2, .int .u64 co2, .int .u64 se2, .int .i64 of2, .bool wb2], .int .i64 a3, .int .u64 a4] w fun e w' => e = .returned (.bool true) ∧ Below w.heap.size w w' := by
  have hn0 : Hid (L0.length = n0) := l0.1
  have hn1 : Hid (L1.length = n1) := l1.1
  have hnc0 := l0.2.1
  have hcm0 := l0.2.2.1.1
  have hnc1 := l1.2.1
  have hcm1 := l1.2.2.1.1
  have haw := fun W => awake_any W
  have h4 : 0 ≤ a4 ∧ a4 ≤ 18446744073709551615 := by simpa [Lit.wf, IntKind.min, IntKind.max, IntKind.bits, IntKind.signed] using w4
  have hsp := fun W => split_any a4 h4.1 h4.2 W
  have hrs := fun W => rsplit_any a4 h4.1 h4.2 W
  obtain ⟨sp, e1⟩ : ∃ z, Hid (spP a4 = z) := ⟨_, rfl⟩
  obtain ⟨sw, e2⟩ : ∃ z, Hid (spW a4 = z) := ⟨_, rfl⟩
  obtain ⟨sb, e3⟩ : ∃ z, Hid (spB a4 = z) := ⟨_, rfl⟩
  simp only [e1.out, e2.out, e3.out] at hsp hrs
  clear h4 w4 e1 e2 e3
  by_cases h0 : 30 < n0
  · go_enter Try.func3, Try.ntmps3
    go_wp2_with (go_at_call 6; refine (haw _).mono ?_; rintro e w1 ⟨rfl, hb1⟩)
    go_ret
    exact ⟨rfl, ((Below.refl _ w).alloc (Nat.le_refl _) _).trans (hb1.mono (by simp))⟩
  · by_cases h1 : 30 < n1
    · go_enter Try.func3, Try.ntmps3
      go_wp2_with (go_at_call 6; refine (haw _).mono ?_; rintro e w1 ⟨rfl, hb1⟩)
      go_ret
      exact ⟨rfl, ((Below.refl _ w).alloc (Nat.le_refl _) _).trans (hb1.mono (by simp))⟩
    · have hB : Below w.heap.size w (w.alloc (.cells #[.int .i64 va2, .int .i64 nn2, .int .u64 co2, .int .u64 se2, .int .i64 of2, .bool wb2] 25)) := (Below.refl _ w).alloc (Nat.le_refl _) _
      have hM := Mb.new w ⟨va2, nn2, co2, se2, of2, wb2⟩
      have hft := fun {W} (h : Mps W.heap.size W ao0 n0 cap0 L0) => fit_any h
      have hrf := fun {W} (h : Mps W.heap.size W ao0 n0 cap0 L0) => rfit_any h
      have hsk := fun {W} (h : Mps W.heap.size W ao0 n0 cap0 L0) (h' : Mps W.heap.size W ao1 n1 cap1 L1) => same_any h h'
      have hrk := fun {W} (h : Mps W.heap.size W ao0 n0 cap0 L0) (h' : Mps W.heap.size W ao1 n1 cap1 L1) => rsame_any h h'
      have hss := fun {W} (h : Mps W.heap.size W ao0 n0 cap0 L0) => same_any h h
      simp only [sameB_refl] at hss
      obtain ⟨sk, e4⟩ : ∃ z, Hid (sameB L0 L1 = z) := ⟨_, rfl⟩
      simp only [e4.out] at hsk hrk
      have hsb : (sb != sb) = false := bne_self_eq_false' ..
      have hskk : (sk != sk) = false := bne_self_eq_false' ..
      clear e4
      cases hfb : fitB L0 with
      | false =>
        clear hM
        simp only [hfb] at hft hrf
        go_enter Try.func3, Try.ntmps3
        go_wp2_with (first | (go_at_call 7; refine (hsp _).mono ?_; rintro e w1 ⟨rfl, rfl⟩) | (go_at_call 8; refine (hrs _).mono ?_; rintro e w1 ⟨rfl, rfl⟩) | (go_at_call 9; refine (hft (bel_mps l0 hB)).mono ?_; rintro e w1 ⟨rfl, hb1⟩; replace hB := bel_next hB hb1) | (go_at_call 10; refine (hrf (bel_mps l0 hB)).mono ?_; rintro e w1 ⟨rfl, hb1⟩; replace hB := bel_next hB hb1) | (go_at_call 11; (with_reducible refine (hsk (bel_mps l0 hB) (bel_mps l1 hB)).mono ?_); rintro e w1 ⟨rfl, hb1⟩; replace hB := bel_next hB hb1) | (go_at_call 12; refine (hrk (bel_mps l0 hB) (bel_mps l1 hB)).mono ?_; rintro e w1 ⟨rfl, hb1⟩; replace hB := bel_next hB hb1) | (go_at_call 11; (with_reducible refine (hss (bel_mps l0 hB)).mono ?_); rintro e w1 ⟨rfl, hb1⟩; replace hB := bel_next hB hb1) | (go_at_call 6; refine (haw _).mono ?_; rintro e w1 ⟨rfl, hb1⟩; replace hB := bel_next hB hb1) | fail)
        go_ret
        exact ⟨rfl, hB⟩
      | true =>
        simp only [hfb] at hft hrf
        have hF := fit_iff.1 hfb
        obtain ⟨⟨f0, f1, f2, f3, f4, f5⟩, e5⟩ : ∃ z, Hid (fM L0 a3 = z) := ⟨_, rfl⟩
        obtain ⟨fn, e6⟩ : ∃ z, Hid (fN L0 a3 = z) := ⟨_, rfl⟩
        obtain ⟨ff, e7⟩ : ∃ z, Hid (fF L0 a3 = z) := ⟨_, rfl⟩
        have hfd : ∀ {W : World}, Mps W.heap.size W ao0 n0 cap0 L0 → Calls Try.prog 17 #[.slice ao0 n0 cap0, .int .i64 a3] W fun e W' => e = .returned (.tuple #[.agg #[.int .i64 f0, .int .i64 f1, .int .u64 f2, .int .u64 f3, .int .i64 f4, .bool f5], .int .i64 fn, .bool ff]) ∧ Below W.heap.size W W' := fun h => by
          have := find_any h hF a3
          rw [e5.out, e6.out, e7.out] at this
          exact this
        have hrd : ∀ {W : World}, Mps W.heap.size W ao0 n0 cap0 L0 → Calls Try.prog 18 #[.slice ao0 n0 cap0, .int .i64 a3] W fun e W' => e = .returned (.tuple #[.agg #[.int .i64 f0, .int .i64 f1, .int .u64 f2, .int .u64 f3, .int .i64 f4, .bool f5], .int .i64 fn, .bool ff]) ∧ Below W.heap.size W W' := fun h => by
          have := rfind_any h hF a3
          rw [e5.out, e6.out, e7.out] at this
          exact this
        have hpt := fun {W} (h : Mps W.heap.size W ao0 n0 cap0 L0) => put_sl h hF va2 nn2 co2 se2 of2 wb2
        have hrp := fun {W} (h : Mps W.heap.size W ao0 n0 cap0 L0) => rput_any h hF va2 nn2 co2 se2 of2 wb2
        have hdr := fun {W} (h : Mps W.heap.size W ao0 n0 cap0 L0) => drop_sl h hF a3
        have hrr := fun {W} (h : Mps W.heap.size W ao0 n0 cap0 L0) => rdrop_any h hF a3
        have hpf := fit_iff.2 (fit_put (m := ⟨va2, nn2, co2, se2, of2, wb2⟩) hF)
        have hdf := fit_iff.2 (fit_drop (v := a3) hF)
        obtain ⟨P, e8⟩ : ∃ z, Hid (putL L0 ⟨va2, nn2, co2, se2, of2, wb2⟩ = z) := ⟨_, rfl⟩
        obtain ⟨pe, e9⟩ : ∃ z, Hid (putE L0 ⟨va2, nn2, co2, se2, of2, wb2⟩ = z) := ⟨_, rfl⟩
        obtain ⟨Dr, ea⟩ : ∃ z, Hid (drL L0 a3 = z) := ⟨_, rfl⟩
        obtain ⟨de, eb⟩ : ∃ z, Hid (drE L0 a3 = z) := ⟨_, rfl⟩
        simp only [e8.out, e9.out] at hpt hrp
        simp only [ea.out, eb.out] at hdr hrr
        rw [e8.out] at hpf
        rw [ea.out] at hdf
        obtain ⟨np, hnp⟩ : ∃ z, P.length = z := ⟨_, rfl⟩
        obtain ⟨nd, hnd⟩ : ∃ z, Dr.length = z := ⟨_, rfl⟩
        simp only [hnp] at hpt hrp
        simp only [hnd] at hdr hrr
        have hsA := fun {W : World} {a c b d} (h : Mps W.heap.size W a np c P) (h' : Mps W.heap.size W b np d P) => rsame_any h h'
        have hsC := fun {W : World} {a c b d} (h : Mps W.heap.size W a nd c Dr) (h' : Mps W.heap.size W b nd d Dr) => rsame_any h h'
        have hfA := fun {W : World} {a c} (h : Mps W.heap.size W a np c P) => rfit_any h
        have hfC := fun {W : World} {a c} (h : Mps W.heap.size W a nd c Dr) => rfit_any h
        simp only [sameB_refl] at hsA hsC
        simp only [hpf] at hfA
        simp only [hdf] at hfC
        clear hpf hdf
        clear hF hfb e5 e6 e7 e8 e9 ea eb hnp hnd
        go_enter Try.func3, Try.ntmps3
        go_wp2_with (first | (go_at_call 7; refine (hsp _).mono ?_; rintro e w1 ⟨rfl, rfl⟩) | (go_at_call 8; refine (hrs _).mono ?_; rintro e w1 ⟨rfl, rfl⟩) | (go_at_call 9; (with_reducible refine (hft (bel_mps l0 hB)).mono ?_); rintro e w1 ⟨rfl, hb1⟩; replace hB := bel_next hB hb1; replace hM := hM.next hb1) | (go_at_call 10; (with_reducible refine (hrf (bel_mps l0 hB)).mono ?_); rintro e w1 ⟨rfl, hb1⟩; replace hB := bel_next hB hb1; replace hM := hM.next hb1; obtain ⟨m0, m1, m2, m3, m4, m5⟩ := hM.cells; simp only at m0 m1 m2 m3 m4 m5) | (go_at_call 11; (with_reducible refine (hsk (bel_mps l0 hB) (bel_mps l1 hB)).mono ?_); rintro e w1 ⟨rfl, hb1⟩; replace hB := bel_next hB hb1; replace hM := hM.next hb1) | (go_at_call 12; (with_reducible refine (hrk (bel_mps l0 hB) (bel_mps l1 hB)).mono ?_); rintro e w1 ⟨rfl, hb1⟩; replace hB := bel_next hB hb1; replace hM := hM.next hb1) | (go_at_call 11; (with_reducible refine (hss (bel_mps l0 hB)).mono ?_); rintro e w1 ⟨rfl, hb1⟩; replace hB := bel_next hB hb1; replace hM := hM.next hb1) | (go_at_call 13; (with_reducible refine (hpt (bel_mps l0 hB)).mono ?_); rintro e w1 ⟨aA, cA, rfl, hA, hb1⟩; replace hB := bel_next hB hb1; replace hM := hM.next hb1; obtain ⟨m0, m1, m2, m3, m4, m5⟩ := hM.cells; simp only at m0 m1 m2 m3 m4 m5) | (go_at_call 14; (with_reducible refine (hrp (bel_mps l0 hB)).mono ?_); rintro e w1 ⟨aB, cB, rfl, hBb, hb1⟩; replace hB := bel_next hB hb1; replace hM := hM.next hb1; replace hA := hA.next hb1) | (go_at_call 15; (with_reducible refine (hdr (bel_mps l0 hB)).mono ?_); rintro e w1 ⟨aC, cC, rfl, hC, hb1⟩; replace hB := bel_next hB hb1; replace hM := hM.next hb1; replace hA := hA.next hb1; replace hBb := hBb.next hb1) | (go_at_call 16; (with_reducible refine (hrr (bel_mps l0 hB)).mono ?_); rintro e w1 ⟨aD, cD, rfl, hD, hb1⟩; replace hB := bel_next hB hb1; replace hM := hM.next hb1; replace hA := hA.next hb1; replace hBb := hBb.next hb1; replace hC := hC.next hb1) | (go_at_call 17; (with_reducible refine (hfd (bel_mps l0 hB)).mono ?_); rintro e w6 ⟨rfl, hb1⟩; have hal := hb1.alloc hb1.size (.cells #[.int .i64 f0, .int .i64 f1, .int .u64 f2, .int .u64 f3, .int .i64 f4, .bool f5] 25); replace hB := bel_next hB hal; replace hA := hA.next hal; replace hBb := hBb.next hal; replace hC := hC.next hal; replace hD := hD.next hal; have hX := Mb.new w6 ⟨f0, f1, f2, f3, f4, f5⟩) | (go_at_call 18; (with_reducible refine (hrd (bel_mps l0 hB)).mono ?_); rintro e w7 ⟨rfl, hb1⟩; have hal := hb1.alloc hb1.size (.cells #[.int .i64 f0, .int .i64 f1, .int .u64 f2, .int .u64 f3, .int .i64 f4, .bool f5] 25); replace hB := bel_next hB hal; replace hA := hA.next hal; replace hBb := hBb.next hal; replace hC := hC.next hal; replace hD := hD.next hal; replace hX := hX.next hal; have hY := Mb.new w7 ⟨f0, f1, f2, f3, f4, f5⟩) | (go_at_call 12; (with_reducible refine (hsA hA hBb).mono ?_); rintro e w1 ⟨rfl, hb1⟩; replace hB := bel_next hB hb1; replace hA := hA.next hb1; replace hBb := hBb.next hb1; replace hC := hC.next hb1; replace hD := hD.next hb1; replace hX := hX.next hb1; replace hY := hY.next hb1) | (go_at_call 12; (with_reducible refine (hsC hC hD).mono ?_); rintro e w1 ⟨rfl, hb1⟩; replace hB := bel_next hB hb1; replace hA := hA.next hb1; replace hBb := hBb.next hb1; replace hC := hC.next hb1; replace hD := hD.next hb1; replace hX := hX.next hb1; replace hY := hY.next hb1; obtain ⟨x0, x1, x2, x3, x4, x5⟩ := hX.cells; obtain ⟨y0, y1, y2, y3, y4, y5⟩ := hY.cells; simp only at x0 x1 x2 x3 x4 x5 y0 y1 y2 y3 y4 y5) | (go_at_call 10; (with_reducible refine (hfA hA).mono ?_); rintro e w1 ⟨rfl, hb1⟩; replace hB := bel_next hB hb1; replace hA := hA.next hb1; replace hBb := hBb.next hb1; replace hC := hC.next hb1; replace hD := hD.next hb1; replace hX := hX.next hb1; replace hY := hY.next hb1) | (go_at_call 10; (with_reducible refine (hfC hC).mono ?_); rintro e w1 ⟨rfl, hb1⟩; replace hB := bel_next hB hb1; replace hA := hA.next hb1; replace hBb := hBb.next hb1; replace hC := hC.next hb1; replace hD := hD.next hb1; replace hX := hX.next hb1; replace hY := hY.next hb1) | (go_at_call 6; refine (haw _).mono ?_; rintro e w1 ⟨rfl, hb1⟩; replace hB := bel_next hB hb1) | fail)
        go_ret
        exact ⟨rfl, hB⟩

set_option maxRecDepth 100000 in
theorem lifted (os : Os) (started : os.Started) (H : Type) (enc : TypeId × Value → H) :
    ReturnsInHanded {} Try.checked os 3 .any (Rows.pagesDoSpec.pre6 enc Try.prog Try.f3 Rows.pagesDoRow.domain false) (Rows.pagesDoSpec.post enc Try.prog Try.f3 false true false false) := by
  refine returnsInHanded_of_change (C := Try.checked) own started (by kernel_rfl) Try.func3
    (ChangeSpec.witness6 (enc := enc) (C := Try.checked) false ⟨#[], #[.slice none 0 0, .slice none 0 0, .agg #[.int .i64 0, .int .i64 0, .int .u64 0, .int .u64 0, .int .i64 0, .bool false], .int .i64 0, .int .u64 0], []⟩ 8 (by kernel_rfl) (by kernel_rfl) (by kernel_rfl) (by kernel_rfl)) ?_
  intro W base args ds gs before hval0 hW hcnd _
  have hval : ∀ (j : Nat) t v, Try.f3.params[j]? = some t → args[j]? = some v → Value.okWide Try.prog W .any base t v := hval0
  have hW' := hW
  obtain ⟨p, q, hA0, hV, rfl, hfz, hnd⟩ := hW
  have hA : DataW.TrodAll enc Try.prog W 0 (fun _ => true) true Try.f3.params.toList args.toList ds p := hA0
  rw [Try.params3] at hA hval
  obtain ⟨v0, vs0, d0, ds0, p0, q0, hargs, rfl, rfl, h0, r0⟩ := trodAll_cons hA
  obtain ⟨v1, vs1, d1, ds1, p1, q1, rfl, rfl, rfl, h1, r1⟩ := trodAll_cons r0
  obtain ⟨v2, vs2, d2, ds2, p2, q2, rfl, rfl, rfl, h2, r2⟩ := trodAll_cons r1
  obtain ⟨v3, vs3, d3, ds3, p3, q3, rfl, rfl, rfl, h3, r3⟩ := trodAll_cons r2
  obtain ⟨v4, vs4, d4, ds4, p4, q4, rfl, rfl, rfl, h4, r4⟩ := trodAll_cons r3
  obtain ⟨rfl, rfl, rfl⟩ := trodAll_nil r4
  obtain rfl : args = #[v0, v1, v2, v3, v4] := by cases args; simp_all
  obtain ⟨rfl, rfl⟩ := trodVars_none hV
  obtain ⟨ao0, n0, cap0, rfl⟩ := okWide_slice Try.underlying22 (hval 0 22 v0 rfl rfl)
  have k0 := h0
  have lt0 : ∀ x ∈ p0, x.block < W.heap.size := by obtain ⟨m, hm⟩ := k0; exact DataW.trod_lt m _ _ _ hm
  obtain ⟨L0, l0⟩ := mps_of_trod h0
  obtain ⟨ao1, n1, cap1, rfl⟩ := okWide_slice Try.underlying22 (hval 1 22 v1 rfl rfl)
  have k1 := h1
  have lt1 : ∀ x ∈ p1, x.block < W.heap.size := by obtain ⟨m, hm⟩ := k1; exact DataW.trod_lt m _ _ _ hm
  obtain ⟨L1, l1⟩ := mps_of_trod h1
  obtain ⟨va2, nn2, co2, se2, of2, wb2, rfl, l2⟩ := map_of_trod (hval 2 25 v2 rfl rfl) h2
  have k2 := h2
  have lt2 : ∀ x ∈ p2, x.block < W.heap.size := by obtain ⟨m, hm⟩ := k2; exact DataW.trod_lt m _ _ _ hm
  obtain ⟨a3, rfl, rfl, rfl, w3⟩ := open_int Try.underlying3 (hval 3 3 v3 rfl rfl) h3
  obtain ⟨a4, rfl, rfl, rfl, w4⟩ := open_int Try.underlying23 (hval 4 23 v4 rfl rfl) h4
  clear hA0 hval0
  refine (walk ao0 n0 cap0 L0 ao1 n1 cap1 L1 va2 nn2 co2 se2 of2 wb2 a3 a4 W l0 l1 l2 w3 w4).mono fun e W' ⟨he, bel⟩ => ?_
  subst he
  exact ⟨_, rfl, _, _, _, [], _, [], hW', trodAll_mk1 (shut_bool Try.underlying4 _), (trodAll_cons_mk (Below.trod laidOut (by kernel_rfl) (of_decide_eq_true (by kernel_rfl)) k0 bel lt0) (trodAll_cons_mk (Below.trod laidOut (by kernel_rfl) (of_decide_eq_true (by kernel_rfl)) k1 bel lt1) (trodAll_cons_mk (Below.trod laidOut (by kernel_rfl) (of_decide_eq_true (by kernel_rfl)) k2 bel lt2) (trodAll_cons_mk (shut_int Try.underlying3 w3) (trodAll_cons_mk (shut_int Try.underlying23 w4) trodAll_mk0))))), rfl, bel.frame _, fun h => by cases h⟩

theorem over : Rows.pagesDoRow.holds Try.pinned (OpenSpec.ofChange Rows.pagesDoSpec) :=
  OpenClaim.holds_of_wide 3 Try.f3 rfl rfl rfl rfl rfl rfl rfl ⟨rfl, rfl, rfl, rfl, rfl⟩ rfl rfl rfl rfl rfl (by kernel_rfl) Try.func3 (by kernel_rfl)
    (of_decide_eq_true (by kernel_rfl)) (by unfold Func.isWrapper; first | (rw [if_pos (by decide +kernel)]; kernel_rfl) | (rw [if_neg (by decide +kernel)]; exact ⟨rfl, rfl⟩))
    (fun os started H enc _ => lifted os started H enc)

end pagesDo
/-- The statement. -/
theorem pagesDo_holds : Rows.PagesDoSaid :=
  pagesDo.over
#print axioms pagesDo_holds
end Go.Proofs.Ytnfdmbbipkcdkaa
