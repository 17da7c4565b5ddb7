/-
  PROVED HERE: InternRoom (P5.4, P5.5): of a table in which fewer than 64 unlike labels are asked for one more finds room, asked for again it has the same place, as many places are asked for as there are unlike labels; dropped again the table is as it was: at every table and label.
-/
import Derived.Test.YtdljoapbeelgiaaRows
import Derived.Test.YtdljoapbeelgiaaItn14
import Derived.Test.YtdljoapbeelgiaaItn16
import Derived.Test.YtdljoapbeelgiaaItnOpen
import Derived.WalkKit
import Derived.ProofKit
import Derived.OpenShut
import Derived.Below
import Derived.ShutString
import Derived.Deep.QuietTactic
import Derived.Deep.DeepCutAuto
namespace Go.Proofs.Ytdljoapbeelgiaa
namespace internRoom
open Go.ChangeShapes Go.WideShapes Go.ChangeAt Go.RowKit
open Go.ChangeMaps (open_string shut_string)
set_option linter.unusedVariables false

theorem own : ownKnob Try.prog.godebug = none := by kernel_rfl

set_option maxRecDepth 100000 in
set_option maxHeartbeats 8000000 in
theorem walk (ao0 : Option Addr) (n0 cap0 : Nat) (aoc0 : Option Addr) (nc0 capc0 : Nat) (LL0 : List (List (Int × Int))) (CC0 : List Int) (ao1 : Option Addr) (n1 cap1 : Nat) (L1 : List (Int × Int)) (w : World) (l0 : TabD (fun b => b < w.heap.size) w ao0 n0 cap0 aoc0 nc0 capc0 LL0 CC0) (l1 : Lab w.heap.size w ao1 n1 cap1 L1) :
    Calls Try.prog 5 #[.agg #[.slice ao0 n0 cap0, .slice aoc0 nc0 capc0], .slice ao1 n1 cap1] w fun e w' => e = .returned (.bool true) ∧ Below w.heap.size w w' := by
  have hb0 : Below w.heap.size w (w.alloc (.cells #[.slice ao0 n0 cap0, .slice aoc0 nc0 capc0] 25)) := (Below.refl _ w).alloc (Nat.le_refl _) _
  have t0 := Two.new w 25 (.slice ao0 n0 cap0) (.slice aoc0 nc0 capc0)
  obtain ⟨W0, hW0⟩ : ∃ W0, Hid (w.alloc (.cells #[.slice ao0 n0 cap0, .slice aoc0 nc0 capc0] 25) = W0) := ⟨_, rfl⟩
  go_enter Try.func5, Try.ntmps5
  go_upto_region 1 with (fail)
  rw [hW0.out] at hb0 t0 ⊢
  clear hW0
  have hT0 := l0.next hb0
  have c0 := t0.cell0
  have c1 := t0.cell1
  have hw0 := hb0.size
  have hbx : Hid (∀ W, Below W0.heap.size W0 W → W.cell? ⟨w.heap.size, 0, none⟩ = some (.slice ao0 n0 cap0) ∧ W.cell? ⟨w.heap.size, 1, none⟩ = some (.slice aoc0 nc0 capc0)) := fun W hb => ⟨(hb.cell (p := ⟨w.heap.size, 0, none⟩) t0.lt).trans c0, (hb.cell (p := ⟨w.heap.size, 1, none⟩) t0.lt).trans c1⟩
  have hLW : Hid (∀ W, Below W0.heap.size W0 W → Lab W.heap.size W ao1 n1 cap1 L1) := fun W hb => (l1.next hb0).next hb
  have hl1 := l1.1
  have hE : Hid (∀ W, Below W0.heap.size W0 W → Below w.heap.size w W) := fun W hb => hb0.trans (hb.mono hw0)
  cases hfew0 : fewB LL0 CC0 with
  | false =>
    have hfew : Hid (fewB LL0 CC0 = false) := hfew0
    clear hfew0
    go_wp2_with (first | (go_at_call 6; refine (few_any hT0 (fun b h => h)).mono ?_; rintro e w1 ⟨rfl, hb1⟩; rw [hfew.out]; have B1 : Hid (Below W0.heap.size W0 w1) := hb1; obtain ⟨x0, x1⟩ := hbx.out w1 B1.out) | (go_at_call 7; refine (awake_any _).mono ?_; rintro e w9 ⟨rfl, hb9⟩; have B9 : Hid (Below W0.heap.size W0 w9) := B1.out.trans (hb9.mono B1.out.size)))
    go_ret
    exact ⟨rfl, hE.out _ B9.out⟩
  | true =>
    have hfew : Hid (fewB LL0 CC0 = true) := hfew0
    clear hfew0
    by_cases hnn : ¬ nc0 = n0
    · go_wp2_with (first | (go_at_call 6; refine (few_any hT0 (fun b h => h)).mono ?_; rintro e w1 ⟨rfl, hb1⟩; rw [hfew.out]; have B1 : Hid (Below W0.heap.size W0 w1) := hb1; obtain ⟨x0, x1⟩ := hbx.out w1 B1.out) | (go_at_call 9; refine (rtfit_ne hnn).mono ?_; rintro e w2 ⟨rfl, hb2⟩; have B2 : Hid (Below W0.heap.size W0 w2) := B1.out.trans (hb2.mono B1.out.size)) | (go_at_call 7; refine (awake_any _).mono ?_; rintro e w9 ⟨rfl, hb9⟩; have B9 : Hid (Below W0.heap.size W0 w9) := B2.out.trans (hb9.mono B2.out.size)))
      go_ret
      exact ⟨rfl, hE.out _ B9.out⟩
    obtain rfl : nc0 = n0 := by omega
    obtain ⟨z1, z2⟩ := zip_maps (LL := LL0) (CC := CC0) (by have h1 := l0.1.1; have h2 := l0.2.1; omega)
    obtain ⟨Z, hZ⟩ : ∃ Z : Zt, Hid (LL0.zip CC0 = Z) := ⟨_, rfl⟩
    rw [hZ.out] at z1 z2
    have hTW : Hid (∀ W, Below W0.heap.size W0 W → Tab W ao0 nc0 cap0 aoc0 capc0 Z) := fun W hb => by have := hT0.next hb; rw [← z1, ← z2] at this; exact this
    have hzl := (hTW.out W0 (Below.refl _ _)).len
    have hcc := (hTW.out W0 (Below.refl _ _)).2.2.1
    have hccm := (hTW.out W0 (Below.refl _ _)).2.2.2.1.1
    cases hfit0 : fitZ Z with
    | false =>
      have hfit : Hid (fitZ Z = false) := hfit0
      clear hfit0
      go_wp2_with (first | (go_at_call 6; refine (few_any hT0 (fun b h => h)).mono ?_; rintro e w1 ⟨rfl, hb1⟩; rw [hfew.out]; have B1 : Hid (Below W0.heap.size W0 w1) := hb1; obtain ⟨x0, x1⟩ := hbx.out w1 B1.out) | (go_at_call 9; refine (rtfit_any (hTW.out w1 B1.out)).mono ?_; rintro e w2 ⟨rfl, hb2⟩; rw [hfit.out]; have B2 : Hid (Below W0.heap.size W0 w2) := B1.out.trans (hb2.mono B1.out.size); obtain ⟨y0, y1⟩ := hbx.out w2 B2.out) | (go_at_call 7; refine (awake_any _).mono ?_; rintro e w9 ⟨rfl, hb9⟩; have B9 : Hid (Below W0.heap.size W0 w9) := B2.out.trans (hb9.mono B2.out.size)))
      go_ret
      exact ⟨rfl, hE.out _ B9.out⟩
    | true =>
      have hfit : Hid (fitZ Z = true) := hfit0
      have HF : Hid (FitP Z) := fitZ_iff.1 hfit0
      clear hfit0
      cases hlf0 : fitB L1 with
      | false =>
        have hlf : Hid (fitB L1 = false) := hlf0
        clear hlf0
        go_wp2_with (first | (go_at_call 6; refine (few_any hT0 (fun b h => h)).mono ?_; rintro e w1 ⟨rfl, hb1⟩; rw [hfew.out]; have B1 : Hid (Below W0.heap.size W0 w1) := hb1; obtain ⟨x0, x1⟩ := hbx.out w1 B1.out) | (go_at_call 9; refine (rtfit_any (hTW.out w1 B1.out)).mono ?_; rintro e w2 ⟨rfl, hb2⟩; rw [hfit.out]; have B2 : Hid (Below W0.heap.size W0 w2) := B1.out.trans (hb2.mono B1.out.size); obtain ⟨y0, y1⟩ := hbx.out w2 B2.out) | (go_at_call 23; refine (rlfit_any (hLW.out w2 B2.out) (Nat.le_refl _)).mono ?_; rintro e w3 ⟨rfl, hb3⟩; rw [hlf.out]; have B3 : Hid (Below W0.heap.size W0 w3) := B2.out.trans (hb3.mono B2.out.size); obtain ⟨z0, z1⟩ := hbx.out w3 B3.out) | (go_at_call 7; refine (awake_any _).mono ?_; rintro e w9 ⟨rfl, hb9⟩; have B9 : Hid (Below W0.heap.size W0 w9) := B3.out.trans (hb9.mono B3.out.size)))
        go_ret
        exact ⟨rfl, hE.out _ B9.out⟩
      | true =>
        have hlf : Hid (fitB L1 = true) := hlf0
        by_cases h16 : (16 : Int) < n1
        · clear hlf0
          go_wp2_with (first | (go_at_call 6; refine (few_any hT0 (fun b h => h)).mono ?_; rintro e w1 ⟨rfl, hb1⟩; rw [hfew.out]; have B1 : Hid (Below W0.heap.size W0 w1) := hb1; obtain ⟨x0, x1⟩ := hbx.out w1 B1.out) | (go_at_call 9; refine (rtfit_any (hTW.out w1 B1.out)).mono ?_; rintro e w2 ⟨rfl, hb2⟩; rw [hfit.out]; have B2 : Hid (Below W0.heap.size W0 w2) := B1.out.trans (hb2.mono B1.out.size); obtain ⟨y0, y1⟩ := hbx.out w2 B2.out) | (go_at_call 23; refine (rlfit_any (hLW.out w2 B2.out) (Nat.le_refl _)).mono ?_; rintro e w3 ⟨rfl, hb3⟩; rw [hlf.out]; have B3 : Hid (Below W0.heap.size W0 w3) := B2.out.trans (hb3.mono B2.out.size); obtain ⟨z0, z1⟩ := hbx.out w3 B3.out) | (go_at_call 7; refine (awake_any _).mono ?_; rintro e w9 ⟨rfl, hb9⟩; have B9 : Hid (Below W0.heap.size W0 w9) := B3.out.trans (hb9.mono B3.out.size)))
          go_ret
          exact ⟨rfl, hE.out _ B9.out⟩
        have hkb : Hid (keepB L1 = true) := by unfold Hid keepB; rw [hlf0]; simp; omega
        clear hlf0
        cases hfnd : fnd Z L1 with
        | some i =>
          obtain ⟨hi, ⟨hc0, hlb⟩, _⟩ := fnd_some.1 hfnd
          obtain ⟨st0, st1, _, _⟩ := HF.out.stand i hi
          have hN : Hid (fN Z L1 = ((i : Nat) : Int)) := by unfold Hid fN; rw [hfnd]; rfl
          have hFF : Hid (fF Z L1 = true) := by unfold Hid fF; rw [hfnd]; rfl
          obtain ⟨b, off, b', off', ai, ki, ci, rfl, rfl, hB, hB', _, q3, _⟩ := TabD.at (hTW.out W0 (Below.refl _ _)) (i := i) (by omega)
          obtain ⟨y, hy⟩ : ∃ y, Hid ((zat Z i).2 = y) := ⟨_, rfl⟩
          have hin : ((i : Nat) : Int) < ((nc0 : Nat) : Int) := by omega
          have hcell : Hid (∀ W, Below W0.heap.size W0 W → W.cell? ⟨b', off' + i, none⟩ = some (.int .i64 y)) := fun W hb => (hb.cell (p := ⟨b', off' + i, none⟩) hB').trans (by rw [q3, hy.out])
          have Hadd : Hid (addR Z L1 = addR Z L1) := rfl
          by_cases hbig : (1073741823 : Int) ≤ y
          · go_wp2_with (first | (go_at_call 6; refine (few_any hT0 (fun b h => h)).mono ?_; rintro e w1 ⟨rfl, hb1⟩; rw [hfew.out]; have B1 : Hid (Below W0.heap.size W0 w1) := hb1; obtain ⟨x0, x1⟩ := hbx.out w1 B1.out) | (go_at_call 9; refine (rtfit_any (hTW.out w1 B1.out)).mono ?_; rintro e w2 ⟨rfl, hb2⟩; rw [hfit.out]; have B2 : Hid (Below W0.heap.size W0 w2) := B1.out.trans (hb2.mono B1.out.size); obtain ⟨y0, y1⟩ := hbx.out w2 B2.out) | (go_at_call 23; refine (rlfit_any (hLW.out w2 B2.out) (Nat.le_refl _)).mono ?_; rintro e w3 ⟨rfl, hb3⟩; rw [hlf.out]; have B3 : Hid (Below W0.heap.size W0 w3) := B2.out.trans (hb3.mono B2.out.size); obtain ⟨z0, z1⟩ := hbx.out w3 B3.out) | (go_at_call 18; refine (find_any (hTW.out w3 B3.out) (hLW.out w3 B3.out)).mono ?_; rintro e w4 ⟨rfl, hb4⟩; rw [hN.out, hFF.out]; have B4 : Hid (Below W0.heap.size W0 w4) := B3.out.trans (hb4.mono B3.out.size); obtain ⟨s0, s1⟩ := hbx.out w4 B4.out; have r3 := hcell.out w4 B4.out) | (go_at_call 7; refine (awake_any _).mono ?_; rintro e w9 ⟨rfl, hb9⟩; have B9 : Hid (Below W0.heap.size W0 w9) := B4.out.trans (hb9.mono B4.out.size)))
            go_ret
            exact ⟨rfl, hE.out _ B9.out⟩
          have hyl : y < 1073741823 := by omega
          have hadd : Hid (addR Z L1 = (Z.set i ((zat Z i).1, y + 1), ((i : Nat) : Int), 0)) := by unfold Hid; rw [addR_more hkb.out hfnd (by rw [hy.out]; omega), hy.out]
          have hf1 : Hid (fnd (Z.set i ((zat Z i).1, y + 1)) L1 = some i) := more_find hfnd (by rw [hy.out] at hc0 st0; omega)
          have hu1 : Hid (usd (Z.set i ((zat Z i).1, y + 1)) = usd Z) := usd_set hi hc0 (by show y + 1 ≠ 0; rw [hy.out] at st0; omega)
          have hz1 : Hid (zat (Z.set i ((zat Z i).1, y + 1)) i = ((zat Z i).1, y + 1)) := by unfold Hid; rw [zat_set, if_pos ⟨rfl, hi⟩]
          have hback : Hid (dropR (Z.set i ((zat Z i).1, y + 1)) ((i : Nat) : Int) = (Z, 0)) := by have := more_back HF.out hi hc0; rw [hy.out] at this; exact this
          have HF1 : Hid (FitP (Z.set i ((zat Z i).1, y + 1))) := by have := fit_add (l := L1) HF.out; rw [hadd.out] at this; exact this
          have hadd2 : Hid (addR (Z.set i ((zat Z i).1, y + 1)) L1 = ((Z.set i ((zat Z i).1, y + 1)).set i ((zat Z i).1, y + 1 + 1), ((i : Nat) : Int), 0)) := by unfold Hid; rw [addR_more hkb.out hf1.out (by rw [hz1.out]; show y + 1 ≠ 1073741824; omega), hz1.out]
          have hu2 : Hid (usd ((Z.set i ((zat Z i).1, y + 1)).set i ((zat Z i).1, y + 1 + 1)) = usd Z) := by unfold Hid; rw [usd_set (by rw [List.length_set]; exact hi) (by rw [hz1.out]; show y + 1 ≠ 0; rw [hy.out] at st0; omega) (by show y + 1 + 1 ≠ 0; rw [hy.out] at st0; omega), hu1.out]
          obtain ⟨Z1, hZ1⟩ : ∃ Z1, Hid (Z.set i ((zat Z i).1, y + 1) = Z1) := ⟨_, rfl⟩
          obtain ⟨Z2, hZ2⟩ : ∃ Z2, Hid ((Z.set i ((zat Z i).1, y + 1)).set i ((zat Z i).1, y + 1 + 1) = Z2) := ⟨_, rfl⟩
          rw [hZ2.out] at hadd2 hu2
          rw [hZ1.out] at hadd hu1 hback HF1 hadd2
          obtain ⟨u, hu⟩ : ∃ u, Hid (usd Z = u) := ⟨_, rfl⟩
          have hul := usd_le Z
          rw [hu.out] at hu1 hu2 hul
          clear Hadd hf1 hz1 hZ1 hZ2 hc0 st0 st1 hlb q3 hfnd
          go_upto_region 12 with (first | (go_at_call 6; refine (few_any hT0 (fun b h => h)).mono ?_; rintro e w1 ⟨rfl, hb1⟩; rw [hfew.out]; have B1 : Hid (Below W0.heap.size W0 w1) := hb1; obtain ⟨x0, x1⟩ := hbx.out w1 B1.out) | (go_at_call 9; refine (rtfit_any (hTW.out w1 B1.out)).mono ?_; rintro e w2 ⟨rfl, hb2⟩; rw [hfit.out]; have B2 : Hid (Below W0.heap.size W0 w2) := B1.out.trans (hb2.mono B1.out.size); obtain ⟨y0, y1⟩ := hbx.out w2 B2.out) | (go_at_call 23; refine (rlfit_any (hLW.out w2 B2.out) (Nat.le_refl _)).mono ?_; rintro e w3 ⟨rfl, hb3⟩; rw [hlf.out]; have B3 : Hid (Below W0.heap.size W0 w3) := B2.out.trans (hb3.mono B2.out.size); obtain ⟨z0, z1⟩ := hbx.out w3 B3.out) | (go_at_call 18; refine (find_any (hTW.out w3 B3.out) (hLW.out w3 B3.out)).mono ?_; rintro e w4 ⟨rfl, hb4⟩; rw [hN.out, hFF.out]; have B4 : Hid (Below W0.heap.size W0 w4) := B3.out.trans (hb4.mono B3.out.size); obtain ⟨s0, s1⟩ := hbx.out w4 B4.out; have r3 := hcell.out w4 B4.out) | (go_at_call 21; refine (used_any (hTW.out w4 B4.out)).mono ?_; rintro e w5 ⟨rfl, hb5⟩; rw [hu.out]; have B5 : Hid (Below W0.heap.size W0 w5) := B4.out.trans (hb5.mono B4.out.size); obtain ⟨p0, p1⟩ := hbx.out w5 B5.out) | (go_at_call 12; refine (tadd_any (hTW.out w5 B5.out) HF.out (hLW.out w5 B5.out) (by omega)).mono ?_; rintro e w6 ⟨a6, n6, c6, a6', c6', rfl, hT6, hb6⟩; rw [hadd.out] at hT6 ⊢; have B6 : Hid (Below W0.heap.size W0 w6) := B5.out.trans (hb6.mono B5.out.size)))
          have hB6 : Below w6.heap.size w6 (w6.alloc (.cells #[.slice a6 n6 c6, .slice a6' n6 c6'] 25)) := (Below.refl _ _).alloc (Nat.le_refl _) _
          have t6 := Two.new w6 25 (.slice a6 n6 c6) (.slice a6' n6 c6')
          have TA6 := hT6.next hB6
          obtain ⟨W6, hW6⟩ : ∃ W6, Hid (w6.alloc (.cells #[.slice a6 n6 c6, .slice a6' n6 c6'] 25) = W6) := ⟨_, rfl⟩
          rw [hW6.out] at hB6 t6 TA6 ⊢
          clear hW6 hT6
          have C6 : Hid (Below W0.heap.size W0 W6) := B6.out.trans (hB6.mono B6.out.size)
          have a60 := t6.cell0
          have a61 := t6.cell1
          go_upto_region 13 with (go_at_call 12; refine (tadd_any TA6.tab HF1.out (hLW.out W6 C6.out) (by omega)).mono ?_; rintro e w7 ⟨a7, n7, c7, a7', c7', rfl, hT7, hb7⟩; rw [hadd2.out] at hT7 ⊢)
          have hB7 : Below w7.heap.size w7 (w7.alloc (.cells #[.slice a7 n7 c7, .slice a7' n7 c7'] 25)) := (Below.refl _ _).alloc (Nat.le_refl _) _
          have t7 := Two.new w7 25 (.slice a7 n7 c7) (.slice a7' n7 c7')
          have TB7 := hT7.next hB7
          obtain ⟨W7, hW7⟩ : ∃ W7, Hid (w7.alloc (.cells #[.slice a7 n7 c7, .slice a7' n7 c7'] 25) = W7) := ⟨_, rfl⟩
          rw [hW7.out] at hB7 t7 TB7 ⊢
          clear hW7 hT7
          have C7 : Hid (Below W6.heap.size W6 W7) := hb7.trans (hB7.mono hb7.size)
          have D7 : Hid (Below W0.heap.size W0 W7) := C6.out.trans (C7.out.mono C6.out.size)
          have t6' : Two W7 w6.heap.size 25 (.slice a6 n6 c6) (.slice a6' n6 c6') := (C7.out.block _ t6.lt).trans t6
          have hcl : Hid (∀ W, Below W7.heap.size W7 W → (W.cell? ⟨w7.heap.size, 0, none⟩ = some (.slice a7 n7 c7) ∧ W.cell? ⟨w7.heap.size, 1, none⟩ = some (.slice a7' n7 c7')) ∧ W.cell? ⟨w6.heap.size, 0, none⟩ = some (.slice a6 n6 c6) ∧ W.cell? ⟨w6.heap.size, 1, none⟩ = some (.slice a6' n6 c6')) := fun W hb =>
            ⟨⟨(hb.cell (p := ⟨w7.heap.size, 0, none⟩) t7.lt).trans t7.cell0, (hb.cell (p := ⟨w7.heap.size, 1, none⟩) t7.lt).trans t7.cell1⟩, (hb.cell (p := ⟨w6.heap.size, 0, none⟩) t6'.lt).trans t6'.cell0, (hb.cell (p := ⟨w6.heap.size, 1, none⟩) t6'.lt).trans t6'.cell1⟩
          have hTB : Hid (∀ W, Below W7.heap.size W7 W → Tab W a7 n7 c7 a7' c7' Z2) := fun W hb => (TB7.next hb).tab
          have TA7 : Hid (TabN W7 a6 n6 c6 a6' c6' Z1) := TA6.next C7.out
          have hTA7 : Hid (∀ W, Below W7.heap.size W7 W → Tab W a6 n6 c6 a6' c6' Z1) := fun W hb => (TA7.out.next hb).tab
          clear t6 t7 t6' TA6 TB7 a60 a61
          go_cut [123] (fun s wc => s = .bool false ∧ Below W7.heap.size W7 wc)
          case first =>
            obtain ⟨⟨x70, x71⟩, x72, x73⟩ := hcl.out W7 (Below.refl _ _)
            refine wp_region_held_drew (S := (fun w' => (w'.cell? ⟨w7.heap.size, 0, none⟩ = some (.slice a7 n7 c7) ∧ w'.cell? ⟨w7.heap.size, 1, none⟩ = some (.slice a7' n7 c7')) ∧ w'.cell? ⟨w6.heap.size, 0, none⟩ = some (.slice a6 n6 c6) ∧ w'.cell? ⟨w6.heap.size, 1, none⟩ = some (.slice a6' n6 c6'))) (by kernel_rfl) ⟨⟨x70, x71⟩, x72, x73⟩ (fun hH => ?_)
            refine wpAnyH_take (i := 0) (oi := { dst := some 91, op := Op.move (Operand.tmp 13), type := 31, pos := "law.go:116", after := #[], guard := none }) (v := (.int .i64 0)) rfl (by kernel_rfl) (by kernel_rfl) (by kernel_rfl) (fun _ _ _ h => h) (Or.inl ⟨by rfl, fun w hSw => (by go_simp)⟩) hH ?_
            simp only [Act.put, List.setIfInBounds_toArray, List.set_cons_zero, List.set_cons_succ]
            refine wpAnyH_take (i := 1) (oi := { dst := some 92, op := Op.binOp BinOp.neq 31 (Operand.tmp 91) (Operand.const (Value.int IntKind.i64 0)) 31, type := 4, pos := "law.go:116", after := #[{ on := 0, ground := Ground.data }], guard := none }) (v := (.bool false)) rfl (by kernel_rfl) (by kernel_rfl) (by kernel_rfl) (fun _ _ _ h => h) (Or.inl ⟨by rfl, fun w hSw => (by go_simp)⟩) hH ?_
            simp only [Act.put, List.setIfInBounds_toArray, List.set_cons_zero, List.set_cons_succ]
            refine wpAnyH_take (i := 2) (oi := { dst := some 93, op := Op.move (Operand.tmp 92), type := 4, pos := "law.go:116", after := #[{ on := 1, ground := Ground.data }], guard := none }) (v := (.bool false)) rfl (by kernel_rfl) (by kernel_rfl) (by kernel_rfl) (fun _ _ _ h => h) (Or.inl ⟨by rfl, fun w hSw => (by go_simp)⟩) hH ?_
            simp only [Act.put, List.setIfInBounds_toArray, List.set_cons_zero, List.set_cons_succ]
            refine wpAnyH_take (i := 3) (oi := { dst := some 94, op := Op.move (Operand.tmp 12), type := 3, pos := "law.go:116", after := #[{ on := 2, ground := Ground.guard }], guard := some (2, false) }) (v := (.int .i64 ((i : Nat) : Int))) rfl (by kernel_rfl) (by kernel_rfl) (by kernel_rfl) (fun _ _ _ h => h) (Or.inl ⟨by rfl, fun w hSw => (by go_simp)⟩) hH ?_
            simp only [Act.put, List.setIfInBounds_toArray, List.set_cons_zero, List.set_cons_succ]
            refine wpAnyH_take (i := 4) (oi := { dst := some 95, op := Op.move (Operand.tmp 9), type := 3, pos := "law.go:116", after := #[{ on := 2, ground := Ground.guard }], guard := some (2, false) }) (v := (.int .i64 ((i : Nat) : Int))) rfl (by kernel_rfl) (by kernel_rfl) (by kernel_rfl) (fun _ _ _ h => h) (Or.inl ⟨by rfl, fun w hSw => (by go_simp)⟩) hH ?_
            simp only [Act.put, List.setIfInBounds_toArray, List.set_cons_zero, List.set_cons_succ]
            refine wpAnyH_take (i := 5) (oi := { dst := some 96, op := Op.binOp BinOp.neq 3 (Operand.tmp 94) (Operand.tmp 95) 3, type := 4, pos := "law.go:116", after := #[{ on := 3, ground := Ground.data }, { on := 4, ground := Ground.data }, { on := 2, ground := Ground.guard }], guard := some (2, false) }) (v := (.bool false)) rfl (by kernel_rfl) (by kernel_rfl) (by kernel_rfl) (fun _ _ _ h => h) (Or.inl ⟨by rfl, fun w hSw => (by go_simp)⟩) hH ?_
            simp only [Act.put, List.setIfInBounds_toArray, List.set_cons_zero, List.set_cons_succ]
            refine wpAnyH_take (i := 6) (oi := { dst := some 97, op := Op.pick (Operand.tmp 93) (Operand.const (Value.bool true)) (Operand.tmp 96), type := 4, pos := "law.go:116", after := #[{ on := 2, ground := Ground.data }, { on := 5, ground := Ground.data }], guard := none }) (v := (.bool false)) rfl (by kernel_rfl) (by kernel_rfl) (by kernel_rfl) (fun _ _ _ h => h) (Or.inl ⟨by rfl, fun w hSw => (by go_simp)⟩) hH ?_
            simp only [Act.put, List.setIfInBounds_toArray, List.set_cons_zero, List.set_cons_succ]
            refine wpAnyH_take (i := 7) (oi := { dst := some 98, op := Op.move (Operand.tmp 97), type := 4, pos := "law.go:116", after := #[{ on := 6, ground := Ground.data }, { on := 2, ground := Ground.chain }], guard := none }) (v := (.bool false)) rfl (by kernel_rfl) (by kernel_rfl) (by kernel_rfl) (fun _ _ _ h => h) (Or.inl ⟨by rfl, fun w hSw => (by go_simp)⟩) hH ?_
            simp only [Act.put, List.setIfInBounds_toArray, List.set_cons_zero, List.set_cons_succ]
            refine wpAnyH_take (i := 8) (oi := { dst := some 99, op := Op.move (Operand.tmp 6), type := 4, pos := "law.go:116", after := #[{ on := 7, ground := Ground.guard }], guard := some (7, false) }) (v := (.bool true)) rfl (by kernel_rfl) (by kernel_rfl) (by kernel_rfl) (fun _ _ _ h => h) (Or.inl ⟨by rfl, fun w hSw => (by go_simp)⟩) hH ?_
            simp only [Act.put, List.setIfInBounds_toArray, List.set_cons_zero, List.set_cons_succ]
            refine wpAnyH_take (i := 9) (oi := { dst := some 100, op := Op.move (Operand.tmp 99), type := 4, pos := "law.go:116", after := #[{ on := 8, ground := Ground.data }, { on := 7, ground := Ground.chain }, { on := 7, ground := Ground.guard }], guard := some (7, false) }) (v := (.bool true)) rfl (by kernel_rfl) (by kernel_rfl) (by kernel_rfl) (fun _ _ _ h => h) (Or.inl ⟨by rfl, fun w hSw => (by go_simp)⟩) hH ?_
            simp only [Act.put, List.setIfInBounds_toArray, List.set_cons_zero, List.set_cons_succ]
            refine wpAnyH_take (i := 10) (oi := { dst := some 101, op := Op.move (Operand.tmp 9), type := 3, pos := "law.go:116", after := #[{ on := 9, ground := Ground.guard }], guard := some (9, true) }) (v := (.int .i64 ((i : Nat) : Int))) rfl (by kernel_rfl) (by kernel_rfl) (by kernel_rfl) (fun _ _ _ h => h) (Or.inl ⟨by rfl, fun w hSw => (by go_simp)⟩) hH ?_
            simp only [Act.put, List.setIfInBounds_toArray, List.set_cons_zero, List.set_cons_succ]
            refine wpAnyH_take (i := 11) (oi := { dst := some 102, op := Op.move (Operand.tmp 5), type := 3, pos := "law.go:116", after := #[{ on := 9, ground := Ground.guard }], guard := some (9, true) }) (v := (.int .i64 ((i : Nat) : Int))) rfl (by kernel_rfl) (by kernel_rfl) (by kernel_rfl) (fun _ _ _ h => h) (Or.inl ⟨by rfl, fun w hSw => (by go_simp)⟩) hH ?_
            simp only [Act.put, List.setIfInBounds_toArray, List.set_cons_zero, List.set_cons_succ]
            refine wpAnyH_take (i := 12) (oi := { dst := some 103, op := Op.binOp BinOp.neq 3 (Operand.tmp 101) (Operand.tmp 102) 3, type := 4, pos := "law.go:116", after := #[{ on := 10, ground := Ground.data }, { on := 11, ground := Ground.data }, { on := 9, ground := Ground.guard }], guard := some (9, true) }) (v := (.bool false)) rfl (by kernel_rfl) (by kernel_rfl) (by kernel_rfl) (fun _ _ _ h => h) (Or.inl ⟨by rfl, fun w hSw => (by go_simp)⟩) hH ?_
            simp only [Act.put, List.setIfInBounds_toArray, List.set_cons_zero, List.set_cons_succ]
            refine wpAnyH_take (i := 13) (oi := { dst := some 104, op := Op.pick (Operand.tmp 100) (Operand.tmp 103) (Operand.const (Value.bool false)), type := 4, pos := "law.go:116", after := #[{ on := 9, ground := Ground.data }, { on := 12, ground := Ground.data }, { on := 7, ground := Ground.guard }], guard := some (7, false) }) (v := (.bool false)) rfl (by kernel_rfl) (by kernel_rfl) (by kernel_rfl) (fun _ _ _ h => h) (Or.inl ⟨by rfl, fun w hSw => (by go_simp)⟩) hH ?_
            simp only [Act.put, List.setIfInBounds_toArray, List.set_cons_zero, List.set_cons_succ]
            refine wpAnyH_take (i := 14) (oi := { dst := some 105, op := Op.pick (Operand.tmp 98) (Operand.const (Value.bool true)) (Operand.tmp 104), type := 4, pos := "law.go:116", after := #[{ on := 7, ground := Ground.data }, { on := 13, ground := Ground.data }], guard := none }) (v := (.bool false)) rfl (by kernel_rfl) (by kernel_rfl) (by kernel_rfl) (fun _ _ _ h => h) (Or.inl ⟨by rfl, fun w hSw => (by go_simp)⟩) hH ?_
            simp only [Act.put, List.setIfInBounds_toArray, List.set_cons_zero, List.set_cons_succ]
            refine wpAnyH_take (i := 15) (oi := { dst := some 106, op := Op.move (Operand.tmp 105), type := 4, pos := "law.go:116", after := #[{ on := 14, ground := Ground.data }, { on := 9, ground := Ground.chain }], guard := none }) (v := (.bool false)) rfl (by kernel_rfl) (by kernel_rfl) (by kernel_rfl) (fun _ _ _ h => h) (Or.inl ⟨by rfl, fun w hSw => (by go_simp)⟩) hH ?_
            simp only [Act.put, List.setIfInBounds_toArray, List.set_cons_zero, List.set_cons_succ]
            refine wpAnyH_take (i := 16) (oi := { dst := some 107, op := Op.load 25 (Operand.tmp 11), type := 25, pos := "law.go:116", after := #[{ on := 15, ground := Ground.guard }], guard := some (15, false) }) (v := (.agg #[.slice a7 n7 c7, .slice a7' n7 c7'])) rfl (by kernel_rfl) (by kernel_rfl) (by kernel_rfl) (fun _ _ _ h => h) (Or.inl ⟨by rfl, fun w hSw => (by obtain ⟨⟨k0, k1⟩, k2, k3⟩ := hSw; go_simp)⟩) hH ?_
            simp only [Act.put, List.setIfInBounds_toArray, List.set_cons_zero, List.set_cons_succ]
            refine wpAnyH_take (i := 18) (oi := { dst := some 109, op := Op.load 25 (Operand.tmp 8), type := 25, pos := "law.go:116", after := #[{ on := 15, ground := Ground.guard }], guard := some (15, false) }) (v := (.agg #[.slice a6 n6 c6, .slice a6' n6 c6'])) rfl (by kernel_rfl) (by kernel_rfl) (by kernel_rfl) (fun _ _ _ h => h) (Or.inl ⟨by rfl, fun w hSw => (by obtain ⟨⟨k0, k1⟩, k2, k3⟩ := hSw; go_simp)⟩) hH ?_
            simp only [Act.put, List.setIfInBounds_toArray, List.set_cons_zero, List.set_cons_succ]
            refine wpAnyH_ready (rs := [17]) (by kernel_rfl) (by simp) ?_
            refine AllReadyH.cons (o := { dst := some 108, op := Op.call { callee := Callee.value (Operand.func 21), args := #[Operand.tmp 107], argTypes := #[25] }, type := 3, pos := "law.go:116", after := #[{ on := 16, ground := Ground.data }, { on := 15, ground := Ground.chain }, { on := 15, ground := Ground.guard }], guard := some (15, false) }) rfl (fun K hK => ?_) AllReadyH.nil
            go_simp
            refine (used_any (hTB.out W7.drew ((Below.refl W7.heap.size W7).drew))).mono ?_
            rintro e w8 ⟨rfl, hbw8⟩
            rw [hu2.out]
            have Nw8 : Hid (Below W7.heap.size W7 w8) := Below.trans ((Below.refl W7.heap.size W7).drew) (hbw8.mono (Below.size ((Below.refl W7.heap.size W7).drew)))
            have hH8 := hcl.out w8 Nw8.out
            refine hK _ _ hH8 (fun _ => ?_)
            clear hK K
            refine wpAnyH_ready (rs := [19]) (by kernel_rfl) (by simp) ?_
            refine AllReadyH.cons (o := { dst := some 110, op := Op.call { callee := Callee.value (Operand.func 21), args := #[Operand.tmp 109], argTypes := #[25] }, type := 3, pos := "law.go:116", after := #[{ on := 18, ground := Ground.data }, { on := 17, ground := Ground.chain }, { on := 15, ground := Ground.guard }], guard := some (15, false) }) rfl (fun K hK => ?_) AllReadyH.nil
            go_simp
            refine (used_any (hTA7.out w8 Nw8.out)).mono ?_
            rintro e w9 ⟨rfl, hbw9⟩
            rw [hu1.out]
            have Nw9 : Hid (Below W7.heap.size W7 w9) := Below.trans Nw8.out (hbw9.mono (Below.size Nw8.out))
            have hH9 := hcl.out w9 Nw9.out
            refine hK _ _ hH9 (fun _ => ?_)
            clear hK K
            refine wpAnyH_take (i := 20) (oi := { dst := some 111, op := Op.binOp BinOp.neq 3 (Operand.tmp 108) (Operand.tmp 110) 3, type := 4, pos := "law.go:116", after := #[{ on := 17, ground := Ground.data }, { on := 19, ground := Ground.data }, { on := 15, ground := Ground.guard }], guard := some (15, false) }) (v := (.bool false)) rfl (by kernel_rfl) (by kernel_rfl) (by kernel_rfl) (fun _ _ _ h => h) (Or.inl ⟨by rfl, fun w hSw => (by go_simp)⟩) hH9 ?_
            simp only [Act.put, List.setIfInBounds_toArray, List.set_cons_zero, List.set_cons_succ]
            refine wpAnyH_take (i := 21) (oi := { dst := some 112, op := Op.pick (Operand.tmp 106) (Operand.const (Value.bool true)) (Operand.tmp 111), type := 4, pos := "law.go:116", after := #[{ on := 15, ground := Ground.data }, { on := 20, ground := Ground.data }], guard := none }) (v := (.bool false)) rfl (by kernel_rfl) (by kernel_rfl) (by kernel_rfl) (fun _ _ _ h => h) (Or.inl ⟨by rfl, fun w hSw => (by go_simp)⟩) hH9 ?_
            simp only [Act.put, List.setIfInBounds_toArray, List.set_cons_zero, List.set_cons_succ]
            refine wpAnyH_take (i := 22) (oi := { dst := some 113, op := Op.move (Operand.tmp 112), type := 4, pos := "law.go:116", after := #[{ on := 21, ground := Ground.data }, { on := 19, ground := Ground.chain }], guard := none }) (v := (.bool false)) rfl (by kernel_rfl) (by kernel_rfl) (by kernel_rfl) (fun _ _ _ h => h) (Or.inl ⟨by rfl, fun w hSw => (by go_simp)⟩) hH9 ?_
            simp only [Act.put, List.setIfInBounds_toArray, List.set_cons_zero, List.set_cons_succ]
            refine wpAnyH_take (i := 23) (oi := { dst := some 114, op := Op.move (Operand.tmp 6), type := 4, pos := "law.go:116", after := #[{ on := 22, ground := Ground.guard }], guard := some (22, false) }) (v := (.bool true)) rfl (by kernel_rfl) (by kernel_rfl) (by kernel_rfl) (fun _ _ _ h => h) (Or.inl ⟨by rfl, fun w hSw => (by go_simp)⟩) hH9 ?_
            simp only [Act.put, List.setIfInBounds_toArray, List.set_cons_zero, List.set_cons_succ]
            refine wpAnyH_take (i := 24) (oi := { dst := some 115, op := Op.unOp UnOp.not 4 (Operand.tmp 114), type := 4, pos := "law.go:116", after := #[{ on := 23, ground := Ground.data }, { on := 22, ground := Ground.guard }], guard := some (22, false) }) (v := (.bool false)) rfl (by kernel_rfl) (by kernel_rfl) (by kernel_rfl) (fun _ _ _ h => h) (Or.inl ⟨by rfl, fun w hSw => (by go_simp)⟩) hH9 ?_
            simp only [Act.put, List.setIfInBounds_toArray, List.set_cons_zero, List.set_cons_succ]
            refine wpAnyH_take (i := 25) (oi := { dst := some 116, op := Op.move (Operand.tmp 115), type := 4, pos := "law.go:116", after := #[{ on := 24, ground := Ground.data }, { on := 22, ground := Ground.chain }, { on := 22, ground := Ground.guard }], guard := some (22, false) }) (v := (.bool false)) rfl (by kernel_rfl) (by kernel_rfl) (by kernel_rfl) (fun _ _ _ h => h) (Or.inl ⟨by rfl, fun w hSw => (by go_simp)⟩) hH9 ?_
            simp only [Act.put, List.setIfInBounds_toArray, List.set_cons_zero, List.set_cons_succ]
            refine wpAnyH_take (i := 26) (oi := { dst := some 117, op := Op.load 25 (Operand.tmp 8), type := 25, pos := "law.go:116", after := #[{ on := 25, ground := Ground.guard }], guard := some (25, true) }) (v := undef) rfl (by kernel_rfl) (by kernel_rfl) (by kernel_rfl) (fun _ _ _ h => h) (Or.inr ⟨by rfl, rfl⟩) hH9 ?_
            simp only [Act.put, List.setIfInBounds_toArray, List.set_cons_zero, List.set_cons_succ]
            refine wpAnyH_take (i := 28) (oi := { dst := some 119, op := Op.move (Operand.tmp 7), type := 3, pos := "law.go:116", after := #[{ on := 25, ground := Ground.guard }], guard := some (25, true) }) (v := undef) rfl (by kernel_rfl) (by kernel_rfl) (by kernel_rfl) (fun _ _ _ h => h) (Or.inr ⟨by rfl, rfl⟩) hH9 ?_
            simp only [Act.put, List.setIfInBounds_toArray, List.set_cons_zero, List.set_cons_succ]
            refine wpAnyH_take (i := 29) (oi := { dst := some 120, op := Op.binOp BinOp.add 3 (Operand.tmp 119) (Operand.const (Value.int IntKind.i64 1)) 3, type := 3, pos := "law.go:116", after := #[{ on := 28, ground := Ground.data }, { on := 25, ground := Ground.guard }], guard := some (25, true) }) (v := undef) rfl (by kernel_rfl) (by kernel_rfl) (by kernel_rfl) (fun _ _ _ h => h) (Or.inr ⟨by rfl, rfl⟩) hH9 ?_
            simp only [Act.put, List.setIfInBounds_toArray, List.set_cons_zero, List.set_cons_succ]
            refine wpAnyH_ready (rs := [27]) (by kernel_rfl) (by simp) ?_
            refine AllReadyH.cons (o := { dst := some 118, op := Op.call { callee := Callee.value (Operand.func 21), args := #[Operand.tmp 117], argTypes := #[25] }, type := 3, pos := "law.go:116", after := #[{ on := 26, ground := Ground.data }, { on := 25, ground := Ground.chain }, { on := 25, ground := Ground.guard }], guard := some (25, true) }) rfl (fun K hK => ?_) AllReadyH.nil
            go_simp
            refine hK _ _ hH9 (fun _ => ?_)
            clear hK K
            refine wpAnyH_take (i := 30) (oi := { dst := some 121, op := Op.binOp BinOp.neq 3 (Operand.tmp 118) (Operand.tmp 120) 3, type := 4, pos := "law.go:116", after := #[{ on := 27, ground := Ground.data }, { on := 29, ground := Ground.data }, { on := 25, ground := Ground.guard }], guard := some (25, true) }) (v := undef) rfl (by kernel_rfl) (by kernel_rfl) (by kernel_rfl) (fun _ _ _ h => h) (Or.inr ⟨by rfl, rfl⟩) hH9 ?_
            simp only [Act.put, List.setIfInBounds_toArray, List.set_cons_zero, List.set_cons_succ]
            refine wpAnyH_take (i := 31) (oi := { dst := some 122, op := Op.pick (Operand.tmp 116) (Operand.tmp 121) (Operand.const (Value.bool false)), type := 4, pos := "law.go:116", after := #[{ on := 25, ground := Ground.data }, { on := 30, ground := Ground.data }, { on := 22, ground := Ground.guard }], guard := some (22, false) }) (v := (.bool false)) rfl (by kernel_rfl) (by kernel_rfl) (by kernel_rfl) (fun _ _ _ h => h) (Or.inl ⟨by rfl, fun w hSw => (by go_simp)⟩) hH9 ?_
            simp only [Act.put, List.setIfInBounds_toArray, List.set_cons_zero, List.set_cons_succ]
            refine wpAnyH_take (i := 32) (oi := { dst := some 123, op := Op.pick (Operand.tmp 113) (Operand.const (Value.bool true)) (Operand.tmp 122), type := 4, pos := "law.go:116", after := #[{ on := 22, ground := Ground.data }, { on := 31, ground := Ground.data }], guard := none }) (v := (.bool false)) rfl (by kernel_rfl) (by kernel_rfl) (by kernel_rfl) (fun _ _ _ h => h) (Or.inl ⟨by rfl, fun w hSw => (by go_simp)⟩) hH9 ?_
            simp only [Act.put, List.setIfInBounds_toArray, List.set_cons_zero, List.set_cons_succ]
            refine wpAnyH_done (by kernel_rfl) ?_ _
            go_wp2
            go_meet
            exact ⟨rfl, Nw9.out⟩
          case rest =>
            obtain ⟨rfl, hcW⟩ := hcut
            have CW : Hid (Below W7.heap.size W7 wc) := hcW
            have DW : Hid (Below W0.heap.size W0 wc) := D7.out.trans (hcW.mono D7.out.size)
            obtain ⟨⟨y70, y71⟩, y72, y73⟩ := hcl.out wc CW.out
            clear hcW
            go_upto_region 16 with (go_at_call 14; refine (tdrop_any ((i : Nat) : Int) (hTA7.out wc CW.out) HF1.out).mono ?_; rintro e w10 ⟨a10, n10, c10, a10', c10', rfl, hT10, hb10⟩; rw [hback.out] at hT10 ⊢)
            have hB10 : Below w10.heap.size w10 (w10.alloc (.cells #[.slice a10 n10 c10, .slice a10' n10 c10'] 25)) := (Below.refl _ _).alloc (Nat.le_refl _) _
            have t10 := Two.new w10 25 (.slice a10 n10 c10) (.slice a10' n10 c10')
            have TC := hT10.next hB10
            obtain ⟨W10, hW10⟩ : ∃ W10, Hid (w10.alloc (.cells #[.slice a10 n10 c10, .slice a10' n10 c10'] 25) = W10) := ⟨_, rfl⟩
            rw [hW10.out] at hB10 t10 TC ⊢
            clear hW10 hT10
            have D10 : Hid (Below W0.heap.size W0 W10) := (DW.out.trans (hb10.mono DW.out.size)).trans (hB10.mono (Nat.le_trans DW.out.size hb10.size))
            obtain ⟨u0, u1⟩ := hbx.out W10 D10.out
            have v0 := t10.cell0
            have v1 := t10.cell1
            have heq := eqT_refl (Z.map (·.1)) (Z.map (·.2))
            have TT : Hid (Tab W10 _ nc0 cap0 _ capc0 Z) := hTW.out W10 D10.out
            clear y70 y71 y72 y73
            go_wp2_with (first | (go_at_call 10; refine (tsame_any TC.tab TT.out (fun b h => h) (fun b h => h)).mono ?_; rintro e w11 ⟨rfl, hb11⟩; rw [heq]) | (go_at_call 7; refine (awake_any _).mono ?_; rintro e w12 ⟨rfl, hb12⟩))
            go_ret
            exact ⟨rfl, hE.out _ ((D10.out.trans (hb11.mono D10.out.size)).trans (hb12.mono (Nat.le_trans D10.out.size hb11.size)))⟩
        | none =>
          have hN : Hid (fN Z L1 = 0) := by unfold Hid fN; rw [hfnd]; rfl
          have hFF : Hid (fF Z L1 = false) := by unfold Hid fF; rw [hfnd]; rfl
          obtain ⟨u, hu⟩ : ∃ u, Hid (usd Z = u) := ⟨_, rfl⟩
          by_cases hf64 : free Z = 64
          · have hadd : Hid (addR Z L1 = (Z, 0, 6)) := addR_none hkb.out hfnd hf64
            have hu64 : Hid (u = 64) := by unfold Hid; rw [← hu.out]; exact usd_full HF.out hf64
            obtain rfl := hu64.out
            have heq := eqT_refl (Z.map (·.1)) (Z.map (·.2))
            go_upto_region 11 with (first | (go_at_call 6; refine (few_any hT0 (fun b h => h)).mono ?_; rintro e w1 ⟨rfl, hb1⟩; rw [hfew.out]; have B1 : Hid (Below W0.heap.size W0 w1) := hb1; obtain ⟨x0, x1⟩ := hbx.out w1 B1.out) | (go_at_call 9; refine (rtfit_any (hTW.out w1 B1.out)).mono ?_; rintro e w2 ⟨rfl, hb2⟩; rw [hfit.out]; have B2 : Hid (Below W0.heap.size W0 w2) := B1.out.trans (hb2.mono B1.out.size); obtain ⟨y0, y1⟩ := hbx.out w2 B2.out) | (go_at_call 23; refine (rlfit_any (hLW.out w2 B2.out) (Nat.le_refl _)).mono ?_; rintro e w3 ⟨rfl, hb3⟩; rw [hlf.out]; have B3 : Hid (Below W0.heap.size W0 w3) := B2.out.trans (hb3.mono B2.out.size); obtain ⟨z0, z1⟩ := hbx.out w3 B3.out) | (go_at_call 18; refine (find_any (hTW.out w3 B3.out) (hLW.out w3 B3.out)).mono ?_; rintro e w4 ⟨rfl, hb4⟩; rw [hN.out, hFF.out]; have B4 : Hid (Below W0.heap.size W0 w4) := B3.out.trans (hb4.mono B3.out.size); obtain ⟨s0, s1⟩ := hbx.out w4 B4.out) | (go_at_call 21; refine (used_any (hTW.out w4 B4.out)).mono ?_; rintro e w5 ⟨rfl, hb5⟩; rw [hu.out]; have B5 : Hid (Below W0.heap.size W0 w5) := B4.out.trans (hb5.mono B4.out.size); obtain ⟨p0, p1⟩ := hbx.out w5 B5.out) | (go_at_call 12; refine (tadd_any (hTW.out w5 B5.out) HF.out (hLW.out w5 B5.out) (by omega)).mono ?_; rintro e w6 ⟨a6, n6, c6, a6', c6', rfl, hT6, hb6⟩; rw [hadd.out] at hT6 ⊢; have B6 : Hid (Below W0.heap.size W0 w6) := B5.out.trans (hb6.mono B5.out.size)))
            have hB6 : Below w6.heap.size w6 (w6.alloc (.cells #[.slice a6 n6 c6, .slice a6' n6 c6'] 25)) := (Below.refl _ _).alloc (Nat.le_refl _) _
            have t6 := Two.new w6 25 (.slice a6 n6 c6) (.slice a6' n6 c6')
            have TA6 := hT6.next hB6
            obtain ⟨W6, hW6⟩ : ∃ W6, Hid (w6.alloc (.cells #[.slice a6 n6 c6, .slice a6' n6 c6'] 25) = W6) := ⟨_, rfl⟩
            rw [hW6.out] at hB6 t6 TA6 ⊢
            clear hW6 hT6
            have C6 : Hid (Below W0.heap.size W0 W6) := B6.out.trans (hB6.mono B6.out.size)
            have a60 := t6.cell0
            have a61 := t6.cell1
            obtain ⟨u0, u1⟩ := hbx.out W6 C6.out
            go_wp2_with (first | (go_at_call 10; refine (tsame_any TA6.tab (hTW.out W6 C6.out) (fun b h => h) (fun b h => h)).mono ?_; rintro e w11 ⟨rfl, hb11⟩; rw [heq]) | (go_at_call 7; refine (awake_any _).mono ?_; rintro e w12 ⟨rfl, hb12⟩))
            go_ret
            exact ⟨rfl, hE.out _ ((C6.out.trans (hb11.mono C6.out.size)).trans (hb12.mono (Nat.le_trans C6.out.size hb11.size)))⟩
          · have hul : u < 64 := by rw [← hu.out]; exact usd_room HF.out hf64
            have hul' : ((u : Nat) : Int) < 64 := by omega
            have hadd0 : Hid (addR Z L1 = (putAt Z (free Z) (L1, 1), ((free Z : Nat) : Int), 0)) := addR_new hkb.out hfnd hf64
            have hf1 : Hid (fnd (putAt Z (free Z) (L1, 1)) L1 = some (free Z)) := new_find hfnd
            have hu1 : Hid (usd (putAt Z (free Z) (L1, 1)) = usd Z + 1) := new_used
            have hz1 : Hid (zat (putAt Z (free Z) (L1, 1)) (free Z) = (L1, 1)) := by unfold Hid; rw [zat_putAt (free_le Z), if_pos rfl]
            have hback : Hid (dropR (putAt Z (free Z) (L1, 1)) ((free Z : Nat) : Int) = (Z, 0)) := new_back HF.out
            have HF1 : Hid (FitP (putAt Z (free Z) (L1, 1))) := by have := fit_add (l := L1) HF.out; rw [hadd0.out] at this; exact this
            have hlp : free Z < (putAt Z (free Z) (L1, 1)).length := (fnd_some.1 hf1.out).1
            have hadd2 : Hid (addR (putAt Z (free Z) (L1, 1)) L1 = ((putAt Z (free Z) (L1, 1)).set (free Z) (L1, 1 + 1), ((free Z : Nat) : Int), 0)) := by unfold Hid; rw [addR_more hkb.out hf1.out (by rw [hz1.out]; show (1 : Int) ≠ 1073741824; omega), hz1.out]
            have hu2 : Hid (usd ((putAt Z (free Z) (L1, 1)).set (free Z) (L1, 1 + 1)) = usd Z + 1) := by unfold Hid; rw [usd_set hlp (by rw [hz1.out]; show (1 : Int) ≠ 0; omega) (by show (1 : Int) + 1 ≠ 0; omega), hu1.out]
            obtain ⟨Z1, hZ1⟩ : ∃ Z1, Hid (putAt Z (free Z) (L1, 1) = Z1) := ⟨_, rfl⟩
            obtain ⟨Z2, hZ2⟩ : ∃ Z2, Hid ((putAt Z (free Z) (L1, 1)).set (free Z) (L1, 1 + 1) = Z2) := ⟨_, rfl⟩
            obtain ⟨i, hfi⟩ : ∃ i, Hid (free Z = i) := ⟨_, rfl⟩
            rw [hZ2.out, hZ1.out, hfi.out] at hadd2
            rw [hZ2.out] at hu2
            rw [hZ1.out, hfi.out] at hadd0 hback
            rw [hZ1.out] at hu1 HF1
            have hadd : Hid (addR Z L1 = (Z1, ((i : Nat) : Int), 0)) := hadd0
            rw [hu.out] at hu1 hu2
            have hw1 : IntKind.i64.wrap (((u : Nat) : Int) + 1) = ((u + 1 : Nat) : Int) := by rw [IntKind.wrap_i64]; omega
            clear hadd0 hf1 hz1 hZ1 hZ2 hfnd hf64 hfi hlp
            go_upto_region 12 with (first | (go_at_call 6; refine (few_any hT0 (fun b h => h)).mono ?_; rintro e w1 ⟨rfl, hb1⟩; rw [hfew.out]; have B1 : Hid (Below W0.heap.size W0 w1) := hb1; obtain ⟨x0, x1⟩ := hbx.out w1 B1.out) | (go_at_call 9; refine (rtfit_any (hTW.out w1 B1.out)).mono ?_; rintro e w2 ⟨rfl, hb2⟩; rw [hfit.out]; have B2 : Hid (Below W0.heap.size W0 w2) := B1.out.trans (hb2.mono B1.out.size); obtain ⟨y0, y1⟩ := hbx.out w2 B2.out) | (go_at_call 23; refine (rlfit_any (hLW.out w2 B2.out) (Nat.le_refl _)).mono ?_; rintro e w3 ⟨rfl, hb3⟩; rw [hlf.out]; have B3 : Hid (Below W0.heap.size W0 w3) := B2.out.trans (hb3.mono B2.out.size); obtain ⟨z0, z1⟩ := hbx.out w3 B3.out) | (go_at_call 18; refine (find_any (hTW.out w3 B3.out) (hLW.out w3 B3.out)).mono ?_; rintro e w4 ⟨rfl, hb4⟩; rw [hN.out, hFF.out]; have B4 : Hid (Below W0.heap.size W0 w4) := B3.out.trans (hb4.mono B3.out.size); obtain ⟨s0, s1⟩ := hbx.out w4 B4.out) | (go_at_call 21; refine (used_any (hTW.out w4 B4.out)).mono ?_; rintro e w5 ⟨rfl, hb5⟩; rw [hu.out]; have B5 : Hid (Below W0.heap.size W0 w5) := B4.out.trans (hb5.mono B4.out.size); obtain ⟨p0, p1⟩ := hbx.out w5 B5.out) | (go_at_call 12; refine (tadd_any (hTW.out w5 B5.out) HF.out (hLW.out w5 B5.out) (by omega)).mono ?_; rintro e w6 ⟨a6, n6, c6, a6', c6', rfl, hT6, hb6⟩; rw [hadd.out] at hT6 ⊢; have B6 : Hid (Below W0.heap.size W0 w6) := B5.out.trans (hb6.mono B5.out.size)))
            have hB6 : Below w6.heap.size w6 (w6.alloc (.cells #[.slice a6 n6 c6, .slice a6' n6 c6'] 25)) := (Below.refl _ _).alloc (Nat.le_refl _) _
            have t6 := Two.new w6 25 (.slice a6 n6 c6) (.slice a6' n6 c6')
            have TA6 := hT6.next hB6
            obtain ⟨W6, hW6⟩ : ∃ W6, Hid (w6.alloc (.cells #[.slice a6 n6 c6, .slice a6' n6 c6'] 25) = W6) := ⟨_, rfl⟩
            rw [hW6.out] at hB6 t6 TA6 ⊢
            clear hW6 hT6
            have C6 : Hid (Below W0.heap.size W0 W6) := B6.out.trans (hB6.mono B6.out.size)
            have a60 := t6.cell0
            have a61 := t6.cell1
            go_upto_region 13 with (go_at_call 12; refine (tadd_any TA6.tab HF1.out (hLW.out W6 C6.out) (by omega)).mono ?_; rintro e w7 ⟨a7, n7, c7, a7', c7', rfl, hT7, hb7⟩; rw [hadd2.out] at hT7 ⊢)
            have hB7 : Below w7.heap.size w7 (w7.alloc (.cells #[.slice a7 n7 c7, .slice a7' n7 c7'] 25)) := (Below.refl _ _).alloc (Nat.le_refl _) _
            have t7 := Two.new w7 25 (.slice a7 n7 c7) (.slice a7' n7 c7')
            have TB7 := hT7.next hB7
            obtain ⟨W7, hW7⟩ : ∃ W7, Hid (w7.alloc (.cells #[.slice a7 n7 c7, .slice a7' n7 c7'] 25) = W7) := ⟨_, rfl⟩
            rw [hW7.out] at hB7 t7 TB7 ⊢
            clear hW7 hT7
            have C7 : Hid (Below W6.heap.size W6 W7) := hb7.trans (hB7.mono hb7.size)
            have D7 : Hid (Below W0.heap.size W0 W7) := C6.out.trans (C7.out.mono C6.out.size)
            have t6' : Two W7 w6.heap.size 25 (.slice a6 n6 c6) (.slice a6' n6 c6') := (C7.out.block _ t6.lt).trans t6
            have hcl : Hid (∀ W, Below W7.heap.size W7 W → (W.cell? ⟨w7.heap.size, 0, none⟩ = some (.slice a7 n7 c7) ∧ W.cell? ⟨w7.heap.size, 1, none⟩ = some (.slice a7' n7 c7')) ∧ W.cell? ⟨w6.heap.size, 0, none⟩ = some (.slice a6 n6 c6) ∧ W.cell? ⟨w6.heap.size, 1, none⟩ = some (.slice a6' n6 c6')) := fun W hb =>
              ⟨⟨(hb.cell (p := ⟨w7.heap.size, 0, none⟩) t7.lt).trans t7.cell0, (hb.cell (p := ⟨w7.heap.size, 1, none⟩) t7.lt).trans t7.cell1⟩, (hb.cell (p := ⟨w6.heap.size, 0, none⟩) t6'.lt).trans t6'.cell0, (hb.cell (p := ⟨w6.heap.size, 1, none⟩) t6'.lt).trans t6'.cell1⟩
            have hTB : Hid (∀ W, Below W7.heap.size W7 W → Tab W a7 n7 c7 a7' c7' Z2) := fun W hb => (TB7.next hb).tab
            have TA7 : Hid (TabN W7 a6 n6 c6 a6' c6' Z1) := TA6.next C7.out
            have hTA7 : Hid (∀ W, Below W7.heap.size W7 W → Tab W a6 n6 c6 a6' c6' Z1) := fun W hb => (TA7.out.next hb).tab
            clear t6 t7 t6' TA6 TB7 a60 a61
            go_cut [123] (fun s wc => s = .bool false ∧ Below W7.heap.size W7 wc)
            case first =>
              obtain ⟨⟨x70, x71⟩, x72, x73⟩ := hcl.out W7 (Below.refl _ _)
              refine wp_region_held_drew (S := (fun w' => (w'.cell? ⟨w7.heap.size, 0, none⟩ = some (.slice a7 n7 c7) ∧ w'.cell? ⟨w7.heap.size, 1, none⟩ = some (.slice a7' n7 c7')) ∧ w'.cell? ⟨w6.heap.size, 0, none⟩ = some (.slice a6 n6 c6) ∧ w'.cell? ⟨w6.heap.size, 1, none⟩ = some (.slice a6' n6 c6'))) (by kernel_rfl) ⟨⟨x70, x71⟩, x72, x73⟩ (fun hH => ?_)
              refine wpAnyH_take (i := 0) (oi := { dst := some 91, op := Op.move (Operand.tmp 13), type := 31, pos := "law.go:116", after := #[], guard := none }) (v := (.int .i64 0)) rfl (by kernel_rfl) (by kernel_rfl) (by kernel_rfl) (fun _ _ _ h => h) (Or.inl ⟨by rfl, fun w hSw => (by go_simp)⟩) hH ?_
              simp only [Act.put, List.setIfInBounds_toArray, List.set_cons_zero, List.set_cons_succ]
              refine wpAnyH_take (i := 1) (oi := { dst := some 92, op := Op.binOp BinOp.neq 31 (Operand.tmp 91) (Operand.const (Value.int IntKind.i64 0)) 31, type := 4, pos := "law.go:116", after := #[{ on := 0, ground := Ground.data }], guard := none }) (v := (.bool false)) rfl (by kernel_rfl) (by kernel_rfl) (by kernel_rfl) (fun _ _ _ h => h) (Or.inl ⟨by rfl, fun w hSw => (by go_simp)⟩) hH ?_
              simp only [Act.put, List.setIfInBounds_toArray, List.set_cons_zero, List.set_cons_succ]
              refine wpAnyH_take (i := 2) (oi := { dst := some 93, op := Op.move (Operand.tmp 92), type := 4, pos := "law.go:116", after := #[{ on := 1, ground := Ground.data }], guard := none }) (v := (.bool false)) rfl (by kernel_rfl) (by kernel_rfl) (by kernel_rfl) (fun _ _ _ h => h) (Or.inl ⟨by rfl, fun w hSw => (by go_simp)⟩) hH ?_
              simp only [Act.put, List.setIfInBounds_toArray, List.set_cons_zero, List.set_cons_succ]
              refine wpAnyH_take (i := 3) (oi := { dst := some 94, op := Op.move (Operand.tmp 12), type := 3, pos := "law.go:116", after := #[{ on := 2, ground := Ground.guard }], guard := some (2, false) }) (v := (.int .i64 ((i : Nat) : Int))) rfl (by kernel_rfl) (by kernel_rfl) (by kernel_rfl) (fun _ _ _ h => h) (Or.inl ⟨by rfl, fun w hSw => (by go_simp)⟩) hH ?_
              simp only [Act.put, List.setIfInBounds_toArray, List.set_cons_zero, List.set_cons_succ]
              refine wpAnyH_take (i := 4) (oi := { dst := some 95, op := Op.move (Operand.tmp 9), type := 3, pos := "law.go:116", after := #[{ on := 2, ground := Ground.guard }], guard := some (2, false) }) (v := (.int .i64 ((i : Nat) : Int))) rfl (by kernel_rfl) (by kernel_rfl) (by kernel_rfl) (fun _ _ _ h => h) (Or.inl ⟨by rfl, fun w hSw => (by go_simp)⟩) hH ?_
              simp only [Act.put, List.setIfInBounds_toArray, List.set_cons_zero, List.set_cons_succ]
              refine wpAnyH_take (i := 5) (oi := { dst := some 96, op := Op.binOp BinOp.neq 3 (Operand.tmp 94) (Operand.tmp 95) 3, type := 4, pos := "law.go:116", after := #[{ on := 3, ground := Ground.data }, { on := 4, ground := Ground.data }, { on := 2, ground := Ground.guard }], guard := some (2, false) }) (v := (.bool false)) rfl (by kernel_rfl) (by kernel_rfl) (by kernel_rfl) (fun _ _ _ h => h) (Or.inl ⟨by rfl, fun w hSw => (by go_simp)⟩) hH ?_
              simp only [Act.put, List.setIfInBounds_toArray, List.set_cons_zero, List.set_cons_succ]
              refine wpAnyH_take (i := 6) (oi := { dst := some 97, op := Op.pick (Operand.tmp 93) (Operand.const (Value.bool true)) (Operand.tmp 96), type := 4, pos := "law.go:116", after := #[{ on := 2, ground := Ground.data }, { on := 5, ground := Ground.data }], guard := none }) (v := (.bool false)) rfl (by kernel_rfl) (by kernel_rfl) (by kernel_rfl) (fun _ _ _ h => h) (Or.inl ⟨by rfl, fun w hSw => (by go_simp)⟩) hH ?_
              simp only [Act.put, List.setIfInBounds_toArray, List.set_cons_zero, List.set_cons_succ]
              refine wpAnyH_take (i := 7) (oi := { dst := some 98, op := Op.move (Operand.tmp 97), type := 4, pos := "law.go:116", after := #[{ on := 6, ground := Ground.data }, { on := 2, ground := Ground.chain }], guard := none }) (v := (.bool false)) rfl (by kernel_rfl) (by kernel_rfl) (by kernel_rfl) (fun _ _ _ h => h) (Or.inl ⟨by rfl, fun w hSw => (by go_simp)⟩) hH ?_
              simp only [Act.put, List.setIfInBounds_toArray, List.set_cons_zero, List.set_cons_succ]
              refine wpAnyH_take (i := 8) (oi := { dst := some 99, op := Op.move (Operand.tmp 6), type := 4, pos := "law.go:116", after := #[{ on := 7, ground := Ground.guard }], guard := some (7, false) }) (v := (.bool false)) rfl (by kernel_rfl) (by kernel_rfl) (by kernel_rfl) (fun _ _ _ h => h) (Or.inl ⟨by rfl, fun w hSw => (by go_simp)⟩) hH ?_
              simp only [Act.put, List.setIfInBounds_toArray, List.set_cons_zero, List.set_cons_succ]
              refine wpAnyH_take (i := 9) (oi := { dst := some 100, op := Op.move (Operand.tmp 99), type := 4, pos := "law.go:116", after := #[{ on := 8, ground := Ground.data }, { on := 7, ground := Ground.chain }, { on := 7, ground := Ground.guard }], guard := some (7, false) }) (v := (.bool false)) rfl (by kernel_rfl) (by kernel_rfl) (by kernel_rfl) (fun _ _ _ h => h) (Or.inl ⟨by rfl, fun w hSw => (by go_simp)⟩) hH ?_
              simp only [Act.put, List.setIfInBounds_toArray, List.set_cons_zero, List.set_cons_succ]
              refine wpAnyH_take (i := 10) (oi := { dst := some 101, op := Op.move (Operand.tmp 9), type := 3, pos := "law.go:116", after := #[{ on := 9, ground := Ground.guard }], guard := some (9, true) }) (v := undef) rfl (by kernel_rfl) (by kernel_rfl) (by kernel_rfl) (fun _ _ _ h => h) (Or.inr ⟨by rfl, rfl⟩) hH ?_
              simp only [Act.put, List.setIfInBounds_toArray, List.set_cons_zero, List.set_cons_succ]
              refine wpAnyH_take (i := 11) (oi := { dst := some 102, op := Op.move (Operand.tmp 5), type := 3, pos := "law.go:116", after := #[{ on := 9, ground := Ground.guard }], guard := some (9, true) }) (v := undef) rfl (by kernel_rfl) (by kernel_rfl) (by kernel_rfl) (fun _ _ _ h => h) (Or.inr ⟨by rfl, rfl⟩) hH ?_
              simp only [Act.put, List.setIfInBounds_toArray, List.set_cons_zero, List.set_cons_succ]
              refine wpAnyH_take (i := 12) (oi := { dst := some 103, op := Op.binOp BinOp.neq 3 (Operand.tmp 101) (Operand.tmp 102) 3, type := 4, pos := "law.go:116", after := #[{ on := 10, ground := Ground.data }, { on := 11, ground := Ground.data }, { on := 9, ground := Ground.guard }], guard := some (9, true) }) (v := undef) rfl (by kernel_rfl) (by kernel_rfl) (by kernel_rfl) (fun _ _ _ h => h) (Or.inr ⟨by rfl, rfl⟩) hH ?_
              simp only [Act.put, List.setIfInBounds_toArray, List.set_cons_zero, List.set_cons_succ]
              refine wpAnyH_take (i := 13) (oi := { dst := some 104, op := Op.pick (Operand.tmp 100) (Operand.tmp 103) (Operand.const (Value.bool false)), type := 4, pos := "law.go:116", after := #[{ on := 9, ground := Ground.data }, { on := 12, ground := Ground.data }, { on := 7, ground := Ground.guard }], guard := some (7, false) }) (v := (.bool false)) rfl (by kernel_rfl) (by kernel_rfl) (by kernel_rfl) (fun _ _ _ h => h) (Or.inl ⟨by rfl, fun w hSw => (by go_simp)⟩) hH ?_
              simp only [Act.put, List.setIfInBounds_toArray, List.set_cons_zero, List.set_cons_succ]
              refine wpAnyH_take (i := 14) (oi := { dst := some 105, op := Op.pick (Operand.tmp 98) (Operand.const (Value.bool true)) (Operand.tmp 104), type := 4, pos := "law.go:116", after := #[{ on := 7, ground := Ground.data }, { on := 13, ground := Ground.data }], guard := none }) (v := (.bool false)) rfl (by kernel_rfl) (by kernel_rfl) (by kernel_rfl) (fun _ _ _ h => h) (Or.inl ⟨by rfl, fun w hSw => (by go_simp)⟩) hH ?_
              simp only [Act.put, List.setIfInBounds_toArray, List.set_cons_zero, List.set_cons_succ]
              refine wpAnyH_take (i := 15) (oi := { dst := some 106, op := Op.move (Operand.tmp 105), type := 4, pos := "law.go:116", after := #[{ on := 14, ground := Ground.data }, { on := 9, ground := Ground.chain }], guard := none }) (v := (.bool false)) rfl (by kernel_rfl) (by kernel_rfl) (by kernel_rfl) (fun _ _ _ h => h) (Or.inl ⟨by rfl, fun w hSw => (by go_simp)⟩) hH ?_
              simp only [Act.put, List.setIfInBounds_toArray, List.set_cons_zero, List.set_cons_succ]
              refine wpAnyH_take (i := 16) (oi := { dst := some 107, op := Op.load 25 (Operand.tmp 11), type := 25, pos := "law.go:116", after := #[{ on := 15, ground := Ground.guard }], guard := some (15, false) }) (v := (.agg #[.slice a7 n7 c7, .slice a7' n7 c7'])) rfl (by kernel_rfl) (by kernel_rfl) (by kernel_rfl) (fun _ _ _ h => h) (Or.inl ⟨by rfl, fun w hSw => (by obtain ⟨⟨k0, k1⟩, k2, k3⟩ := hSw; go_simp)⟩) hH ?_
              simp only [Act.put, List.setIfInBounds_toArray, List.set_cons_zero, List.set_cons_succ]
              refine wpAnyH_take (i := 18) (oi := { dst := some 109, op := Op.load 25 (Operand.tmp 8), type := 25, pos := "law.go:116", after := #[{ on := 15, ground := Ground.guard }], guard := some (15, false) }) (v := (.agg #[.slice a6 n6 c6, .slice a6' n6 c6'])) rfl (by kernel_rfl) (by kernel_rfl) (by kernel_rfl) (fun _ _ _ h => h) (Or.inl ⟨by rfl, fun w hSw => (by obtain ⟨⟨k0, k1⟩, k2, k3⟩ := hSw; go_simp)⟩) hH ?_
              simp only [Act.put, List.setIfInBounds_toArray, List.set_cons_zero, List.set_cons_succ]
              refine wpAnyH_ready (rs := [17]) (by kernel_rfl) (by simp) ?_
              refine AllReadyH.cons (o := { dst := some 108, op := Op.call { callee := Callee.value (Operand.func 21), args := #[Operand.tmp 107], argTypes := #[25] }, type := 3, pos := "law.go:116", after := #[{ on := 16, ground := Ground.data }, { on := 15, ground := Ground.chain }, { on := 15, ground := Ground.guard }], guard := some (15, false) }) rfl (fun K hK => ?_) AllReadyH.nil
              go_simp
              refine (used_any (hTB.out W7.drew ((Below.refl W7.heap.size W7).drew))).mono ?_
              rintro e w8 ⟨rfl, hbw8⟩
              rw [hu2.out]
              have Nw8 : Hid (Below W7.heap.size W7 w8) := Below.trans ((Below.refl W7.heap.size W7).drew) (hbw8.mono (Below.size ((Below.refl W7.heap.size W7).drew)))
              have hH8 := hcl.out w8 Nw8.out
              refine hK _ _ hH8 (fun _ => ?_)
              clear hK K
              refine wpAnyH_ready (rs := [19]) (by kernel_rfl) (by simp) ?_
              refine AllReadyH.cons (o := { dst := some 110, op := Op.call { callee := Callee.value (Operand.func 21), args := #[Operand.tmp 109], argTypes := #[25] }, type := 3, pos := "law.go:116", after := #[{ on := 18, ground := Ground.data }, { on := 17, ground := Ground.chain }, { on := 15, ground := Ground.guard }], guard := some (15, false) }) rfl (fun K hK => ?_) AllReadyH.nil
              go_simp
              refine (used_any (hTA7.out w8 Nw8.out)).mono ?_
              rintro e w9 ⟨rfl, hbw9⟩
              rw [hu1.out]
              have Nw9 : Hid (Below W7.heap.size W7 w9) := Below.trans Nw8.out (hbw9.mono (Below.size Nw8.out))
              have hH9 := hcl.out w9 Nw9.out
              refine hK _ _ hH9 (fun _ => ?_)
              clear hK K
              refine wpAnyH_take (i := 20) (oi := { dst := some 111, op := Op.binOp BinOp.neq 3 (Operand.tmp 108) (Operand.tmp 110) 3, type := 4, pos := "law.go:116", after := #[{ on := 17, ground := Ground.data }, { on := 19, ground := Ground.data }, { on := 15, ground := Ground.guard }], guard := some (15, false) }) (v := (.bool false)) rfl (by kernel_rfl) (by kernel_rfl) (by kernel_rfl) (fun _ _ _ h => h) (Or.inl ⟨by rfl, fun w hSw => (by go_simp)⟩) hH9 ?_
              simp only [Act.put, List.setIfInBounds_toArray, List.set_cons_zero, List.set_cons_succ]
              refine wpAnyH_take (i := 21) (oi := { dst := some 112, op := Op.pick (Operand.tmp 106) (Operand.const (Value.bool true)) (Operand.tmp 111), type := 4, pos := "law.go:116", after := #[{ on := 15, ground := Ground.data }, { on := 20, ground := Ground.data }], guard := none }) (v := (.bool false)) rfl (by kernel_rfl) (by kernel_rfl) (by kernel_rfl) (fun _ _ _ h => h) (Or.inl ⟨by rfl, fun w hSw => (by go_simp)⟩) hH9 ?_
              simp only [Act.put, List.setIfInBounds_toArray, List.set_cons_zero, List.set_cons_succ]
              refine wpAnyH_take (i := 22) (oi := { dst := some 113, op := Op.move (Operand.tmp 112), type := 4, pos := "law.go:116", after := #[{ on := 21, ground := Ground.data }, { on := 19, ground := Ground.chain }], guard := none }) (v := (.bool false)) rfl (by kernel_rfl) (by kernel_rfl) (by kernel_rfl) (fun _ _ _ h => h) (Or.inl ⟨by rfl, fun w hSw => (by go_simp)⟩) hH9 ?_
              simp only [Act.put, List.setIfInBounds_toArray, List.set_cons_zero, List.set_cons_succ]
              refine wpAnyH_take (i := 23) (oi := { dst := some 114, op := Op.move (Operand.tmp 6), type := 4, pos := "law.go:116", after := #[{ on := 22, ground := Ground.guard }], guard := some (22, false) }) (v := (.bool false)) rfl (by kernel_rfl) (by kernel_rfl) (by kernel_rfl) (fun _ _ _ h => h) (Or.inl ⟨by rfl, fun w hSw => (by go_simp)⟩) hH9 ?_
              simp only [Act.put, List.setIfInBounds_toArray, List.set_cons_zero, List.set_cons_succ]
              refine wpAnyH_take (i := 24) (oi := { dst := some 115, op := Op.unOp UnOp.not 4 (Operand.tmp 114), type := 4, pos := "law.go:116", after := #[{ on := 23, ground := Ground.data }, { on := 22, ground := Ground.guard }], guard := some (22, false) }) (v := (.bool true)) rfl (by kernel_rfl) (by kernel_rfl) (by kernel_rfl) (fun _ _ _ h => h) (Or.inl ⟨by rfl, fun w hSw => (by go_simp)⟩) hH9 ?_
              simp only [Act.put, List.setIfInBounds_toArray, List.set_cons_zero, List.set_cons_succ]
              refine wpAnyH_take (i := 25) (oi := { dst := some 116, op := Op.move (Operand.tmp 115), type := 4, pos := "law.go:116", after := #[{ on := 24, ground := Ground.data }, { on := 22, ground := Ground.chain }, { on := 22, ground := Ground.guard }], guard := some (22, false) }) (v := (.bool true)) rfl (by kernel_rfl) (by kernel_rfl) (by kernel_rfl) (fun _ _ _ h => h) (Or.inl ⟨by rfl, fun w hSw => (by go_simp)⟩) hH9 ?_
              simp only [Act.put, List.setIfInBounds_toArray, List.set_cons_zero, List.set_cons_succ]
              refine wpAnyH_take (i := 26) (oi := { dst := some 117, op := Op.load 25 (Operand.tmp 8), type := 25, pos := "law.go:116", after := #[{ on := 25, ground := Ground.guard }], guard := some (25, true) }) (v := (.agg #[.slice a6 n6 c6, .slice a6' n6 c6'])) rfl (by kernel_rfl) (by kernel_rfl) (by kernel_rfl) (fun _ _ _ h => h) (Or.inl ⟨by rfl, fun w hSw => (by obtain ⟨⟨k0, k1⟩, k2, k3⟩ := hSw; go_simp)⟩) hH9 ?_
              simp only [Act.put, List.setIfInBounds_toArray, List.set_cons_zero, List.set_cons_succ]
              refine wpAnyH_take (i := 28) (oi := { dst := some 119, op := Op.move (Operand.tmp 7), type := 3, pos := "law.go:116", after := #[{ on := 25, ground := Ground.guard }], guard := some (25, true) }) (v := (.int .i64 ((u : Nat) : Int))) rfl (by kernel_rfl) (by kernel_rfl) (by kernel_rfl) (fun _ _ _ h => h) (Or.inl ⟨by rfl, fun w hSw => (by go_simp)⟩) hH9 ?_
              simp only [Act.put, List.setIfInBounds_toArray, List.set_cons_zero, List.set_cons_succ]
              refine wpAnyH_take (i := 29) (oi := { dst := some 120, op := Op.binOp BinOp.add 3 (Operand.tmp 119) (Operand.const (Value.int IntKind.i64 1)) 3, type := 3, pos := "law.go:116", after := #[{ on := 28, ground := Ground.data }, { on := 25, ground := Ground.guard }], guard := some (25, true) }) (v := (.int .i64 ((u + 1 : Nat) : Int))) rfl (by kernel_rfl) (by kernel_rfl) (by kernel_rfl) (fun _ _ _ h => h) (Or.inl ⟨by rfl, fun w hSw => (by go_simp)⟩) hH9 ?_
              simp only [Act.put, List.setIfInBounds_toArray, List.set_cons_zero, List.set_cons_succ]
              refine wpAnyH_ready (rs := [27]) (by kernel_rfl) (by simp) ?_
              refine AllReadyH.cons (o := { dst := some 118, op := Op.call { callee := Callee.value (Operand.func 21), args := #[Operand.tmp 117], argTypes := #[25] }, type := 3, pos := "law.go:116", after := #[{ on := 26, ground := Ground.data }, { on := 25, ground := Ground.chain }, { on := 25, ground := Ground.guard }], guard := some (25, true) }) rfl (fun K hK => ?_) AllReadyH.nil
              go_simp
              refine (used_any (hTA7.out w9 Nw9.out)).mono ?_
              rintro e w10 ⟨rfl, hbw10⟩
              rw [hu1.out]
              have Nw10 : Hid (Below W7.heap.size W7 w10) := Below.trans Nw9.out (hbw10.mono (Below.size Nw9.out))
              have hH10 := hcl.out w10 Nw10.out
              refine hK _ _ hH10 (fun _ => ?_)
              clear hK K
              refine wpAnyH_take (i := 30) (oi := { dst := some 121, op := Op.binOp BinOp.neq 3 (Operand.tmp 118) (Operand.tmp 120) 3, type := 4, pos := "law.go:116", after := #[{ on := 27, ground := Ground.data }, { on := 29, ground := Ground.data }, { on := 25, ground := Ground.guard }], guard := some (25, true) }) (v := (.bool false)) rfl (by kernel_rfl) (by kernel_rfl) (by kernel_rfl) (fun _ _ _ h => h) (Or.inl ⟨by rfl, fun w hSw => (by go_simp)⟩) hH10 ?_
              simp only [Act.put, List.setIfInBounds_toArray, List.set_cons_zero, List.set_cons_succ]
              refine wpAnyH_take (i := 31) (oi := { dst := some 122, op := Op.pick (Operand.tmp 116) (Operand.tmp 121) (Operand.const (Value.bool false)), type := 4, pos := "law.go:116", after := #[{ on := 25, ground := Ground.data }, { on := 30, ground := Ground.data }, { on := 22, ground := Ground.guard }], guard := some (22, false) }) (v := (.bool false)) rfl (by kernel_rfl) (by kernel_rfl) (by kernel_rfl) (fun _ _ _ h => h) (Or.inl ⟨by rfl, fun w hSw => (by go_simp)⟩) hH10 ?_
              simp only [Act.put, List.setIfInBounds_toArray, List.set_cons_zero, List.set_cons_succ]
              refine wpAnyH_take (i := 32) (oi := { dst := some 123, op := Op.pick (Operand.tmp 113) (Operand.const (Value.bool true)) (Operand.tmp 122), type := 4, pos := "law.go:116", after := #[{ on := 22, ground := Ground.data }, { on := 31, ground := Ground.data }], guard := none }) (v := (.bool false)) rfl (by kernel_rfl) (by kernel_rfl) (by kernel_rfl) (fun _ _ _ h => h) (Or.inl ⟨by rfl, fun w hSw => (by go_simp)⟩) hH10 ?_
              simp only [Act.put, List.setIfInBounds_toArray, List.set_cons_zero, List.set_cons_succ]
              refine wpAnyH_done (by kernel_rfl) ?_ _
              go_wp2
              go_meet
              exact ⟨rfl, Nw10.out⟩
            case rest =>
              obtain ⟨rfl, hcW⟩ := hcut
              have CW : Hid (Below W7.heap.size W7 wc) := hcW
              have DW : Hid (Below W0.heap.size W0 wc) := D7.out.trans (hcW.mono D7.out.size)
              obtain ⟨⟨y70, y71⟩, y72, y73⟩ := hcl.out wc CW.out
              clear hcW
              go_upto_region 16 with (go_at_call 14; refine (tdrop_any ((i : Nat) : Int) (hTA7.out wc CW.out) HF1.out).mono ?_; rintro e w10 ⟨a10, n10, c10, a10', c10', rfl, hT10, hb10⟩; rw [hback.out] at hT10 ⊢)
              have hB10 : Below w10.heap.size w10 (w10.alloc (.cells #[.slice a10 n10 c10, .slice a10' n10 c10'] 25)) := (Below.refl _ _).alloc (Nat.le_refl _) _
              have t10 := Two.new w10 25 (.slice a10 n10 c10) (.slice a10' n10 c10')
              have TC := hT10.next hB10
              obtain ⟨W10, hW10⟩ : ∃ W10, Hid (w10.alloc (.cells #[.slice a10 n10 c10, .slice a10' n10 c10'] 25) = W10) := ⟨_, rfl⟩
              rw [hW10.out] at hB10 t10 TC ⊢
              clear hW10 hT10
              have D10 : Hid (Below W0.heap.size W0 W10) := (DW.out.trans (hb10.mono DW.out.size)).trans (hB10.mono (Nat.le_trans DW.out.size hb10.size))
              obtain ⟨u0, u1⟩ := hbx.out W10 D10.out
              have v0 := t10.cell0
              have v1 := t10.cell1
              have heq := eqT_refl (Z.map (·.1)) (Z.map (·.2))
              have TT : Hid (Tab W10 _ nc0 cap0 _ capc0 Z) := hTW.out W10 D10.out
              clear y70 y71 y72 y73
              go_wp2_with (first | (go_at_call 10; refine (tsame_any TC.tab TT.out (fun b h => h) (fun b h => h)).mono ?_; rintro e w11 ⟨rfl, hb11⟩; rw [heq]) | (go_at_call 7; refine (awake_any _).mono ?_; rintro e w12 ⟨rfl, hb12⟩))
              go_ret
              exact ⟨rfl, hE.out _ ((D10.out.trans (hb11.mono D10.out.size)).trans (hb12.mono (Nat.le_trans D10.out.size hb11.size)))⟩

set_option maxRecDepth 100000 in
theorem lifted (os : Os) (started : os.Started) (H : Type) (enc : TypeId × Value → H) :
    ReturnsInHanded {} Try.checked os 5 .any (Rows.internRoomSpec.pre6 enc Try.prog Try.f5 Rows.internRoomRow.domain false) (Rows.internRoomSpec.post enc Try.prog Try.f5 false true false false) := by
  refine returnsInHanded_of_change (C := Try.checked) own started (by kernel_rfl) Try.func5
    (ChangeSpec.witness6 (enc := enc) (C := Try.checked) false ⟨#[], #[.agg #[.slice none 0 0, .slice none 0 0], .slice none 0 0], []⟩ 8 (by kernel_rfl) (by kernel_rfl) (by kernel_rfl) (by kernel_rfl)) ?_
  intro W base args ds gs before hval0 hW hcnd _
  have hval : ∀ (j : Nat) t v, Try.f5.params[j]? = some t → args[j]? = some v → Value.okWide Try.prog W .any base t v := hval0
  have hW' := hW
  obtain ⟨p, q, hA0, hV, rfl, hfz, hnd⟩ := hW
  have hA : DataW.TrodAll enc Try.prog W 0 (fun _ => true) true Try.f5.params.toList args.toList ds p := hA0
  rw [Try.params5] at hA hval
  obtain ⟨v0, vs0, d0, ds0, p0, q0, hargs, rfl, rfl, h0, r0⟩ := trodAll_cons hA
  obtain ⟨v1, vs1, d1, ds1, p1, q1, rfl, rfl, rfl, h1, r1⟩ := trodAll_cons r0
  obtain ⟨rfl, rfl, rfl⟩ := trodAll_nil r1
  obtain rfl : args = #[v0, v1] := by cases args; simp_all
  obtain ⟨rfl, rfl⟩ := trodVars_none hV
  obtain ⟨ao0, n0, cap0, aoc0, nc0, capc0, LL0, CC0, rfl, l0⟩ := tab_of_trod (hval 0 25 v0 rfl rfl) h0
  have k0 := h0
  have lt0 : ∀ x ∈ p0, x.block < W.heap.size := by obtain ⟨m, hm⟩ := k0; exact DataW.trod_lt m _ _ _ hm
  obtain ⟨ao1, n1, cap1, rfl⟩ := okWide_slice Try.underlying27 (hval 1 27 v1 rfl rfl)
  have k1 := h1
  have lt1 : ∀ x ∈ p1, x.block < W.heap.size := by obtain ⟨m, hm⟩ := k1; exact DataW.trod_lt m _ _ _ hm
  obtain ⟨L1, l1⟩ := lab_of_trod h1
  clear hA0 hval0
  refine (walk ao0 n0 cap0 aoc0 nc0 capc0 LL0 CC0 ao1 n1 cap1 L1 W l0 l1).mono fun e W' ⟨he, bel⟩ => ?_
  subst he
  exact ⟨_, rfl, _, _, _, [], _, [], hW', trodAll_mk1 (shut_bool Try.underlying4 _), (trodAll_cons_mk (Below.trod laidOut (by kernel_rfl) (of_decide_eq_true (by kernel_rfl)) k0 bel lt0) (trodAll_cons_mk (Below.trod laidOut (by kernel_rfl) (of_decide_eq_true (by kernel_rfl)) k1 bel lt1) trodAll_mk0)), rfl, bel.frame _, fun h => by cases h⟩

theorem over : Rows.internRoomRow.holds Try.pinned (OpenSpec.ofChange Rows.internRoomSpec) :=
  OpenClaim.holds_of_wide 5 Try.f5 rfl rfl rfl rfl rfl rfl rfl ⟨rfl, rfl, rfl, rfl, rfl⟩ rfl rfl rfl rfl rfl (by kernel_rfl) Try.func5 (by kernel_rfl)
    (of_decide_eq_true (by kernel_rfl)) (by unfold Func.isWrapper; first | (rw [if_pos (by decide +kernel)]; kernel_rfl) | (rw [if_neg (by decide +kernel)]; exact ⟨rfl, rfl⟩))
    (fun os started H enc _ => lifted os started H enc)

end internRoom
/-- The statement. -/
theorem internRoom_holds : Rows.InternRoomSaid :=
  internRoom.over
#print axioms internRoom_holds
end Go.Proofs.Ytdljoapbeelgiaa
