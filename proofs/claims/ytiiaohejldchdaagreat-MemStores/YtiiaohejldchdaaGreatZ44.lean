/-
 PROVED HERE: what the document's Find and Drop return when they are called (contracts over this translation). What is asked stands at each.
-/
import Derived.Test.YtiiaohejldchdaaGreatZ12
namespace Go.Proofs.YtiiaohejldchdaaGreat.PgM
set_option maxRecDepth 100000
set_option maxHeartbeats 8000000
open Go.RowKit Go.Shelf
set_option linter.unusedVariables false
attribute [local go_sem] Oper.semAt_some
open Pg

theorem no_succ {p : Nat → Bool} {k : Nat} (h : ∀ i, i < k → p i = false) (hk : p k = false) : ∀ i, i < k + 1 → p i = false := fun i hi => by
 rcases Nat.lt_or_ge i k with h' | h'
 ·exact h i h'
 ·have : i = k := by omega
  rw [this]; exact hk
theorem It.other6 {X : World} {b o g : Nat} {v0 v1 v2 v3 v4 : Int} {v5 : Bool} {y : Mp} (hne : b ≠ g) (h : It X b o v0 v1 v2 v3 v4 v5) : It (set6 X g y) b o v0 v1 v2 v3 v4 v5 := by
 have f : ∀ {j : Nat} {v : Value}, X.cell? ⟨b, j, none⟩ = some v → (set6 X g y).cell? ⟨b, j, none⟩ = some v := fun h => by
  unfold set6
  rw [cell_set_ne hne, cell_set_ne hne, cell_set_ne hne, cell_set_ne hne, cell_set_ne hne, cell_set_ne hne]
  exact h
 obtain ⟨a0, a1, a2, a3, a4, a5⟩ := h
 exact ⟨f a0, f a1, f a2, f a3, f a4, f a5⟩
theorem rfind_any {w : World} {ao : Option Addr} {n cap : Nat} {L : List Mp} (hL : Mps w.heap.size w ao n cap L) (hF : Fit L) (p : Int) :
  Calls Tryz.prog 25 #[.slice ao n cap, .int .i64 p] w fun e w' => e = .returned (.tuple #[.agg (mpV (fM L p)), .int .i64 (fN L p), .bool (fF L p)]) ∧ Below w.heap.size w w' := by
 have hln : Hid (L.length = n) := hL.1
 have hn16 : n ≤ 16 := by rw [← hln.out]; exact hF.1
 have hHF : Hid (Fit L) := hF
 have hB0 : Below w.heap.size w (w.alloc (.cells #[.int .i64 0, .int .i64 0, .int .u64 0, .int .u64 0, .int .i64 0, .bool false] 71)) := (Below.refl _ w).alloc (Nat.le_refl _) _
 have hZ0 := Mb.new w ⟨0, 0, 0, 0, 0, false⟩
 clear hF
 go_enter Tryz.func25, Tryz.ntmps25
 go_wp2
 go_loopw [7] (fun i wr => ∃ k : Nat, k ≤ n ∧ i = .int .i64 k ∧ Hid (∀ i, i < k → hasB (mat L i) p = false) ∧ Mb wr w.heap.size ⟨0, 0, 0, 0, 0, false⟩ ∧ Below w.heap.size w wr) (fun i _ => n - (intOf i).toNat)
 case atStart => exact ⟨0, Nat.zero_le _, rfl, fun j hj => absurd hj (by omega), hZ0, hB0⟩
 case round =>
  clear hZ0 hB0
  obtain ⟨k, hk, rfl, hal, hZ, hb⟩ := hrel
  by_cases hkn : k < n
  ·obtain ⟨b, off, va, nn, cont, seg, of, wrt, rfl, hbb, hx, c0, c1, c2, c3, c4, c5⟩ := MpsD.at (hL.later hb) hkn
   have hkl : Hid (k < L.length) := by show k < L.length; rw [hln.out]; exact hkn
   have hkn' : (k : Int) < n := by omega
   have hone := hHF.out.one hkl.out
   rw [hx.out] at hone
   obtain ⟨o1, o2, o3, o4, o5⟩ := hone
   simp only at o1 o2 o3 o4 o5
   have hw : IntKind.i64.wrap (va + nn) = va + nn := by rw [IntKind.wrap_i64]; omega
   by_cases h1 : va ≤ p
   ·have h1' : decide (va ≤ p) = true := decide_eq_true h1
    by_cases h2 : p < va + nn
    ·have h2' : decide (p < va + nn) = true := decide_eq_true h2
     have r : Hid (fnd L p = some ⟨va, nn, cont, seg, of, wrt⟩) := (fnd_some hHF.out).2 ⟨by rw [← hx.out]; exact mat_mem hkl.out, hasB_iff.2 ⟨h1, h2⟩⟩
     have r1 : Hid (fM L p = ⟨va, nn, cont, seg, of, wrt⟩) := by show _ = _; unfold fM; rw [r.out]; rfl
     have r2 : Hid (fN L p = of + p - va) := by show _ = _; unfold fN; rw [r.out]
     have r3 : Hid (fF L p = true) := by show _ = _; unfold fF; rw [r.out]; rfl
     have hw1 : IntKind.i64.wrap (of + p) = of + p := by rw [IntKind.wrap_i64]; omega
     have hw2 : IntKind.i64.wrap (of + p - va) = of + p - va := by rw [IntKind.wrap_i64]; omega
     have hne : b ≠ w.heap.size := by omega
     go_wp2
     go_quiet (fail)
     go_wp2
     have hq := below_drewN (Below.refl wr.heap.size wr) nq
     have hZ2 := hZ.next hq
     have hb2 := below_drewN hb nq
     have cc : It (wr.drewN nq) b (off + k * 6) va nn cont seg of wrt := It.next ⟨c0, c1, c2, c3, c4, c5⟩ hq
     generalize wr.drewN nq = W2 at hZ2 hb2 cc ⊢
     clear c0 c1 c2 c3 c4 c5 hq
     obtain ⟨c0, c1, c2, c3, c4, c5⟩ := cc
     obtain ⟨z0, z1, z2, z3, z4, z5⟩ := hZ2.cells
     have zf := hZ2.frozen
     have it0 : It W2.drew b (off + k * 6) va nn cont seg of wrt := It.next ⟨c0, c1, c2, c3, c4, c5⟩ (Below.refl _ _).drew
     have hS2 : It (set6 W2 w.heap.size ⟨va, nn, cont, seg, of, wrt⟩).drew b (off + k * 6) va nn cont seg of wrt := It.next (It.other6 hne ⟨c0, c1, c2, c3, c4, c5⟩) (Below.refl _ _).drew
     have hS3 : It (set6 W2.drew w.heap.size ⟨va, nn, cont, seg, of, wrt⟩) b (off + k * 6) va nn cont seg of wrt := It.other6 hne it0
     unfold It set6 at hS2 hS3
     simp only at hS2 hS3
     go_region_held3 (fun W => W.cell? ⟨b, off + k * 6, none⟩ = some (.int .i64 va) ∧ W.cell? ⟨b, off + k * 6 + 1, none⟩ = some (.int .i64 nn) ∧ W.cell? ⟨b, off + k * 6 + 2, none⟩ = some (.int .u64 cont) ∧ W.cell? ⟨b, off + k * 6 + 3, none⟩ = some (.int .u64 seg) ∧ W.cell? ⟨b, off + k * 6 + 4, none⟩ = some (.int .i64 of) ∧ W.cell? ⟨b, off + k * 6 + 5, none⟩ = some (.bool wrt)) (first | go_keep | exact hS2 | exact hS3 | fail) (fail)
     obtain ⟨g0, g1, g2, g3, g4, g5⟩ := ((Mb.set6 (y := ⟨va, nn, cont, seg, of, wrt⟩) hZ2).next (Below.refl _ _).drew).cells
     unfold set6 at g0 g1 g2 g3 g4 g5
     go_wp2
     refine bodyPost_ret (v := .tuple #[.agg #[.int .i64 va, .int .i64 nn, .int .u64 cont, .int .u64 seg, .int .i64 of, .bool wrt], .int .i64 (of + p - va), .bool true]) (by simp [results, Tryz.f25, go_sem, g0, g1, g2, g3, g4, g5]) rfl ?_
     exact ⟨by rw [r1.out, r2.out, r3.out]; rfl, (below_set6 (y := ⟨va, nn, cont, seg, of, wrt⟩) hb2 (Nat.le_refl _)).drew⟩
    ·have h2' : decide (p < va + nn) = false := decide_eq_false h2
     have hal2 : Hid (∀ i, i < k + 1 → hasB (mat L i) p = false) := no_succ hal.out (by rw [hx.out]; unfold hasB; rw [decide_eq_false_iff_not]; exact fun q => h2 q.2)
     go_wp2
     go_quiet (fail)
     go_wp2
     go_roundw
     case rel => exact ⟨k + 1, by omega, by go_num, hal2, hZ.next (below_drewN (Below.refl _ _) _), below_drewN hb _⟩
     case measure => simp [intOf]; omega
   ·have h1' : decide (va ≤ p) = false := decide_eq_false h1
    have hal2 : Hid (∀ i, i < k + 1 → hasB (mat L i) p = false) := no_succ hal.out (by rw [hx.out]; unfold hasB; rw [decide_eq_false_iff_not]; exact fun q => h1 q.1)
    go_wp2
    go_quiet (fail)
    go_wp2
    go_roundw
    case rel => exact ⟨k + 1, by omega, by go_num, hal2, hZ.next (below_drewN (Below.refl _ _) _), below_drewN hb _⟩
    case measure => simp [intOf]; omega
  ·obtain rfl : k = n := by omega
   have r : Hid (fnd L p = none) := (fnd_none hHF.out).2 fun x hx => by obtain ⟨i, hi, rfl⟩ := mem_mat hx; exact hal.out i (by rw [hln.out] at hi; exact hi)
   have r1 : Hid (fM L p = ⟨0, 0, 0, 0, 0, false⟩) := by show _ = _; unfold fM; rw [r.out]; rfl
   have r2 : Hid (fN L p = 0) := by show _ = _; unfold fN; rw [r.out]
   have r3 : Hid (fF L p = false) := by show _ = _; unfold fF; rw [r.out]; rfl
   obtain ⟨z0, z1, z2, z3, z4, z5⟩ := hZ.cells
   have zf := hZ.frozen
   go_wp2
   obtain ⟨g0, g1, g2, g3, g4, g5⟩ := (Mb.set6 (y := ⟨0, 0, 0, 0, 0, false⟩) hZ).cells
   unfold set6 at g0 g1 g2 g3 g4 g5
   refine bodyPost_ret (v := .tuple #[.agg #[.int .i64 0, .int .i64 0, .int .u64 0, .int .u64 0, .int .i64 0, .bool false], .int .i64 0, .bool false]) (by simp [results, Tryz.f25, go_sem, g0, g1, g2, g3, g4, g5]) rfl ?_
   exact ⟨by rw [r1.out, r2.out, r3.out]; rfl, below_set6 (y := ⟨0, 0, 0, 0, 0, false⟩) hb (Nat.le_refl _)⟩
namespace Pg
end Pg
end Go.Proofs.YtiiaohejldchdaaGreat.PgM
