/-
  PROVED HERE: what package pages' Put, Drop and Find return when they are called (contracts over this translation). The maps are fit.
-/
import Derived.Test.YtnfdmbbipkcdkaaPg3
namespace Go.Proofs.Ytnfdmbbipkcdkaa
open Go.RowKit Go.Shelf
set_option linter.unusedVariables false
attribute [local go_sem] Oper.semAt_some
open Pg

def z6 : Obj := .cells #[.int .i64 0, .int .i64 0, .int .u64 0, .int .u64 0, .int .i64 0, .bool false] 25
set_option maxHeartbeats 1000000 in
theorem find_any {w : World} {ao : Option Addr} {n cap : Nat} {L : List Mp} (hL : Mps w.heap.size w ao n cap L) (hF : Fit L) (p : Int) :
    Calls Try.prog 17 #[.slice ao n cap, .int .i64 p] w fun e w' => e = .returned (.tuple #[.agg (mpV (fM L p)), .int .i64 (fN L p), .bool (fF L p)]) ∧ Below w.heap.size w w' := by
  have hln : Hid (L.length = n) := hL.1
  have hB0 : Below w.heap.size w (w.alloc (.cells #[.int .i64 0, .int .i64 0, .int .u64 0, .int .u64 0, .int .i64 0, .bool false] 25)) := (Below.refl _ w).alloc (Nat.le_refl _) _
  have hZ := Mb.new w ⟨0, 0, 0, 0, 0, false⟩
  have hL0 := hL.next hB0
  have hpl := place_e hL0 hF p
  have hk := ps_le (P := eP p) (L := L)
  have hat := (ps_all (P := eP p) (L := L)).2.2
  obtain ⟨k, hk2⟩ : ∃ k, Hid (ps (eP p) L = k) := ⟨_, rfl⟩
  rw [hk2.out] at hpl hk hat
  rw [hln.out] at hk hat
  by_cases hkn : k < n
  · have hat' := eP_no.1 (hat hkn)
    have hone := hF.one (i := k) (by rw [hln.out]; exact hkn)
    have hfd : Hid (fnd L p = if (mat L k).va ≤ p then some (mat L k) else none) := by
      show _ = _
      unfold fnd
      rw [hk2.out, hln.out]
      by_cases q : (mat L k).va ≤ p
      · rw [if_pos ⟨hkn, q⟩, if_pos q]
      · rw [if_neg (fun h => q h.2), if_neg q]
    clear hat hF hk2
    have hkn' : (k : Int) < n := by omega
    have hke : ((k : Int) == (n : Int)) = false := by rw [beq_eq_false_iff_ne]; omega
    obtain ⟨b, off, va, nn, cont, seg, of, wrt, rfl, hbb, hx, _⟩ := MpsD.at hL0 hkn
    have hx' := hx.out
    rw [hx'] at hat' hone hfd
    obtain ⟨o1, o2, o3, o4, o5⟩ := hone
    simp only at hat' o1 o2 o3 o4 o5
    have hfd' : Hid (fnd L p = if va ≤ p then some ⟨va, nn, cont, seg, of, wrt⟩ else none) := hfd.out
    clear hfd hx' hbb
    by_cases hp : va ≤ p
    · have r : Hid (fnd L p = some ⟨va, nn, cont, seg, of, wrt⟩) := by show _ = _; rw [hfd'.out, if_pos hp]
      have r1 : Hid (fM L p = ⟨va, nn, cont, seg, of, wrt⟩) := by show _ = _; unfold fM; rw [r.out]; rfl
      have r2 : Hid (fN L p = of + p - va) := by show _ = _; unfold fN; rw [r.out]
      have r3 : Hid (fF L p = true) := by show _ = _; unfold fF; rw [r.out]; rfl
      rw [r1.out, r2.out, r3.out]
      clear hfd' r r1 r2 r3
      go_enter Try.func17, Try.ntmps17
      go_wp2_with (go_at_call 25; refine hpl.mono ?_; rintro e w1 ⟨rfl, hb1⟩; obtain ⟨b', off', va', nn', cont', seg', of', wrt', e0, hbb, hx2, c0, c1, c2, c3, c4, c5⟩ := MpsD.at (hL0.later hb1) hkn; cases e0; (have e9 := hx2.out; rw [hx.out] at e9; cases e9); have hZ1 := hZ.next hb1; obtain ⟨z0, z1, z2, z3, z4, z5⟩ := hZ1.cells; have zf := hZ1.frozen)
      have hM2 := Mb.new w1 ⟨va, nn, cont, seg, of, wrt⟩
      have hZ2 := hZ1.alloc (.cells #[.int .i64 va, .int .i64 nn, .int .u64 cont, .int .u64 seg, .int .i64 of, .bool wrt] 25)
      have hlt : w.heap.size < w1.heap.size := hZ1.lt
      have hne : w1.heap.size ≠ w.heap.size := by omega
      have hb2 : Below w.heap.size w (w1.alloc (.cells #[.int .i64 va, .int .i64 nn, .int .u64 cont, .int .u64 seg, .int .i64 of, .bool wrt] 25)) := (hB0.trans (hb1.mono hB0.size)).alloc (by omega) _
      obtain ⟨W2, hW2⟩ : ∃ W2, w1.alloc (.cells #[.int .i64 va, .int .i64 nn, .int .u64 cont, .int .u64 seg, .int .i64 of, .bool wrt] 25) = W2 := ⟨_, rfl⟩
      obtain ⟨B2, hB2⟩ : ∃ B2, w1.heap.size = B2 := ⟨_, rfl⟩
      rw [hW2, hB2] at hM2
      rw [hW2] at hZ2 hb2
      rw [hB2] at hne
      simp only [hW2, hB2]
      clear hZ1 c0 c1 c2 c3 c4 c5 z0 z1 z2 z3 z4 z5 zf hW2 hB2
      obtain ⟨m0, m1, m2, m3, m4, m5⟩ := hM2.cells
      obtain ⟨z0, z1, z2, z3, z4, z5⟩ := hZ2.cells
      have zf := hZ2.frozen
      have hS2 := Mb.cells (Mb.next (Mb.other6 (g := w.heap.size) (y := ⟨va, nn, cont, seg, of, wrt⟩) hM2 hne) (Below.refl _ _).drew)
      have hS3 := Mb.cells (Mb.other6 (g := w.heap.size) (y := ⟨va, nn, cont, seg, of, wrt⟩) (hM2.next (Below.refl _ _).drew) hne)
      unfold set6 at hS2 hS3
      simp only at hS2 hS3
      go_region_held3 (fun W => W.cell? ⟨B2, 0, none⟩ = some (.int .i64 va) ∧ W.cell? ⟨B2, 1, none⟩ = some (.int .i64 nn) ∧ W.cell? ⟨B2, 2, none⟩ = some (.int .u64 cont) ∧ W.cell? ⟨B2, 3, none⟩ = some (.int .u64 seg) ∧ W.cell? ⟨B2, 4, none⟩ = some (.int .i64 of) ∧ W.cell? ⟨B2, 5, none⟩ = some (.bool wrt)) (first | go_keep | exact hS2 | exact hS3) (fail)
      have hw1 : IntKind.i64.wrap (of + p) = of + p := by rw [IntKind.wrap_i64]; omega
      have hw2 : IntKind.i64.wrap (of + p - va) = of + p - va := by rw [IntKind.wrap_i64]; omega
      simp only [hw1, hw2]
      obtain ⟨g0, g1, g2, g3, g4, g5⟩ := ((Mb.set6 (y := ⟨va, nn, cont, seg, of, wrt⟩) hZ2).next (Below.refl _ _).drew).cells
      unfold set6 at g0 g1 g2 g3 g4 g5
      go_wp2
      refine bodyPost_ret (v := .tuple #[.agg #[.int .i64 va, .int .i64 nn, .int .u64 cont, .int .u64 seg, .int .i64 of, .bool wrt], .int .i64 (of + p - va), .bool true]) (by simp [results, Try.f17, go_sem, g0, g1, g2, g3, g4, g5]) rfl ?_
      exact ⟨rfl, (below_set6 (y := ⟨va, nn, cont, seg, of, wrt⟩) hb2 (Nat.le_refl _)).drew⟩
    · have r : Hid (fnd L p = none) := by show _ = _; rw [hfd'.out, if_neg hp]
      have r1 : Hid (fM L p = ⟨0, 0, 0, 0, 0, false⟩) := by show _ = _; unfold fM; rw [r.out]; rfl
      have r2 : Hid (fN L p = 0) := by show _ = _; unfold fN; rw [r.out]
      have r3 : Hid (fF L p = false) := by show _ = _; unfold fF; rw [r.out]; rfl
      rw [r1.out, r2.out, r3.out]
      clear hfd' r r1 r2 r3
      have hp' : p < va := by omega
      go_enter Try.func17, Try.ntmps17
      go_wp2_with (go_at_call 25; refine hpl.mono ?_; rintro e w1 ⟨rfl, hb1⟩; obtain ⟨b', off', va', nn', cont', seg', of', wrt', e0, hbb, hx2, c0, c1, c2, c3, c4, c5⟩ := MpsD.at (hL0.later hb1) hkn; cases e0; (have e9 := hx2.out; rw [hx.out] at e9; cases e9); have hZ1 := hZ.next hb1; obtain ⟨z0, z1, z2, z3, z4, z5⟩ := hZ1.cells; have zf := hZ1.frozen)
      obtain ⟨g0, g1, g2, g3, g4, g5⟩ := (Mb.set6 (y := ⟨0, 0, 0, 0, 0, false⟩) hZ1).cells
      unfold set6 at g0 g1 g2 g3 g4 g5
      refine bodyPost_ret (v := .tuple #[.agg #[.int .i64 0, .int .i64 0, .int .u64 0, .int .u64 0, .int .i64 0, .bool false], .int .i64 0, .bool false]) (by simp [results, Try.f17, go_sem, g0, g1, g2, g3, g4, g5]) rfl ?_
      exact ⟨rfl, below_set6 (y := ⟨0, 0, 0, 0, 0, false⟩) (hB0.trans (hb1.mono hB0.size)) (Nat.le_refl _)⟩
  · obtain rfl : k = n := by omega
    have r : Hid (fnd L p = none) := by show _ = _; unfold fnd; rw [hk2.out, hln.out, if_neg (fun h => by omega)]
    have r1 : Hid (fM L p = ⟨0, 0, 0, 0, 0, false⟩) := by show _ = _; unfold fM; rw [r.out]; rfl
    have r2 : Hid (fN L p = 0) := by show _ = _; unfold fN; rw [r.out]
    have r3 : Hid (fF L p = false) := by show _ = _; unfold fF; rw [r.out]; rfl
    rw [r1.out, r2.out, r3.out]
    clear r r1 r2 r3 hat hF hk2
    go_enter Try.func17, Try.ntmps17
    go_wp2_with (go_at_call 25; refine hpl.mono ?_; rintro e w1 ⟨rfl, hb1⟩; have hZ1 := hZ.next hb1; obtain ⟨z0, z1, z2, z3, z4, z5⟩ := hZ1.cells; have zf := hZ1.frozen)
    obtain ⟨g0, g1, g2, g3, g4, g5⟩ := (Mb.set6 (y := ⟨0, 0, 0, 0, 0, false⟩) hZ1).cells
    unfold set6 at g0 g1 g2 g3 g4 g5
    refine bodyPost_ret (v := .tuple #[.agg #[.int .i64 0, .int .i64 0, .int .u64 0, .int .u64 0, .int .i64 0, .bool false], .int .i64 0, .bool false]) (by simp [results, Try.f17, go_sem, g0, g1, g2, g3, g4, g5]) rfl ?_
    exact ⟨rfl, below_set6 (y := ⟨0, 0, 0, 0, 0, false⟩) (hB0.trans (hb1.mono hB0.size)) (Nat.le_refl _)⟩

set_option maxHeartbeats 1000000 in
theorem drop_any {w : World} {ao : Option Addr} {n cap : Nat} {L : List Mp} (hL : Mps w.heap.size w ao n cap L) (hF : Fit L) (v : Int) :
    Calls Try.prog 15 #[.slice ao n cap, .int .i64 v] w fun e w' => ∃ u, e = .returned (.tuple #[u, .int .i64 (drE L v)]) ∧ w'.ownsRow w.heap.size 25 6 u (drL L v).length (mpC (drL L v)) ∧ Below w.heap.size w w' := by
  have hln : Hid (L.length = n) := hL.1
  have hn16 : n ≤ 16 := by rw [← hln.out]; exact hF.1
  have hpl := place_b hL hF v
  have hk := ps_le (P := bP v) (L := L)
  obtain ⟨k, hk2⟩ : ∃ k, Hid (dk L v = k) := ⟨_, rfl⟩
  have hk2' : ps (bP v) L = k := hk2.out
  rw [hk2'] at hpl hk
  rw [hln.out] at hk
  clear hk2' hF
  cases ht : thB L v with
  | false =>
    have hE : Hid (drE L v = 1) := by show _ = _; unfold drE; rw [ht]; rfl
    have hR : Hid (drL L v = L) := by show _ = _; unfold drL; rw [ht]; rfl
    rw [hE.out, hR.out]
    clear hE hR
    unfold thB at ht
    rw [decide_eq_false_iff_not, hk2.out, hln.out] at ht
    by_cases hkn : k < n
    · have hkn' : (k : Int) < n := by omega
      have hke : ((k : Int) == (n : Int)) = false := by rw [beq_eq_false_iff_ne]; omega
      obtain ⟨b, off, va, nn, cont, seg, of, wrt, rfl, hbb, hx, _⟩ := MpsD.at hL hkn
      have hne : (va == v) = false := by rw [beq_eq_false_iff_ne]; intro e; exact ht ⟨hkn, by rw [hx.out]; exact e⟩
      clear ht
      go_enter Try.func15, Try.ntmps15
      go_wp2_with (first | (go_at_call 25; refine hpl.mono ?_; rintro e w1 ⟨rfl, hb1⟩; obtain ⟨b', off', va', nn', cont', seg', of', wrt', e0, hbb, hx2, c0, c1, c2, c3, c4, c5⟩ := MpsD.at (hL.later hb1) hkn; cases e0; (have e9 := hx2.out; rw [hx.out] at e9; cases e9)) | (go_at_call 24; refine (copied_any (hL.next hb1) (by omega)).mono ?_; rintro e w2 ⟨u, rfl, hown, hb2⟩))
      go_ret2
      exact ⟨_, rfl, ownsRow_base hb1.size hown, hb1.trans (hb2.mono hb1.size)⟩
    · obtain rfl : k = n := by omega
      clear ht
      go_enter Try.func15, Try.ntmps15
      go_wp2_with (first | (go_at_call 25; refine hpl.mono ?_; rintro e w1 ⟨rfl, hb1⟩) | (go_at_call 24; refine (copied_any (hL.next hb1) (by omega)).mono ?_; rintro e w2 ⟨u, rfl, hown, hb2⟩))
      go_ret2
      exact ⟨_, rfl, ownsRow_base hb1.size hown, hb1.trans (hb2.mono hb1.size)⟩
  | true =>
    have hE : Hid (drE L v = 0) := by show _ = _; unfold drE; rw [ht]; rfl
    have hR : Hid (drL L v = L.take k ++ L.drop (k + 1)) := by show _ = _; unfold drL delL; rw [ht, hk2.out]; rfl
    rw [hE.out, hR.out]
    clear hE hR
    unfold thB at ht
    rw [decide_eq_true_iff, hk2.out, hln.out] at ht
    obtain ⟨hkn, hkv⟩ := ht
    have hkn' : (k : Int) < n := by omega
    have hke : ((k : Int) == (n : Int)) = false := by rw [beq_eq_false_iff_ne]; omega
    obtain ⟨b, off, va, nn, cont, seg, of, wrt, rfl, hbb, hx, _⟩ := MpsD.at hL hkn
    rw [hx.out] at hkv
    simp only at hkv
    subst hkv
    have hnc : n ≤ cap := hL.2.1
    have hs1 := fun W => slice_to (ao := some ⟨b, off, none⟩) (n := n) (cap := cap) (k := k) (by omega) hnc W
    obtain ⟨k1, hk1⟩ : ∃ k1, k1 = k + 1 := ⟨_, rfl⟩
    have hw1 : IntKind.i64.wrap ((k : Int) + 1) = (k1 : Int) := by rw [IntKind.wrap_i64]; omega
    obtain ⟨a', hD', hs2, hnx⟩ := slice_from hL (k := k1) (by omega)
    rw [← hk1]
    have hk1n : k1 ≤ n := by omega
    clear hk1
    go_enter Try.func15, Try.ntmps15
    go_wp2_with (first | (go_at_call 25; refine hpl.mono ?_; rintro e w1 ⟨rfl, hb1⟩; obtain ⟨b', off', va', nn', cont', seg', of', wrt', e0, hbb, hx2, c0, c1, c2, c3, c4, c5⟩ := MpsD.at (hL.later hb1) hkn; cases e0; (have e9 := hx2.out; rw [hx.out] at e9; cases e9)))
    have hb1d : Below w1.heap.size w1 w1.drew := (Below.refl _ _).drew
    have hLd := (hL.next hb1).next hb1d
    have hT := hLd.take (k := k) (by omega)
    have hln16 : (L.take k).length + (n - k1) < 68719476736 := by rw [List.length_take]; omega
    go_region_held3 (fun W => True) (exact trivial) (first | (go_at_call 24; refine (copied_any hT (by omega)).mono ?_; rintro e w2 ⟨u, rfl, hown, hb2⟩) | (refine step_append_mps rfl _ _ rfl w1.drew.heap.size _ (L.take k) rfl hown w2.heap.size _ _ _ (L.drop k1) rfl (hnx (hLd.next hb2)) hln16 hb2.size ?_; intro u2 w3 hown3 hgrow3))
    have hbd := hb1.trans (hb1d.mono hb1.size)
    have hb12 := hbd.trans (hb2.mono hbd.size)
    have hfin := row_below hown hb12 hb12.size hbd.size hgrow3
    go_wp2
    go_ret2
    exact ⟨_, rfl, ownsRow_base hbd.size hown3, hfin⟩
end Go.Proofs.Ytnfdmbbipkcdkaa
