/-
  PROVED HERE: what the document's Find and Drop return when they are called (contracts over this translation). The maps are fit.
-/
import Derived.Test.YtnfdmbbipkcdkaaPg7
namespace Go.Proofs.Ytnfdmbbipkcdkaa
open Go.RowKit Go.Shelf
set_option linter.unusedVariables false
attribute [local go_sem] Oper.semAt_some
open Pg

theorem no_succ {p : Nat → Bool} {k : Nat} (h : ∀ i, i < k → p i = false) (hk : p k = false) : ∀ i, i < k + 1 → p i = false := fun i hi => by
  rcases Nat.lt_or_ge i k with h' | h'
  · exact h i h'
  · have : i = k := by omega
    rw [this]; exact hk
theorem It.other6 {X : World} {b o g : Nat} {v0 v1 v2 v3 v4 : Int} {v5 : Bool} {y : Mp} (hne : b ≠ g) (h : It X b o v0 v1 v2 v3 v4 v5) : It (set6 X g y) b o v0 v1 v2 v3 v4 v5 := by
  have f : ∀ {j : Nat} {v : Value}, X.cell? ⟨b, j, none⟩ = some v → (set6 X g y).cell? ⟨b, j, none⟩ = some v := fun h => by
    unfold set6
    rw [cell_set_ne hne, cell_set_ne hne, cell_set_ne hne, cell_set_ne hne, cell_set_ne hne, cell_set_ne hne]
    exact h
  obtain ⟨a0, a1, a2, a3, a4, a5⟩ := h
  exact ⟨f a0, f a1, f a2, f a3, f a4, f a5⟩
set_option maxRecDepth 100000 in
set_option maxHeartbeats 2000000 in
theorem rfind_any {w : World} {ao : Option Addr} {n cap : Nat} {L : List Mp} (hL : Mps w.heap.size w ao n cap L) (hF : Fit L) (p : Int) :
    Calls Try.prog 18 #[.slice ao n cap, .int .i64 p] w fun e w' => e = .returned (.tuple #[.agg (mpV (fM L p)), .int .i64 (fN L p), .bool (fF L p)]) ∧ Below w.heap.size w w' := by
  have hln : Hid (L.length = n) := hL.1
  have hn16 : n ≤ 16 := by rw [← hln.out]; exact hF.1
  have hHF : Hid (Fit L) := hF
  have hB0 : Below w.heap.size w (w.alloc (.cells #[.int .i64 0, .int .i64 0, .int .u64 0, .int .u64 0, .int .i64 0, .bool false] 25)) := (Below.refl _ w).alloc (Nat.le_refl _) _
  have hZ0 := Mb.new w ⟨0, 0, 0, 0, 0, false⟩
  clear hF
  go_enter Try.func18, Try.ntmps18
  go_wp2
  go_loopw [7] (fun i wr => ∃ k : Nat, k ≤ n ∧ i = .int .i64 k ∧ Hid (∀ i, i < k → hasB (mat L i) p = false) ∧ Mb wr w.heap.size ⟨0, 0, 0, 0, 0, false⟩ ∧ Below w.heap.size w wr) (fun i _ => n - (intOf i).toNat)
  case atStart => exact ⟨0, Nat.zero_le _, rfl, fun j hj => absurd hj (by omega), hZ0, hB0⟩
  case round =>
    clear hZ0 hB0
    obtain ⟨k, hk, rfl, hal, hZ, hb⟩ := hrel
    by_cases hkn : k < n
    · obtain ⟨b, off, va, nn, cont, seg, of, wrt, rfl, hbb, hx, c0, c1, c2, c3, c4, c5⟩ := MpsD.at (hL.later hb) hkn
      have hkl : Hid (k < L.length) := by show k < L.length; rw [hln.out]; exact hkn
      have hkn' : (k : Int) < n := by omega
      have hone := hHF.out.one hkl.out
      rw [hx.out] at hone
      obtain ⟨o1, o2, o3, o4, o5⟩ := hone
      simp only at o1 o2 o3 o4 o5
      have hw : IntKind.i64.wrap (va + nn) = va + nn := by rw [IntKind.wrap_i64]; omega
      by_cases h1 : va ≤ p
      · have h1' : decide (va ≤ p) = true := decide_eq_true h1
        by_cases h2 : p < va + nn
        · have h2' : decide (p < va + nn) = true := decide_eq_true h2
          have r : Hid (fnd L p = some ⟨va, nn, cont, seg, of, wrt⟩) := (fnd_some hHF.out).2 ⟨by rw [← hx.out]; exact mat_mem hkl.out, hasB_iff.2 ⟨h1, h2⟩⟩
          have r1 : Hid (fM L p = ⟨va, nn, cont, seg, of, wrt⟩) := by show _ = _; unfold fM; rw [r.out]; rfl
          have r2 : Hid (fN L p = of + p - va) := by show _ = _; unfold fN; rw [r.out]
          have r3 : Hid (fF L p = true) := by show _ = _; unfold fF; rw [r.out]; rfl
          have hw1 : IntKind.i64.wrap (of + p) = of + p := by rw [IntKind.wrap_i64]; omega
          have hw2 : IntKind.i64.wrap (of + p - va) = of + p - va := by rw [IntKind.wrap_i64]; omega
          have hne : b ≠ w.heap.size := by omega
          go_wp2
          go_quiet (fail)
          go_wp2
          have hq := below_drewN (Below.refl wr.heap.size wr) nq
          have hZ2 := hZ.next hq
          have hb2 := below_drewN hb nq
          have cc : It (wr.drewN nq) b (off + k * 6) va nn cont seg of wrt := It.next ⟨c0, c1, c2, c3, c4, c5⟩ hq
          generalize wr.drewN nq = W2 at hZ2 hb2 cc ⊢
          clear c0 c1 c2 c3 c4 c5 hq
          obtain ⟨c0, c1, c2, c3, c4, c5⟩ := cc
          obtain ⟨z0, z1, z2, z3, z4, z5⟩ := hZ2.cells
          have zf := hZ2.frozen
          have it0 : It W2.drew b (off + k * 6) va nn cont seg of wrt := It.next ⟨c0, c1, c2, c3, c4, c5⟩ (Below.refl _ _).drew
          have hS2 : It (set6 W2 w.heap.size ⟨va, nn, cont, seg, of, wrt⟩).drew b (off + k * 6) va nn cont seg of wrt := It.next (It.other6 hne ⟨c0, c1, c2, c3, c4, c5⟩) (Below.refl _ _).drew
          have hS3 : It (set6 W2.drew w.heap.size ⟨va, nn, cont, seg, of, wrt⟩) b (off + k * 6) va nn cont seg of wrt := It.other6 hne it0
          unfold It set6 at hS2 hS3
          simp only at hS2 hS3
          go_region_held3 (fun W => W.cell? ⟨b, off + k * 6, none⟩ = some (.int .i64 va) ∧ W.cell? ⟨b, off + k * 6 + 1, none⟩ = some (.int .i64 nn) ∧ W.cell? ⟨b, off + k * 6 + 2, none⟩ = some (.int .u64 cont) ∧ W.cell? ⟨b, off + k * 6 + 3, none⟩ = some (.int .u64 seg) ∧ W.cell? ⟨b, off + k * 6 + 4, none⟩ = some (.int .i64 of) ∧ W.cell? ⟨b, off + k * 6 + 5, none⟩ = some (.bool wrt)) (first | go_keep | exact hS2 | exact hS3 | fail) (fail)
          obtain ⟨g0, g1, g2, g3, g4, g5⟩ := ((Mb.set6 (y := ⟨va, nn, cont, seg, of, wrt⟩) hZ2).next (Below.refl _ _).drew).cells
          unfold set6 at g0 g1 g2 g3 g4 g5
          go_wp2
          refine bodyPost_ret (v := .tuple #[.agg #[.int .i64 va, .int .i64 nn, .int .u64 cont, .int .u64 seg, .int .i64 of, .bool wrt], .int .i64 (of + p - va), .bool true]) (by simp [results, Try.f18, go_sem, g0, g1, g2, g3, g4, g5]) rfl ?_
          exact ⟨by rw [r1.out, r2.out, r3.out]; rfl, (below_set6 (y := ⟨va, nn, cont, seg, of, wrt⟩) hb2 (Nat.le_refl _)).drew⟩
        · have h2' : decide (p < va + nn) = false := decide_eq_false h2
          have hal2 : Hid (∀ i, i < k + 1 → hasB (mat L i) p = false) := no_succ hal.out (by rw [hx.out]; unfold hasB; rw [decide_eq_false_iff_not]; exact fun q => h2 q.2)
          go_wp2
          go_quiet (fail)
          go_wp2
          go_roundw
          case rel => exact ⟨k + 1, by omega, by go_num, hal2, hZ.next (below_drewN (Below.refl _ _) _), below_drewN hb _⟩
          case measure => simp [intOf]; omega
      · have h1' : decide (va ≤ p) = false := decide_eq_false h1
        have hal2 : Hid (∀ i, i < k + 1 → hasB (mat L i) p = false) := no_succ hal.out (by rw [hx.out]; unfold hasB; rw [decide_eq_false_iff_not]; exact fun q => h1 q.1)
        go_wp2
        go_quiet (fail)
        go_wp2
        go_roundw
        case rel => exact ⟨k + 1, by omega, by go_num, hal2, hZ.next (below_drewN (Below.refl _ _) _), below_drewN hb _⟩
        case measure => simp [intOf]; omega
    · obtain rfl : k = n := by omega
      have r : Hid (fnd L p = none) := (fnd_none hHF.out).2 fun x hx => by obtain ⟨i, hi, rfl⟩ := mem_mat hx; exact hal.out i (by rw [hln.out] at hi; exact hi)
      have r1 : Hid (fM L p = ⟨0, 0, 0, 0, 0, false⟩) := by show _ = _; unfold fM; rw [r.out]; rfl
      have r2 : Hid (fN L p = 0) := by show _ = _; unfold fN; rw [r.out]
      have r3 : Hid (fF L p = false) := by show _ = _; unfold fF; rw [r.out]; rfl
      obtain ⟨z0, z1, z2, z3, z4, z5⟩ := hZ.cells
      have zf := hZ.frozen
      go_wp2
      obtain ⟨g0, g1, g2, g3, g4, g5⟩ := (Mb.set6 (y := ⟨0, 0, 0, 0, 0, false⟩) hZ).cells
      unfold set6 at g0 g1 g2 g3 g4 g5
      refine bodyPost_ret (v := .tuple #[.agg #[.int .i64 0, .int .i64 0, .int .u64 0, .int .u64 0, .int .i64 0, .bool false], .int .i64 0, .bool false]) (by simp [results, Try.f18, go_sem, g0, g1, g2, g3, g4, g5]) rfl ?_
      exact ⟨by rw [r1.out, r2.out, r3.out]; rfl, below_set6 (y := ⟨0, 0, 0, 0, 0, false⟩) hb (Nat.le_refl _)⟩
namespace Pg
def keepB (v : Int) (x : Mp) : Bool := !(x.va == v)
theorem drop_no {L : List Mp} {v : Int} (h : Fit L) (ht : thB L v = false) : L.filter (keepB v) = L := by
  rw [List.filter_eq_self]
  intro x hx
  obtain ⟨i, hi, rfl⟩ := mem_mat hx
  have := (th_iff h).1 ht i hi
  unfold keepB
  rw [beq_eq_false_iff_ne.2 this]
  rfl
theorem drop_yes {L : List Mp} {v : Int} (h : Fit L) (ht : thB L v = true) : L.filter (keepB v) = drL L v ∧ (drL L v).length + 1 = L.length := by
  have ht' := ht
  unfold thB at ht'
  rw [decide_eq_true_iff] at ht'
  obtain ⟨hk, hv⟩ := ht'
  have hd : drL L v = L.take (dk L v) ++ L.drop (dk L v + 1) := by unfold drL delL; rw [if_pos ht]
  constructor
  · have hl : L = L.take (dk L v) ++ mat L (dk L v) :: L.drop (dk L v + 1) := by
      rw [mat_get hk]
      simp
    rw [hd]
    conv => lhs; rw [hl]
    rw [List.filter_append, List.filter_cons, if_neg (by unfold keepB; rw [hv]; simp)]
    congr 1
    · rw [List.filter_eq_self]
      intro x hx
      obtain ⟨i, hi, rfl⟩ := List.mem_iff_getElem.1 hx
      rw [List.length_take] at hi
      have hi' : i < dk L v := by omega
      have e : (L.take (dk L v))[i] = mat L i := by rw [mat_get (by omega)]; simp
      rw [e]
      have r := h.rise hi' hk
      have := (h.one (i := i) (by omega)).2.1
      unfold keepB
      rw [beq_eq_false_iff_ne.2 (by omega)]
      rfl
    · rw [List.filter_eq_self]
      intro x hx
      obtain ⟨i, hi, rfl⟩ := List.mem_iff_getElem.1 hx
      rw [List.length_drop] at hi
      have e : (L.drop (dk L v + 1))[i] = mat L (dk L v + 1 + i) := by rw [mat_get (by omega)]; simp
      rw [e]
      have r := h.rise (i := dk L v) (j := dk L v + 1 + i) (by omega) (by omega)
      have := (h.one hk).2.1
      unfold keepB
      rw [beq_eq_false_iff_ne.2 (by omega)]
      rfl
  · rw [hd, List.length_append, List.length_take, List.length_drop]
    omega
theorem keep_hit {L : List Mp} {v : Int} {k : Nat} (h : k < L.length) (e : keepB v (mat L k) = true) : (L.take (k + 1)).filter (keepB v) = (L.take k).filter (keepB v) ++ [mat L k] := by
  rw [take_snoc h, List.filter_append]; simp [e]
theorem keep_miss {L : List Mp} {v : Int} {k : Nat} (h : k < L.length) (e : keepB v (mat L k) = false) : (L.take (k + 1)).filter (keepB v) = (L.take k).filter (keepB v) := by
  rw [take_snoc h, List.filter_append]; simp [e]
end Pg
set_option maxRecDepth 100000 in
set_option maxHeartbeats 2000000 in
theorem rdrop_any {w : World} {ao : Option Addr} {n cap : Nat} {L : List Mp} (hL : Mps w.heap.size w ao n cap L) (hF : Fit L) (v : Int) :
    Calls Try.prog 16 #[.slice ao n cap, .int .i64 v] w fun e w' => ∃ ao1 cap1, e = .returned (.tuple #[.slice ao1 (drL L v).length cap1, .int .i64 (drE L v)]) ∧ Mps w'.heap.size w' ao1 (drL L v).length cap1 (drL L v) ∧ Below w.heap.size w w' := by
  have hln : Hid (L.length = n) := hL.1
  have hn16 : n ≤ 16 := by rw [← hln.out]; exact hF.1
  have hHF : Hid (Fit L) := hF
  clear hF
  go_enter Try.func16, Try.ntmps16
  go_wp2
  go_loopw [6, 7] (fun vo vi wr => ∃ (k : Nat) (M : List Mp), k ≤ n ∧ vi = .int .i64 k ∧ wr.ownsRow w.heap.size 25 6 vo M.length (mpC M) ∧ M.length ≤ k ∧ Hid (M = (L.take k).filter (keepB v)) ∧ Below w.heap.size w wr) (fun _ vi _ => n - (intOf vi).toNat)
  case atStart => exact ⟨0, [], Nat.zero_le _, rfl, World.ownsRow_nil _ _ _ _, Nat.le_refl _, rfl, Below.refl _ _⟩
  case round =>
    obtain ⟨k, M, hk, rfl, hrow, hMk, hM, hb⟩ := hrel
    by_cases hkn : k < n
    · obtain ⟨b, off, va, nn, cont, seg, of, wrt, rfl, hbb, hx, c0, c1, c2, c3, c4, c5⟩ := MpsD.at (hL.later hb) hkn
      have hkl : Hid (k < L.length) := by show k < L.length; rw [hln.out]; exact hkn
      have hkn' : (k : Int) < n := by omega
      by_cases hv : va = v
      · have hv' : (va == v) = true := by rw [beq_iff_eq]; exact hv
        have hM2 : Hid (M = (L.take (k + 1)).filter (keepB v)) := by show _ = _; rw [keep_miss hkl.out (by rw [hx.out]; unfold keepB; rw [hv']; rfl)]; exact hM.out
        clear hv
        go_wp2
        go_roundw
        case rel => exact ⟨k + 1, M, by omega, by simp, hrow, by omega, hM2, hb⟩
        case measure => simp [intOf]; omega
      · have hv' : (va == v) = false := by rw [beq_eq_false_iff_ne]; exact hv
        have hM2 : Hid (M ++ [(⟨va, nn, cont, seg, of, wrt⟩ : Mp)] = (L.take (k + 1)).filter (keepB v)) := by show _ = _; rw [keep_hit hkl.out (by rw [hx.out]; unfold keepB; rw [hv']; rfl), ← hM.out, hx.out]
        have hal : Below wr.heap.size wr (wr.alloc (.cells #[.int .i64 va, .int .i64 nn, .int .u64 cont, .int .u64 seg, .int .i64 of, .bool wrt] 25)) := (Below.refl _ wr).alloc (Nat.le_refl _) _
        have hlen1 : M.length + 1 < 68719476736 := by omega
        clear hv
        go_wp2_with (at_builtin; refine wpList_append_mps rfl _ _ rfl w.heap.size _ M rfl (row_next hrow hal) _ _ _ _ [(⟨va, nn, cont, seg, of, wrt⟩ : Mp)] rfl (mps_one (Mb.new wr ⟨va, nn, cont, seg, of, wrt⟩)) hlen1 (Nat.le_trans hb.size hal.size) ?_; intro u6 w6 hown6 hgrow6)
        go_roundw
        case rel => exact ⟨k + 1, M ++ [(⟨va, nn, cont, seg, of, wrt⟩ : Mp)], by omega, by simp, hown6, by rw [List.length_append]; simp; omega, hM2, row_below (row_next hrow hal) (hb.trans (hal.mono hb.size)) (Nat.le_trans hb.size hal.size) (Nat.le_refl _) hgrow6⟩
        case measure => simp [intOf]; omega
    · obtain ⟨ao2, cap2, rfl, hMm⟩ := mps_of_row hrow
      have hM3 : Hid (M = L.filter (keepB v)) := by show _ = _; rw [hM.out, List.take_of_length_le (by rw [hln.out]; omega)]
      have hkn' : ¬ (k : Int) < n := by omega
      cases ht : thB L v with
      | false =>
        have hE : Hid (drE L v = 1) := by show _ = _; unfold drE; rw [ht]; rfl
        have hR : Hid (drL L v = L) := by show _ = _; unfold drL; rw [ht]; rfl
        have hl : M.length = n := by rw [hM3.out, drop_no hHF.out ht, hln.out]
        have hl' : ((M.length : Int) == (n : Int)) = true := by rw [beq_iff_eq]; omega
        clear hl
        go_wp2
        go_ret2
        exact ⟨ao, cap, by rw [hE.out, hR.out, hln.out]; rfl, by rw [hR.out, hln.out]; exact hL.next hb, hb⟩
      | true =>
        have hE : Hid (drE L v = 0) := by show _ = _; unfold drE; rw [ht]; rfl
        obtain ⟨hy1, hy2⟩ := drop_yes hHF.out ht
        have hl' : ((M.length : Int) == (n : Int)) = false := by rw [beq_eq_false_iff_ne, hM3.out, hy1]; have := hln.out; omega
        have hR : Hid (drL L v = M) := by show _ = _; rw [hM3.out, hy1]
        clear hy1 hy2
        go_wp2
        go_ret2
        exact ⟨ao2, cap2, by rw [hE.out, hR.out]; rfl, by rw [hR.out]; exact hMm, hb⟩
end Go.Proofs.Ytnfdmbbipkcdkaa
