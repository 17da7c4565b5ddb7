/-
  PROVED HERE: what Same and Get of package intern return when they are called (contracts over this translation). Get's labels have at most 16 pairs.
-/
import Derived.Test.YtdljoapbeelgiaaItn6
namespace Go.Proofs.Ytdljoapbeelgiaa
open Go.ChangeShapes Go.WideShapes Go.ChangeAt Go.RowKit
set_option linter.unusedVariables false

theorem eqfunc_any {D D' : Nat → Prop} {w : World} {a a' : Option Addr} {n c n' c' : Nat} {R R' : List (List (Int × Int))} (h : RowD D w a n c R) (h' : RowD D' w a' n' c' R') (hD : ∀ b, D b → b < w.heap.size) (hD' : ∀ b, D' b → b < w.heap.size) :
    Calls Try.prog 27 #[.slice a n c, .slice a' n' c', .func (.func 28) #[] #[]] w fun e w' => e = .returned (.bool (decide (R = R'))) ∧ Below w.heap.size w w' := by
  have hn := h.1
  have hn' := h'.1
  have hnc := h.2.1
  have hcm := h.2.2.1.1
  by_cases hnn : n = n'
  · subst hnn
    go_enter Try.func27, Try.ntmps27
    go_wp2
    go_loopw [17] (fun i wr => ∃ k : Nat, k ≤ n ∧ i = .int .i64 k ∧ (∀ j, j < k → R.getD j [] = R'.getD j []) ∧ Below w.heap.size w wr) (fun i _ => n - (intOf i).toNat)
    case atStart => exact ⟨0, Nat.zero_le _, rfl, fun j hj => absurd hj (by omega), Below.refl _ _⟩
    case round =>
      obtain ⟨k, hk, rfl, hal, hb⟩ := hrel
      by_cases hkn : k < n
      · obtain ⟨b, off, rfl, hB, hc⟩ := h.2.2.2 (by omega)
        obtain ⟨b', off', rfl, hB', hc'⟩ := h'.2.2.2 (by omega)
        obtain ⟨ai, ki, ci, q1, q2⟩ := hc k hkn
        obtain ⟨ai', ki', ci', q1', q2'⟩ := hc' k hkn
        have r1 := (hb.cell (p := ⟨b, off + k, none⟩) (hD _ hB)).trans q1
        have r1' := (hb.cell (p := ⟨b', off' + k, none⟩) (hD' _ hB')).trans q1'
        have L1 := (q2.lab hD).later hb
        have L1' := (q2'.lab hD').later hb
        have hkn' : (k : Int) < n := by omega
        have hnc' := h'.2.1
        have hcm' := h'.2.2.1.1
        clear hc hc' q1 q1' q2 q2'
        cases hs : sameB (R.getD k []) (R'.getD k []) with
        | true =>
          have hs' : R.getD k [] = R'.getD k [] := by simpa [sameB] using hs
          go_wp2_with (go_at_call 28; refine (same_any L1 hb.size L1' hb.size).mono ?_; rintro e w1 ⟨rfl, hb1⟩; rw [hs])
          go_roundw
          case rel => exact ⟨k + 1, by omega, by go_num, fun j hj => by
              rcases Nat.lt_or_ge j k with h | h
              · exact hal j h
              · obtain rfl : j = k := by omega
                exact hs', hb.trans (hb1.mono hb.size)⟩
          case measure => simp [intOf]; omega
        | false =>
          have hf : decide (R = R') = false := by rw [decide_eq_false_iff_not]; intro e; rw [e] at hs; simp [sameB] at hs
          go_wp2_with (go_at_call 28; refine (same_any L1 hb.size L1' hb.size).mono ?_; rintro e w1 ⟨rfl, hb1⟩; rw [hs])
          go_ret
          exact ⟨(by rw [hf]; rfl), hb.trans (hb1.mono hb.size)⟩
      · obtain rfl : k = n := by omega
        have hf : decide (R = R') = true := by
          rw [decide_eq_true_iff]
          apply List.ext_getElem (by omega)
          intro i h1 h2
          have := hal i (by omega)
          simpa [List.getD_eq_getElem?_getD, List.getElem?_eq_getElem h1, List.getElem?_eq_getElem h2] using this
        go_wp2
        go_ret
        exact ⟨(by rw [hf]; rfl), hb⟩
  · have hf : decide (R = R') = false := by rw [decide_eq_false_iff_not]; intro e; rw [e] at hn; omega
    have hne : ((n : Int) == (n' : Int)) = false := by simp; omega
    rw [hf]
    go_enter Try.func27, Try.ntmps27
    go_wp2
    go_ret
    exact ⟨rfl, Below.refl _ _⟩
def eqT (LL LL' : List (List (Int × Int))) (CC CC' : List Int) : Bool := decide (LL = LL') && decide (CC = CC')
theorem eqT_refl (LL : List (List (Int × Int))) (CC : List Int) : eqT LL LL CC CC = true := by simp [eqT]
theorem tsame_any {D D' : Nat → Prop} {w : World} {a a' e e' : Option Addr} {n c n' c' m d m' d' : Nat} {LL LL' : List (List (Int × Int))} {CC CC' : List Int}
    (h : TabD D w a n c a' n' c' LL CC) (h' : TabD D' w e m d e' m' d' LL' CC') (hD : ∀ b, D b → b < w.heap.size) (hD' : ∀ b, D' b → b < w.heap.size) :
    Calls Try.prog 10 #[.agg #[.slice a n c, .slice a' n' c'], .agg #[.slice e m d, .slice e' m' d']] w fun e w' => e = .returned (.bool (eqT LL LL' CC CC')) ∧ Below w.heap.size w w' := by
  obtain ⟨W0, hW0⟩ : ∃ W0, Hid ((w.alloc (.cells #[.slice a n c, .slice a' n' c'] 25)).alloc (.cells #[.slice e m d, .slice e' m' d'] 25) = W0) := ⟨_, rfl⟩
  have hb0 : Below w.heap.size w ((w.alloc (.cells #[.slice a n c, .slice a' n' c'] 25)).alloc (.cells #[.slice e m d, .slice e' m' d'] 25)) := ((Below.refl _ w).alloc (Nat.le_refl _) _).alloc (by simp) _
  have c1 : ((w.alloc (.cells #[.slice a n c, .slice a' n' c'] 25)).alloc (.cells #[.slice e m d, .slice e' m' d'] 25)).cell? ⟨w.heap.size, 1, none⟩ = some (.slice a' n' c') := cellLater (by simp) _
  have c2 : ((w.alloc (.cells #[.slice a n c, .slice a' n' c'] 25)).alloc (.cells #[.slice e m d, .slice e' m' d'] 25)).cell? ⟨w.heap.size + 1, 1, none⟩ = some (.slice e' m' d') := by
    have := World.size_alloc (w := w) (o := .cells #[.slice a n c, .slice a' n' c'] 25)
    simp
  have hsz : ((w.alloc (.cells #[.slice a n c, .slice a' n' c'] 25)).alloc (.cells #[.slice e m d, .slice e' m' d'] 25)).heap.size = w.heap.size + 2 := by simp
  have k1 : Keeps D w ((w.alloc (.cells #[.slice a n c, .slice a' n' c'] 25)).alloc (.cells #[.slice e m d, .slice e' m' d'] 25)) := ⟨hb0.size, fun b hb => hb0.block b (hD b hb)⟩
  have k2 : Keeps D' w ((w.alloc (.cells #[.slice a n c, .slice a' n' c'] 25)).alloc (.cells #[.slice e m d, .slice e' m' d'] 25)) := ⟨hb0.size, fun b hb => hb0.block b (hD' b hb)⟩
  have t1 := h.later k1
  have t2 := h'.later k2
  cases hs : decide (LL = LL') with
  | true =>
    have hf : eqT LL LL' CC CC' = decide (CC = CC') := by unfold eqT; rw [hs]; rfl
    rw [hf]
    go_enter Try.func10, Try.ntmps10
    go_wp2_with (first | (go_at_call 27; refine (eqfunc_any t1.1 t2.1 (fun b hb => Nat.lt_of_lt_of_le (hD b hb) hb0.size) (fun b hb => Nat.lt_of_lt_of_le (hD' b hb) hb0.size)).mono ?_; rintro e w1 ⟨rfl, hb1⟩; rw [hs]; have d1 := (hb1.cell (p := ⟨w.heap.size, 1, none⟩) (by rw [hsz]; show w.heap.size < w.heap.size + 2; omega)).trans c1; have d2 := (hb1.cell (p := ⟨w.heap.size + 1, 1, none⟩) (by rw [hsz]; show w.heap.size + 1 < w.heap.size + 2; omega)).trans c2; have HB : Hid (Below w.heap.size w w1) := hb0.trans (hb1.mono hb0.size)) | (go_at_call 29; refine (iequal_any (h.2.later ⟨HB.out.size, fun b hb => HB.out.block b (hD b hb)⟩) (h'.2.later ⟨HB.out.size, fun b hb => HB.out.block b (hD' b hb)⟩) (fun b hb => Nat.lt_of_lt_of_le (hD b hb) HB.out.size) (fun b hb => Nat.lt_of_lt_of_le (hD' b hb) HB.out.size)).mono ?_; rintro e w2 ⟨rfl, hb2⟩))
    go_ret
    exact ⟨rfl, HB.out.trans (hb2.mono HB.out.size)⟩
  | false =>
    have hf : eqT LL LL' CC CC' = false := by unfold eqT; rw [hs]; rfl
    rw [hf]
    go_enter Try.func10, Try.ntmps10
    go_wp2_with (go_at_call 27; refine (eqfunc_any t1.1 t2.1 (fun b hb => Nat.lt_of_lt_of_le (hD b hb) hb0.size) (fun b hb => Nat.lt_of_lt_of_le (hD' b hb) hb0.size)).mono ?_; rintro e w1 ⟨rfl, hb1⟩; rw [hs])
    go_ret
    exact ⟨rfl, hb0.trans (hb1.mono hb0.size)⟩
theorem tget_any {w : World} {a a' : Option Addr} {n c c' : Nat} {Z : Zt} (x : Int) (hT : Tab w a n c a' c' Z) (hs : ∀ i, (zat Z i).1.length ≤ 16) :
    Calls Try.prog 16 #[.agg #[.slice a n c, .slice a' n c'], .int .i64 x] w fun e w' => ∃ ao k cap, e = .returned (.tuple #[.slice ao k cap, .int .i64 (getR Z x).2]) ∧ Lab w'.heap.size w' ao k cap (getR Z x).1 ∧ Below w.heap.size w w' := by
  have hl := hT.len
  have hnc1 := hT.1.2.1
  have hcm1 := hT.1.2.2.1.1
  have hb0 : Below w.heap.size w (w.alloc (.cells #[.slice a n c, .slice a' n c'] 25)) := (Below.refl _ w).alloc (Nat.le_refl _) _
  have hT0 := hT.next hb0
  cases hk : asksB Z x with
  | false =>
    have hg : getR Z x = ([], 1) := by unfold getR; rw [hk]; rfl
    rw [hg]
    clear hT
    go_enter Try.func16, Try.ntmps16
    go_wp2_with (go_at_call 36; refine (isAsked_any x hT0).mono ?_; rintro e w1 ⟨rfl, hb1⟩; rw [hk])
    go_ret2
    exact ⟨_, _, _, rfl, Lab.nil _ _, hb0.trans (hb1.mono hb0.size)⟩
  | true =>
    have hg : getR Z x = ((zat Z x.toNat).1, 0) := by unfold getR; rw [hk]; rfl
    rw [hg]
    have hk' := hk
    unfold asksB at hk'
    simp only [Bool.and_eq_true, decide_eq_true_iff] at hk'
    obtain ⟨h0, h1, h2⟩ := hk'
    obtain ⟨m, rfl⟩ : ∃ m : Nat, x = m := ⟨x.toNat, by omega⟩
    have hmn : (m : Int) < n := by omega
    obtain ⟨b, off, b', off', ai, ki, ci, rfl, rfl, hB, hB', q1, q3, q2⟩ := TabD.at hT0 (i := m) (by omega)
    have hki := q2.1
    have h16 := hs m
    have HQ : Hid (LabD _ _ ai ki ci (zat Z m).1) := q2
    clear hT h2 q2 q3
    go_enter Try.func16, Try.ntmps16
    go_wp2_with (first | (go_at_call 36; refine (isAsked_any (m : Int) hT0).mono ?_; rintro e w1 ⟨rfl, hb1⟩; rw [hk]; have d0 := (hb1.cell (p := ⟨w.heap.size, 0, none⟩) (by simp)).trans (show (w.alloc (.cells #[.slice (some ⟨b, off, none⟩) n c, .slice (some ⟨b', off', none⟩) n c'] 25)).cell? ⟨w.heap.size, 0, none⟩ = some (.slice (some ⟨b, off, none⟩) n c) from by simp); have d1 := (hb1.cell (p := ⟨b, off + m, none⟩) hB).trans q1; have HB : Hid (Below w.heap.size w w1) := hb0.trans (hb1.mono hb0.size); have HL : Hid (Lab w1.heap.size w1 ai ki ci (zat Z m).1) := Lab.next HQ.out hb1; clear hT0 q1) | (go_at_call 37; refine (icopied_any HL.out (by omega)).mono ?_; rintro e w2 ⟨ao, cap, rfl, ho, hb2⟩))
    go_ret2
    exact ⟨_, _, _, rfl, ho.lab, HB.out.trans (hb2.mono HB.out.size)⟩
end Go.Proofs.Ytdljoapbeelgiaa
