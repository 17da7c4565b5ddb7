/-
  PROVED HERE: what Same of the document's layer 5 returns when it is called (a contract over this translation). No condition.
-/
import Derived.Test.YtdljoapbeelgiaaItn17
namespace Go.Proofs.Ytdljoapbeelgiaa
open Go.ChangeShapes Go.WideShapes Go.ChangeAt Go.RowKit
set_option linter.unusedVariables false

set_option maxRecDepth 100000 in
set_option maxHeartbeats 2000000 in
theorem rtsame_any {D D' : Nat → Prop} {w : World} {a a' e e' : Option Addr} {n c n' c' m d m' d' : Nat} {LL LL' : List (List (Int × Int))} {CC CC' : List Int}
    (h : TabD D w a n c a' n' c' LL CC) (h' : TabD D' w e m d e' m' d' LL' CC') (hD : ∀ b, D b → b < w.heap.size) (hD' : ∀ b, D' b → b < w.heap.size) :
    Calls Try.prog 11 #[.agg #[.slice a n c, .slice a' n' c'], .agg #[.slice e m d, .slice e' m' d']] w fun e w' => e = .returned (.bool (eqT LL LL' CC CC')) ∧ Below w.heap.size w w' := by
  have hb0 : Below w.heap.size w ((w.alloc (.cells #[.slice a n c, .slice a' n' c'] 25)).alloc (.cells #[.slice e m d, .slice e' m' d'] 25)) := ((Below.refl _ w).alloc (Nat.le_refl _) _).alloc (by simp) _
  have hn1 := h.1.1
  have hn2 := h.2.1
  have hm1 := h'.1.1
  have hm2 := h'.2.1
  by_cases hnn : ¬ n = m
  · have hf : eqT LL LL' CC CC' = false := by unfold eqT; rw [decide_eq_false (fun q => hnn (by rw [← hn1, ← hm1, q]))]; rfl
    have hne : ((n : Int) == (m : Int)) = false := by simp; omega
    rw [hf]
    go_enter Try.func11, Try.ntmps11
    go_wp2
    go_ret
    exact ⟨rfl, hb0⟩
  obtain rfl : n = m := by omega
  by_cases hnn' : ¬ n' = m'
  · have hf : eqT LL LL' CC CC' = false := by unfold eqT; rw [decide_eq_false (p := CC = CC') (fun q => hnn' (by rw [← hn2, ← hm2, q]))]; simp
    have hne : ((n' : Int) == (m' : Int)) = false := by simp; omega
    rw [hf]
    go_enter Try.func11, Try.ntmps11
    go_wp2
    go_ret
    exact ⟨rfl, hb0⟩
  obtain rfl : n' = m' := by omega
  have c00 : ((w.alloc (.cells #[.slice a n c, .slice a' n' c'] 25)).alloc (.cells #[.slice e n d, .slice e' n' d'] 25)).cell? ⟨w.heap.size, 0, none⟩ = some (.slice a n c) := cellLater (by simp) _
  have c01 : ((w.alloc (.cells #[.slice a n c, .slice a' n' c'] 25)).alloc (.cells #[.slice e n d, .slice e' n' d'] 25)).cell? ⟨w.heap.size, 1, none⟩ = some (.slice a' n' c') := cellLater (by simp) _
  have c10 : ((w.alloc (.cells #[.slice a n c, .slice a' n' c'] 25)).alloc (.cells #[.slice e n d, .slice e' n' d'] 25)).cell? ⟨w.heap.size + 1, 0, none⟩ = some (.slice e n d) := by simp
  have c11 : ((w.alloc (.cells #[.slice a n c, .slice a' n' c'] 25)).alloc (.cells #[.slice e n d, .slice e' n' d'] 25)).cell? ⟨w.heap.size + 1, 1, none⟩ = some (.slice e' n' d') := by simp
  have hsz : ((w.alloc (.cells #[.slice a n c, .slice a' n' c'] 25)).alloc (.cells #[.slice e n d, .slice e' n' d'] 25)).heap.size = w.heap.size + 2 := by simp
  obtain ⟨W0, hW0⟩ : ∃ W0, Hid ((w.alloc (.cells #[.slice a n c, .slice a' n' c'] 25)).alloc (.cells #[.slice e n d, .slice e' n' d'] 25) = W0) := ⟨_, rfl⟩
  have q1c := h.1.2.1
  have q1m := h.1.2.2.1.1
  have q2c := h.2.2.1
  have q2m := h.2.2.2.1.1
  have q3c := h'.1.2.1
  have q3m := h'.1.2.2.1.1
  have q4c := h'.2.2.1
  have q4m := h'.2.2.2.1.1
  go_enter Try.func11, Try.ntmps11
  go_wp2
  rw [hW0.out] at hb0 c00 c01 c10 c11 hsz ⊢
  clear hW0
  have hbx : Hid (∀ W, Below W0.heap.size W0 W → (W.cell? ⟨w.heap.size, 0, none⟩ = some (.slice a n c) ∧ W.cell? ⟨w.heap.size, 1, none⟩ = some (.slice a' n' c')) ∧ W.cell? ⟨w.heap.size + 1, 0, none⟩ = some (.slice e n d) ∧ W.cell? ⟨w.heap.size + 1, 1, none⟩ = some (.slice e' n' d')) := fun W hb =>
    ⟨⟨(hb.cell (p := ⟨w.heap.size, 0, none⟩) (by show w.heap.size < _; omega)).trans c00, (hb.cell (p := ⟨w.heap.size, 1, none⟩) (by show w.heap.size < _; omega)).trans c01⟩, (hb.cell (p := ⟨w.heap.size + 1, 0, none⟩) (by show w.heap.size + 1 < _; omega)).trans c10, (hb.cell (p := ⟨w.heap.size + 1, 1, none⟩) (by show w.heap.size + 1 < _; omega)).trans c11⟩
  have hE : Hid (∀ W, Below W0.heap.size W0 W → Below w.heap.size w W) := fun W hb => hb0.trans (hb.mono hb0.size)
  clear c00 c01 c10 c11
  go_loopw [5] (fun i wr => ∃ k : Nat, k ≤ n ∧ i = .int .i64 k ∧ (∀ j, j < k → LL.getD j [] = LL'.getD j []) ∧ Below W0.heap.size W0 wr) (fun i _ => n - (intOf i).toNat)
  case atStart => exact ⟨0, Nat.zero_le _, rfl, fun j hj => absurd hj (by omega), Below.refl _ _⟩
  case round =>
    obtain ⟨k, hk, rfl, hal, hb⟩ := hrel
    obtain ⟨⟨d0, d1⟩, d2, d3⟩ := hbx.out wr hb
    have hbw := hE.out wr hb
    by_cases hkn : k < n
    · obtain ⟨b, off, rfl, hB, hc⟩ := h.1.2.2.2 (by omega)
      obtain ⟨b', off', rfl, hB', hc'⟩ := h'.1.2.2.2 (by omega)
      obtain ⟨ai, ki, ci, p1, p2⟩ := hc k hkn
      obtain ⟨ai', ki', ci', p1', p2'⟩ := hc' k hkn
      have r1 := (hbw.cell (p := ⟨b, off + k, none⟩) (hD _ hB)).trans p1
      have r1' := (hbw.cell (p := ⟨b', off' + k, none⟩) (hD' _ hB')).trans p1'
      have L1 : Lab w.heap.size wr.drew ai ki ci (LL.getD k []) := (p2.lab hD).later hbw.drew
      have L1' : Lab w.heap.size wr.drew ai' ki' ci' (LL'.getD k []) := (p2'.lab hD').later hbw.drew
      have hkn' : (k : Int) < n := by omega
      have hws : w.heap.size ≤ wr.drew.heap.size := hbw.size
      have hlt0 : w.heap.size < wr.drew.heap.size := by have := hb.size; show w.heap.size < wr.heap.size; omega
      have hlt1 : w.heap.size + 1 < wr.drew.heap.size := by have := hb.size; show w.heap.size + 1 < wr.heap.size; omega
      have hltb : b < wr.drew.heap.size := Nat.lt_of_lt_of_le (hD _ hB) hws
      have hltb' : b' < wr.drew.heap.size := Nat.lt_of_lt_of_le (hD' _ hB') hws
      have HAL : Hid (∀ j, j < k → LL.getD j [] = LL'.getD j []) := hal
      clear hc hc' p1 p1' p2 p2' hal
      cases hs : sameB (LL.getD k []) (LL'.getD k []) with
      | true =>
        have hs' : Hid (LL.getD k [] = LL'.getD k []) := by unfold Hid; simpa [sameB] using hs
        go_wp2
        go_region_held3 (fun w' => w'.cell? ⟨w.heap.size, 0, none⟩ = some (.slice (some ⟨b, off, none⟩) n c) ∧ w'.cell? ⟨w.heap.size + 1, 0, none⟩ = some (.slice (some ⟨b', off', none⟩) n d) ∧ w'.cell? ⟨b, off + k, none⟩ = some (.slice ai ki ci) ∧ w'.cell? ⟨b', off' + k, none⟩ = some (.slice ai' ki' ci')) (go_keep) (first | (go_at_call 20; refine (rsame_any L1 hws L1' hws).mono ?_; rintro e w1 ⟨rfl, hb1⟩; rw [hs]; have x0 := (hb1.cell (p := ⟨w.heap.size, 0, none⟩) hlt0).trans d0; have x1 := (hb1.cell (p := ⟨w.heap.size + 1, 0, none⟩) hlt1).trans d2; have x2 := (hb1.cell (p := ⟨b, off + k, none⟩) hltb).trans r1; have x3 := (hb1.cell (p := ⟨b', off' + k, none⟩) hltb').trans r1'))
        go_wp2
        go_roundw
        case rel => exact ⟨k + 1, by omega, by go_num, fun j hj => by
            rcases Nat.lt_or_ge j k with h | h
            · exact HAL.out j h
            · obtain rfl : j = k := by omega
              exact hs'.out, hb.drew.trans (hb1.mono hb.size)⟩
        case measure => simp [intOf]; omega
      | false =>
        have hf : Hid (eqT LL LL' CC CC' = false) := by
          unfold Hid eqT
          rw [decide_eq_false (p := LL = LL') (fun q => by rw [q] at hs; simp [sameB] at hs)]; rfl
        go_wp2
        go_region_held3 (fun w' => w'.cell? ⟨w.heap.size, 0, none⟩ = some (.slice (some ⟨b, off, none⟩) n c) ∧ w'.cell? ⟨w.heap.size + 1, 0, none⟩ = some (.slice (some ⟨b', off', none⟩) n d) ∧ w'.cell? ⟨b, off + k, none⟩ = some (.slice ai ki ci) ∧ w'.cell? ⟨b', off' + k, none⟩ = some (.slice ai' ki' ci')) (go_keep) (first | (go_at_call 20; refine (rsame_any L1 hws L1' hws).mono ?_; rintro e w1 ⟨rfl, hb1⟩; rw [hs]; have x0 := (hb1.cell (p := ⟨w.heap.size, 0, none⟩) hlt0).trans d0; have x1 := (hb1.cell (p := ⟨w.heap.size + 1, 0, none⟩) hlt1).trans d2; have x2 := (hb1.cell (p := ⟨b, off + k, none⟩) hltb).trans r1; have x3 := (hb1.cell (p := ⟨b', off' + k, none⟩) hltb').trans r1'))
        go_wp2
        go_ret
        exact ⟨(by rw [hf.out]; rfl), hbw.drew.trans (hb1.mono hws)⟩
    · obtain rfl : k = n := by omega
      have hLL : Hid (LL = LL') := by
        unfold Hid
        apply List.ext_getElem (by omega)
        intro i h1 h2
        have := hal i (by omega)
        simpa [List.getD_eq_getElem?_getD, List.getElem?_eq_getElem h1, List.getElem?_eq_getElem h2] using this
      clear hal
      go_wp2
      go_loopw [6] (fun i wr => ∃ j : Nat, j ≤ n' ∧ i = .int .i64 j ∧ (∀ l, l < j → CC.getD l 0 = CC'.getD l 0) ∧ Below W0.heap.size W0 wr) (fun i _ => n' - (intOf i).toNat)
      case atStart => exact ⟨0, Nat.zero_le _, rfl, fun j hj => absurd hj (by omega), hb⟩
      case round =>
        clear d0 d1 d2 d3
        obtain ⟨j, hj, rfl, hal, hb⟩ := hrel
        obtain ⟨⟨d0, d1⟩, d2, d3⟩ := hbx.out _ hb
        have hbw := hE.out _ hb
        by_cases hjn : j < n'
        · obtain ⟨b, off, rfl, hB, hc⟩ := h.2.2.2.2 (by omega)
          obtain ⟨b', off', rfl, hB', hc'⟩ := h'.2.2.2.2 (by omega)
          obtain ⟨x, hx⟩ : ∃ x, Hid (CC.getD j 0 = x) := ⟨_, rfl⟩
          obtain ⟨x', hx'⟩ : ∃ x', Hid (CC'.getD j 0 = x') := ⟨_, rfl⟩
          have r1 := (hbw.cell (p := ⟨b, off + j, none⟩) (hD _ hB)).trans (hc j hjn)
          have r1' := (hbw.cell (p := ⟨b', off' + j, none⟩) (hD' _ hB')).trans (hc' j hjn)
          rw [hx.out] at r1
          rw [hx'.out] at r1'
          have hjn' : (j : Int) < n' := by omega
          clear hc hc'
          by_cases hxx : x = x'
          · subst hxx
            go_wp2
            go_quiet (fail)
            go_wp2
            go_roundw
            case rel => exact ⟨j + 1, by omega, by go_num, fun l hl => by
                rcases Nat.lt_or_ge l j with h | h
                · exact hal l h
                · obtain rfl : l = j := by omega
                  rw [hx.out, hx'.out], below_drewN hb _⟩
            case measure => simp [intOf]; omega
          · have hne : (x == x') = false := by simpa using hxx
            have hf : Hid (eqT LL LL' CC CC' = false) := by
              unfold Hid eqT
              rw [decide_eq_false (p := CC = CC') (fun q => hxx (by rw [← hx.out, ← hx'.out, q]))]; simp
            go_wp2
            go_quiet (fail)
            go_wp2
            go_ret
            exact ⟨(by rw [hf.out]; rfl), below_drewN hbw _⟩
        · obtain rfl : j = n' := by omega
          have hf : Hid (eqT LL LL' CC CC' = true) := by
            unfold Hid eqT
            have hCC : CC = CC' := by
              apply List.ext_getElem (by omega)
              intro i h1 h2
              have := hal i (by omega)
              simpa [List.getD_eq_getElem?_getD, List.getElem?_eq_getElem h1, List.getElem?_eq_getElem h2] using this
            rw [decide_eq_true hLL.out, decide_eq_true hCC]; rfl
          go_wp2
          go_ret
          exact ⟨(by rw [hf.out]; rfl), hbw⟩
end Go.Proofs.Ytdljoapbeelgiaa
