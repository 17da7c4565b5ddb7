/-
  PROVED HERE: what Fit, Same and Get of package intern return when they are called (contracts over this translation). Labels have fewer than 2^38 pairs.
-/
import Derived.Test.YtdljoapbeelgiaaItn5
namespace Go.Proofs.Ytdljoapbeelgiaa
open Go.ChangeShapes Go.WideShapes Go.ChangeAt Go.RowKit
set_option linter.unusedVariables false

theorem fitZ_stand {Z : Zt} {i : Nat} (hi : i < Z.length) (h : standB (zat Z i) = false) : fitZ Z = false := by
  have : Z.all standB = false := by rw [List.all_eq_false]; exact ⟨_, List.mem_of_getElem? (zat_lt hi), by simp [h]⟩
  unfold fitZ; simp [this]
theorem fitZ_all {Z : Zt} (h0 : Z.length ≤ 64) (h1 : lastB Z = true) (h2 : ∀ i, i < Z.length → standB (zat Z i) = true) : fitZ Z = onceB Z := by
  have : Z.all standB = true := by
    rw [List.all_eq_true]; intro x hx
    obtain ⟨j, hj, e⟩ := List.getElem_of_mem hx
    have e' : Z[j] = zat Z j := by have := zat_lt hj; rw [List.getElem?_eq_getElem hj] at this; exact Option.some.inj this
    rw [← e, e']; exact h2 j hj
  unfold fitZ; rw [this, h1, decide_eq_true h0]; simp
theorem lastB_no {Z : Zt} {n : Nat} (hl : Z.length = n + 1) (h : (zat Z n).2 = 0) : lastB Z = false := by unfold lastB; rw [hl]; simp [h]
theorem lastB_yes {Z : Zt} {n : Nat} (hl : Z.length = n + 1) (h : ¬ (zat Z n).2 = 0) : lastB Z = true := by unfold lastB; rw [hl]; simp [h]
theorem lastB_nil {Z : Zt} (hl : Z.length = 0) : lastB Z = true := by unfold lastB; rw [hl]; simp

theorem tfit_ne {w : World} {a a' : Option Addr} {n c n' c' : Nat} (h : ¬ n' = n) :
    Calls Try.prog 8 #[.agg #[.slice a n c, .slice a' n' c']] w fun e w' => e = .returned (.bool false) ∧ Below w.heap.size w w' := by
  have h' : ((n' : Int) == (n : Int)) = false := by simp; omega
  go_enter Try.func8, Try.ntmps8
  go_wp2
  go_ret
  exact ⟨rfl, (Below.refl _ w).alloc (Nat.le_refl _) _⟩
set_option maxRecDepth 100000 in
set_option maxHeartbeats 1000000 in
theorem tfit_any {w : World} {a a' : Option Addr} {n c c' : Nat} {Z : Zt} (hT : Tab w a n c a' c' Z) :
    Calls Try.prog 8 #[.agg #[.slice a n c, .slice a' n c']] w fun e w' => e = .returned (.bool (fitZ Z)) ∧ Below w.heap.size w w' := by
  have hl := hT.len
  have hcm := hT.2.2.2.1.1
  have hnc := hT.2.2.1
  have hnc1 := hT.1.2.1
  have hcm1 := hT.1.2.2.1.1
  by_cases h64 : (64 : Int) < n
  · have hf : fitZ Z = false := by unfold fitZ; rw [decide_eq_false (by omega)]; rfl
    rw [hf]
    go_enter Try.func8, Try.ntmps8
    go_wp2
    go_ret
    exact ⟨by simp, (Below.refl _ w).alloc (Nat.le_refl _) _⟩
  have hb0 : Below w.heap.size w (w.alloc (.cells #[.slice a n c, .slice a' n c'] 25)) := (Below.refl _ w).alloc (Nat.le_refl _) _
  have hlast : lastB Z = false → fitZ Z = false := fun h => by unfold fitZ; simp [h]
  have hR : ∀ wr, Below (w.heap.size + 1) (w.alloc (.cells #[.slice a n c, .slice a' n c'] 25)) wr → wr.cell? ⟨w.heap.size, 0, none⟩ = some (.slice a n c) ∧ wr.cell? ⟨w.heap.size, 1, none⟩ = some (.slice a' n c') := fun wr hb =>
    ⟨(hb.cell (p := ⟨w.heap.size, 0, none⟩) (by show w.heap.size < w.heap.size + 1; omega)).trans (by simp), (hb.cell (p := ⟨w.heap.size, 1, none⟩) (by show w.heap.size < w.heap.size + 1; omega)).trans (by simp)⟩
  cases n with
  | zero =>
    have hf : fitZ Z = onceB Z := fitZ_all (by omega) (lastB_nil hl) (fun i hi => absurd hi (by omega))
    rw [hf]
    have hT0 := hT.next hb0
    clear hT
    go_enter Try.func8, Try.ntmps8
    go_wp2
    go_loopw [34] (fun i wr => i = .int .i64 0 ∧ wr = w.alloc (.cells #[.slice a 0 c, .slice a' 0 c'] 25)) (fun i _ => 0)
    case atStart => exact ⟨rfl, rfl⟩
    case round =>
      obtain ⟨rfl, rfl⟩ := hrel
      go_wp2_with (go_at_call 26; refine (once_any hT0).mono ?_; rintro e w1 ⟨rfl, hb1⟩)
      go_ret
      exact ⟨rfl, hb0.trans (hb1.mono hb0.size)⟩
  | succ m =>
    obtain ⟨b, off, b', off', ai, ki, ci, rfl, rfl, hB, hB', q1, q3, q2⟩ := TabD.at hT (i := m) (by omega)
    obtain ⟨y, hy⟩ : ∃ y, Hid ((zat Z m).2 = y) := ⟨_, rfl⟩
    rw [hy.out] at q3
    have hm0 : (0 : Int) < ((m + 1 : Nat) : Int) := by omega
    have q4 := (hb0.cell (p := ⟨b', off' + m, none⟩) hB').trans q3
    have hw : IntKind.i64.wrap (((m + 1 : Nat) : Int) - 1) = (m : Nat) := by rw [IntKind.wrap_i64]; omega
    have h64' : ((m + 1 : Nat) : Int) ≤ 64 := by omega
    by_cases hy0 : y = 0
    · subst hy0
      rw [hlast (lastB_no hl hy.out)]
      clear hT q1 q2 hR
      go_enter Try.func8, Try.ntmps8
      go_wp2
      go_ret
      exact ⟨rfl, hb0⟩
    · have hy1 : (y == 0) = false := by simpa using hy0
      have hlb := lastB_yes hl (by rw [hy.out]; exact hy0)
      clear q1 q2
      go_enter Try.func8, Try.ntmps8
      go_wp2
      clear q4 q3
      go_loopw [34] (fun i wr => ∃ k : Nat, k ≤ m + 1 ∧ i = .int .i64 k ∧ (∀ j, j < k → standB (zat Z j) = true) ∧ Below (w.heap.size + 1) (w.alloc (.cells #[.slice (some ⟨b, off, none⟩) (m + 1) c, .slice (some ⟨b', off', none⟩) (m + 1) c'] 25)) wr) (fun i _ => m + 1 - (intOf i).toNat)
      case atStart => exact ⟨0, Nat.zero_le _, rfl, fun j hj => absurd hj (by omega), Below.refl _ _⟩
      case round =>
        obtain ⟨k, hk, rfl, hal, hb⟩ := hrel
        have hbw : Below w.heap.size w wr := hb0.trans (hb.mono (by omega))
        obtain ⟨d0, d1⟩ := hR wr hb
        have hTr := hT.next hbw
        by_cases hkn : k < m + 1
        · obtain ⟨b2, off2, b2', off2', ai, ki, ci, e, e', _, _, q1, q3, q2⟩ := TabD.at hTr (i := k) hkn
          cases e
          cases e'
          obtain ⟨z, hz⟩ : ∃ z, Hid (zat Z k = z) := ⟨_, rfl⟩
          rw [hz.out] at q2 q3
          obtain ⟨zl, zc⟩ := z
          have hkn' : (k : Int) < ((m + 1 : Nat) : Int) := by omega
          cases hs : standB (zl, zc) with
          | false =>
            have hf := fitZ_stand (Z := Z) (i := k) (by omega) (by rw [hz.out]; exact hs)
            go_wp2_with (go_at_call 25; refine (mayStand_any _ q2).mono ?_; rintro e w1 ⟨rfl, hb1⟩; rw [hs])
            go_ret
            exact ⟨(by rw [hf]; rfl), hbw.trans (hb1.mono hbw.size)⟩
          | true =>
            go_wp2_with (go_at_call 25; refine (mayStand_any _ q2).mono ?_; rintro e w1 ⟨rfl, hb1⟩; rw [hs])
            go_roundw
            case rel => exact ⟨k + 1, by omega, by go_num, fun j hj => by
              rcases Nat.lt_or_ge j k with h | h
              · exact hal j h
              · obtain rfl : j = k := by omega
                rw [hz.out]; exact hs, hb.trans (hb1.mono (by have := hb.size; simp at this; omega))⟩
            case measure => simp [intOf]; omega
        · obtain rfl : k = m + 1 := by omega
          have hf := fitZ_all (Z := Z) (by omega) hlb (fun i hi => hal i (by omega))
          go_wp2_with (go_at_call 26; refine (once_any hTr).mono ?_; rintro e w1 ⟨rfl, hb1⟩)
          go_ret
          exact ⟨(by rw [hf]; rfl), hbw.trans (hb1.mono hbw.size)⟩

theorem iequal_any {D D' : Nat → Prop} {w : World} {a a' : Option Addr} {n c n' c' : Nat} {C C' : List Int} (h : IntD D w a n c C) (h' : IntD D' w a' n' c' C') (hD : ∀ b, D b → b < w.heap.size) (hD' : ∀ b, D' b → b < w.heap.size) :
    Calls Try.prog 29 #[.slice a n c, .slice a' n' c'] w fun e w' => e = .returned (.bool (decide (C = C'))) ∧ Below w.heap.size w w' := by
  have hn := h.1
  have hn' := h'.1
  have hnc := h.2.1
  have hcm := h.2.2.1.1
  by_cases hnn : n = n'
  · subst hnn
    go_enter Try.func29, Try.ntmps29
    go_wp2
    go_loopw [13] (fun i wr => ∃ k : Nat, k ≤ n ∧ i = .int .i64 k ∧ (∀ j, j < k → C.getD j 0 = C'.getD j 0) ∧ Below w.heap.size w wr) (fun i _ => n - (intOf i).toNat)
    case atStart => exact ⟨0, Nat.zero_le _, rfl, fun j hj => absurd hj (by omega), Below.refl _ _⟩
    case round =>
      obtain ⟨k, hk, rfl, hal, hb⟩ := hrel
      by_cases hkn : k < n
      · obtain ⟨b, off, rfl, hB, hc⟩ := h.2.2.2 (by omega)
        obtain ⟨b', off', rfl, hB', hc'⟩ := h'.2.2.2 (by omega)
        obtain ⟨x, hx⟩ : ∃ x, Hid (C.getD k 0 = x) := ⟨_, rfl⟩
        obtain ⟨x', hx'⟩ : ∃ x', Hid (C'.getD k 0 = x') := ⟨_, rfl⟩
        have q := (hb.cell (p := ⟨b, off + k, none⟩) (hD _ hB)).trans (hc k hkn)
        have q' := (hb.cell (p := ⟨b', off' + k, none⟩) (hD' _ hB')).trans (hc' k hkn)
        rw [hx.out] at q
        rw [hx'.out] at q'
        have hkn' : (k : Int) < n := by omega
        have hnc' := h'.2.1
        have hcm' := h'.2.2.1.1
        clear hc hc'
        by_cases hxx : x = x'
        · subst hxx
          go_wp2
          go_quiet (fail)
          go_wp2
          go_roundw
          case rel => exact ⟨k + 1, by omega, by go_num, fun j hj => by
              rcases Nat.lt_or_ge j k with h | h
              · exact hal j h
              · obtain rfl : j = k := by omega
                rw [hx.out, hx'.out], below_drewN hb _⟩
          case measure => simp [intOf]; omega
        · have hne : (x == x') = false := by simpa using hxx
          have hf : decide (C = C') = false := by rw [decide_eq_false_iff_not]; intro e; rw [e] at hx; exact hxx (hx.out.symm.trans hx'.out)
          go_wp2
          go_quiet (fail)
          go_wp2
          go_ret
          exact ⟨(by rw [hf]; rfl), below_drewN hb _⟩
      · obtain rfl : k = n := by omega
        have hf : decide (C = C') = true := by
          rw [decide_eq_true_iff]
          apply List.ext_getElem (by omega)
          intro i h1 h2
          have := hal i (by omega)
          simpa [List.getD_eq_getElem?_getD, List.getElem?_eq_getElem h1, List.getElem?_eq_getElem h2] using this
        go_wp2
        go_ret
        exact ⟨(by rw [hf]; rfl), hb⟩
  · have hf : decide (C = C') = false := by rw [decide_eq_false_iff_not]; intro e; rw [e] at hn; omega
    have hne : ((n : Int) == (n' : Int)) = false := by simp; omega
    rw [hf]
    go_enter Try.func29, Try.ntmps29
    go_wp2
    go_ret
    exact ⟨rfl, Below.refl _ _⟩
end Go.Proofs.Ytdljoapbeelgiaa
