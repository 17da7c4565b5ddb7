/-
  PROVED HERE: what Find and Fit of the document's layer 5, and few, return when they are called (contracts over this translation). No condition.
-/
import Derived.Test.YtdljoapbeelgiaaItn6
namespace Go.Proofs.Ytdljoapbeelgiaa
open Go.ChangeShapes Go.WideShapes Go.ChangeAt Go.RowKit
set_option linter.unusedVariables false

theorem box_cells {w wr : World} {u v : Value} (hb : Below (w.heap.size + 1) (w.alloc (.cells #[u, v] 25)) wr) : wr.cell? ⟨w.heap.size, 0, none⟩ = some u ∧ wr.cell? ⟨w.heap.size, 1, none⟩ = some v :=
  ⟨(hb.cell (p := ⟨w.heap.size, 0, none⟩) (by show w.heap.size < w.heap.size + 1; omega)).trans (by simp), (hb.cell (p := ⟨w.heap.size, 1, none⟩) (by show w.heap.size < w.heap.size + 1; omega)).trans (by simp)⟩
theorem box_below {w wr : World} {u v : Value} (hb : Below (w.heap.size + 1) (w.alloc (.cells #[u, v] 25)) wr) : Below w.heap.size w wr := ((Below.refl _ w).alloc (Nat.le_refl _) _).trans (hb.mono (by omega))
theorem box_next {w wr w1 : World} {u v : Value} (hb : Below (w.heap.size + 1) (w.alloc (.cells #[u, v] 25)) wr) (h : Below wr.heap.size wr w1) : Below (w.heap.size + 1) (w.alloc (.cells #[u, v] 25)) w1 :=
  hb.trans (h.mono (by have := hb.size; simp at this; omega))
theorem rfind_any {w : World} {a a' al : Option Addr} {n c c' kl cl : Nat} {Z : Zt} {L : List (Int × Int)} (hT : Tab w a n c a' c' Z) (hL : Lab w.heap.size w al kl cl L) :
    Calls Try.prog 19 #[.agg #[.slice a n c, .slice a' n c'], .slice al kl cl] w fun e w' => e = .returned (.tuple #[.int .i64 (fN Z L), .bool (fF Z L)]) ∧ Below w.heap.size w w' := by
  have hl := hT.len
  have hcm := hT.2.2.2.1.1
  have hnc := hT.2.2.1
  have hnc1 := hT.1.2.1
  have hcm1 := hT.1.2.2.1.1
  go_enter Try.func19, Try.ntmps19
  go_wp2
  go_loopw [6] (fun i wr => ∃ k : Nat, k ≤ n ∧ i = .int .i64 k ∧ (∀ j, j < k → ¬ ((zat Z j).2 ≠ 0 ∧ (zat Z j).1 = L)) ∧ Below (w.heap.size + 1) (w.alloc (.cells #[.slice a n c, .slice a' n c'] 25)) wr) (fun i _ => n - (intOf i).toNat)
  case atStart => exact ⟨0, Nat.zero_le _, rfl, fun j hj => absurd hj (by omega), Below.refl _ _⟩
  case round =>
    obtain ⟨k, hk, rfl, hal, hb⟩ := hrel
    obtain ⟨d0, d1⟩ := box_cells hb
    have hbw := box_below hb
    by_cases hkn : k < n
    · obtain ⟨b, off, b', off', ai, ki, ci, rfl, rfl, hB, hB', q1, q3, q2⟩ := TabD.at (hT.next hbw) (i := k) hkn
      obtain ⟨y, hy⟩ : ∃ y, Hid ((zat Z k).2 = y) := ⟨_, rfl⟩
      rw [hy.out] at q3
      have hkn' : (k : Int) < n := by omega
      have hLw := hL.later hbw
      clear hT
      by_cases hy0 : y = 0
      · subst hy0
        go_wp2
        go_roundw
        case rel => exact ⟨k + 1, by omega, by go_num, fun j hj => by
            rcases Nat.lt_or_ge j k with h | h
            · exact hal j h
            · obtain rfl : j = k := by omega
              rw [hy.out]; simp, hb⟩
        case measure => simp [intOf]; omega
      · have hy1 : (y == 0) = false := by simpa using hy0
        cases hs : sameB (zat Z k).1 L with
        | false =>
          have hs' : ¬ (zat Z k).1 = L := by simpa [sameB] using hs
          go_wp2_with (go_at_call 20; refine (rsame_any q2 (Nat.le_refl _) hLw hbw.size).mono ?_; rintro e w1 ⟨rfl, hb1⟩; rw [hs])
          go_roundw
          case rel => exact ⟨k + 1, by omega, by go_num, fun j hj => by
              rcases Nat.lt_or_ge j k with h | h
              · exact hal j h
              · obtain rfl : j = k := by omega
                exact fun q => hs' q.2, box_next hb hb1⟩
          case measure => simp [intOf]; omega
        | true =>
          have hs' : (zat Z k).1 = L := by simpa [sameB] using hs
          have hf : fnd Z L = some k := fnd_some.2 ⟨by omega, ⟨by rw [hy.out]; exact hy0, hs'⟩, hal⟩
          have hN : Hid (fN Z L = (k : Nat)) := by unfold Hid fN; rw [hf]; rfl
          have hF : Hid (fF Z L = true) := by unfold Hid fF; rw [hf]; rfl
          clear hf hs' hal
          go_wp2_with (go_at_call 20; refine (rsame_any q2 (Nat.le_refl _) hLw hbw.size).mono ?_; rintro e w1 ⟨rfl, hb1⟩; rw [hs])
          go_ret2
          exact ⟨(by rw [hN.out, hF.out]; rfl), hbw.trans (hb1.mono hbw.size)⟩
    · obtain rfl : k = n := by omega
      have hf : fnd Z L = none := fnd_none.2 (fun j hj => hal j (by omega))
      have hN : Hid (fN Z L = 0) := by unfold Hid fN; rw [hf]; rfl
      have hF : Hid (fF Z L = false) := by unfold Hid fF; rw [hf]; rfl
      clear hf hal
      go_wp2
      go_ret2
      exact ⟨(by rw [hN.out, hF.out]; rfl), hbw⟩
theorem rtfit_ne {w : World} {a a' : Option Addr} {n c n' c' : Nat} (h : ¬ n' = n) :
    Calls Try.prog 9 #[.agg #[.slice a n c, .slice a' n' c']] w fun e w' => e = .returned (.bool false) ∧ Below w.heap.size w w' := by
  have h' : ((n' : Int) == (n : Int)) = false := by simp; omega
  go_enter Try.func9, Try.ntmps9
  go_wp2
  go_ret
  exact ⟨rfl, (Below.refl _ w).alloc (Nat.le_refl _) _⟩
/-- One place is as it should be. -/
def placeB (Z : Zt) (i : Nat) : Bool := standB (zat Z i) && onceAt Z i
theorem fitZ_place {Z : Zt} {i : Nat} (hi : i < Z.length) (h : placeB Z i = false) : fitZ Z = false := by
  unfold placeB at h
  cases hs : standB (zat Z i) with
  | false => exact fitZ_stand hi hs
  | true =>
    rw [hs] at h
    have : onceB Z = false := by unfold onceB; rw [List.all_eq_false]; exact ⟨i, List.mem_range.2 hi, by simpa using h⟩
    unfold fitZ; simp [this]
theorem fitZ_places {Z : Zt} (h0 : Z.length ≤ 64) (h1 : lastB Z = true) (h2 : ∀ i, i < Z.length → placeB Z i = true) : fitZ Z = true := by
  have h3 : ∀ i, i < Z.length → standB (zat Z i) = true ∧ onceAt Z i = true := fun i hi => by have := h2 i hi; unfold placeB at this; simpa using this
  rw [fitZ_all h0 h1 (fun i hi => (h3 i hi).1)]
  unfold onceB
  rw [List.all_eq_true]
  exact fun i hi => (h3 i (List.mem_range.1 hi)).2
set_option maxRecDepth 100000 in
set_option maxHeartbeats 4000000 in
theorem rtfit_any {w : World} {a a' : Option Addr} {n c c' : Nat} {Z : Zt} (hT : Tab w a n c a' c' Z) :
    Calls Try.prog 9 #[.agg #[.slice a n c, .slice a' n c']] w fun e w' => e = .returned (.bool (fitZ Z)) ∧ Below w.heap.size w w' := by
  have hl := hT.len
  have hcm := hT.2.2.2.1.1
  have hnc := hT.2.2.1
  have hnc1 := hT.1.2.1
  have hcm1 := hT.1.2.2.1.1
  by_cases h64 : (64 : Int) < n
  · have hf : fitZ Z = false := by unfold fitZ; rw [decide_eq_false (by omega)]; rfl
    rw [hf]
    go_enter Try.func9, Try.ntmps9
    go_wp2
    go_ret
    exact ⟨by simp, (Below.refl _ w).alloc (Nat.le_refl _) _⟩
  have hb0 : Below w.heap.size w (w.alloc (.cells #[.slice a n c, .slice a' n c'] 25)) := (Below.refl _ w).alloc (Nat.le_refl _) _
  have hlast : lastB Z = false → fitZ Z = false := fun h => by unfold fitZ; simp [h]
  cases n with
  | zero =>
    have hf : fitZ Z = true := fitZ_places (by omega) (lastB_nil hl) (fun i hi => absurd hi (by omega))
    rw [hf]
    clear hT
    go_enter Try.func9, Try.ntmps9
    go_wp2
    go_loopw [4] (fun i wr => i = .int .i64 0 ∧ wr = w.alloc (.cells #[.slice a 0 c, .slice a' 0 c'] 25)) (fun i _ => 0)
    case atStart => exact ⟨rfl, rfl⟩
    case round =>
      obtain ⟨rfl, rfl⟩ := hrel
      go_wp2
      go_ret
      exact ⟨rfl, hb0⟩
  | succ m =>
    obtain ⟨b, off, b', off', ai, ki, ci, rfl, rfl, hB, hB', q1, q3, q2⟩ := TabD.at hT (i := m) (by omega)
    obtain ⟨y, hy⟩ : ∃ y, Hid ((zat Z m).2 = y) := ⟨_, rfl⟩
    rw [hy.out] at q3
    have hm0 : (0 : Int) < ((m + 1 : Nat) : Int) := by omega
    have q4 := (hb0.cell (p := ⟨b', off' + m, none⟩) hB').trans q3
    have hw : IntKind.i64.wrap (((m + 1 : Nat) : Int) - 1) = (m : Nat) := by rw [IntKind.wrap_i64]; omega
    have h64' : ((m + 1 : Nat) : Int) ≤ 64 := by omega
    by_cases hy0 : y = 0
    · subst hy0
      rw [hlast (lastB_no hl hy.out)]
      clear hT q1 q2
      go_enter Try.func9, Try.ntmps9
      go_wp2
      go_ret
      exact ⟨rfl, hb0⟩
    · have hy1 : (y == 0) = false := by simpa using hy0
      have hlb := lastB_yes hl (by rw [hy.out]; exact hy0)
      clear q1 q2
      go_enter Try.func9, Try.ntmps9
      go_wp2
      clear q4 q3 hy1 hy0 hw
      go_loopw [4] (fun i wr => ∃ k : Nat, k ≤ m + 1 ∧ i = .int .i64 k ∧ (∀ j, j < k → placeB Z j = true) ∧ Below (w.heap.size + 1) (w.alloc (.cells #[.slice (some ⟨b, off, none⟩) (m + 1) c, .slice (some ⟨b', off', none⟩) (m + 1) c'] 25)) wr) (fun i _ => m + 1 - (intOf i).toNat)
      case atStart => exact ⟨0, Nat.zero_le _, rfl, fun j hj => absurd hj (by omega), Below.refl _ _⟩
      case round =>
        obtain ⟨k, hk, rfl, hal, hb⟩ := hrel
        have hbw := box_below hb
        obtain ⟨d0, d1⟩ := box_cells hb
        have hTr := hT.next hbw
        by_cases hkn : k < m + 1
        · obtain ⟨b2, off2, b2', off2', ai, ki, ci, e, e', hbb, hbb', q1, q3, q2⟩ := TabD.at hTr (i := k) hkn
          cases e
          cases e'
          have HPF : Hid (placeB Z k = false → fitZ Z = false) := fun h => fitZ_place (by omega) h
          have hps : Hid (placeB Z k = (standB (zat Z k) && onceAt Z k)) := rfl
          have hoi : Hid ((zat Z k).2 ≠ 0 → onceAt Z k = decide (fN Z (zat Z k).1 = (k : Nat)) ∧ fF Z (zat Z k).1 = true) := fun h => ⟨onceAt_iff (by omega) h, by obtain ⟨j, hj⟩ := fnd_self (Z := Z) (i := k) (by omega) h; unfold fF; rw [hj]; rfl⟩
          have hoz : Hid ((zat Z k).2 = 0 → onceAt Z k = true) := fun h => by unfold onceAt; simp [h]
          obtain ⟨fn, hfn⟩ : ∃ fn, Hid (fN Z (zat Z k).1 = fn) := ⟨_, rfl⟩
          obtain ⟨ff, hff⟩ : ∃ ff, Hid (fF Z (zat Z k).1 = ff) := ⟨_, rfl⟩
          rw [hfn.out, hff.out] at hoi
          have hki := q2.1
          have q2' : Hid (Lab wr.heap.size wr ai ki ci (zat Z k).1) := q2
          obtain ⟨z, hz⟩ : ∃ z, Hid (zat Z k = z) := ⟨_, rfl⟩
          rw [hz.out] at q2 q3 hki hps hoi hoz
          obtain ⟨zl, zc⟩ := z
          dsimp only at q2 q3 hki hps hoi hoz
          have hkn' : (k : Int) < ((m + 1 : Nat) : Int) := by omega
          have HAL : Hid (∀ j, j < k → placeB Z j = true) := hal
          clear hal
          have hws : w.heap.size < wr.heap.size := by have := hb.size; simp at this; omega
          by_cases c1 : zc < 0
          · have hf : Hid (fitZ Z = false) := HPF.out (by rw [hps.out]; unfold standB; simp; omega)
            clear hTr hT
            go_wp2
            go_ret
            exact ⟨(by rw [hf.out]; rfl), hbw⟩
          by_cases c2 : 1073741824 < zc
          · have hf : Hid (fitZ Z = false) := HPF.out (by rw [hps.out]; unfold standB; simp; omega)
            clear hTr hT
            go_wp2
            go_ret
            exact ⟨(by rw [hf.out]; rfl), hbw⟩
          cases c3 : fitB zl with
          | false =>
            have hf : Hid (fitZ Z = false) := HPF.out (by rw [hps.out]; unfold standB keepB; simp [c3])
            clear hTr hT
            go_wp2_with (go_at_call 23; refine (rlfit_any q2 (Nat.le_refl _)).mono ?_; rintro e w1 ⟨rfl, hb1⟩; rw [c3])
            go_ret
            exact ⟨(by rw [hf.out]; rfl), hbw.trans (hb1.mono hbw.size)⟩
          | true =>
            by_cases c4 : (16 : Int) < (ki : Int)
            · have hf : Hid (fitZ Z = false) := HPF.out (by rw [hps.out]; unfold standB keepB; simp; omega)
              clear hTr hT
              go_wp2_with (go_at_call 23; refine (rlfit_any q2 (Nat.le_refl _)).mono ?_; rintro e w1 ⟨rfl, hb1⟩; rw [c3])
              go_ret
              exact ⟨(by rw [hf.out]; rfl), hbw.trans (hb1.mono hbw.size)⟩
            · have hkb : keepB zl = true := by unfold keepB; rw [c3]; simp; omega
              by_cases c5 : zc = 0
              · subst c5
                by_cases c6 : (0 : Int) < (ki : Int)
                · have hf : Hid (fitZ Z = false) := HPF.out (by rw [hps.out]; unfold standB; simp; intro _ q; rw [q] at hki; simp at hki; omega)
                  clear hTr hT
                  go_wp2_with (go_at_call 23; refine (rlfit_any q2 (Nat.le_refl _)).mono ?_; rintro e w1 ⟨rfl, hb1⟩; rw [c3]; have x1 := (hb1.cell (p := ⟨w.heap.size, 1, none⟩) hws).trans d1; have x3 := (hb1.cell (p := ⟨b', off' + k, none⟩) hbb').trans q3)
                  go_ret
                  exact ⟨(by rw [hf.out]; rfl), hbw.trans (hb1.mono hbw.size)⟩
                · obtain rfl : ki = 0 := by omega
                  have hzl : zl = [] := List.eq_nil_of_length_eq_zero (by omega)
                  have hp : Hid (placeB Z k = true) := by unfold Hid; rw [hps.out, hoz.out rfl, hzl]; simp [standB, keepB, fitB]
                  clear hps hoi hoz HPF hzl
                  go_wp2_with (first | (go_at_call 23; refine (rlfit_any q2 (Nat.le_refl _)).mono ?_; rintro e w1 ⟨rfl, hb1⟩; rw [c3]; have x0 := (hb1.cell (p := ⟨w.heap.size, 0, none⟩) hws).trans d0; have x1 := (hb1.cell (p := ⟨w.heap.size, 1, none⟩) hws).trans d1; have x3 := (hb1.cell (p := ⟨b', off' + k, none⟩) hbb').trans q3) | (go_at_call 19; refine (rfind_any (hTr.next hb1) (q2'.out.next hb1)).mono ?_; rintro e w2 ⟨rfl, hb2⟩; rw [hfn.out, hff.out]; have y1 := (hb2.cell (p := ⟨w.heap.size, 1, none⟩) (Nat.lt_of_lt_of_le hws hb1.size)).trans x1; have y3 := (hb2.cell (p := ⟨b', off' + k, none⟩) (Nat.lt_of_lt_of_le hbb' hb1.size)).trans x3))
                  go_roundw
                  case rel => exact ⟨k + 1, by omega, by go_num, fun j hj => by
                      rcases Nat.lt_or_ge j k with h | h
                      · exact HAL.out j h
                      · obtain rfl : j = k := by omega
                        exact hp.out, box_next (box_next hb hb1) hb2⟩
                  case measure => simp [intOf]; omega
              · have c5' : (zc == 0) = false := by simpa using c5
                have hsb : standB (zl, zc) = true := by unfold standB; simp [hkb]; omega
                obtain ⟨o1, o2⟩ := hoi.out c5
                subst o2
                have hpk : Hid (placeB Z k = decide (fn = ((k : Nat) : Int))) := by unfold Hid; rw [hps.out, o1, hsb]; rfl
                clear hps hoi hoz o1 hsb
                by_cases c6 : fn = ((k : Nat) : Int)
                · have hp : Hid (placeB Z k = true) := by unfold Hid; rw [hpk.out]; simpa using c6
                  subst c6
                  go_wp2_with (first | (go_at_call 23; refine (rlfit_any q2 (Nat.le_refl _)).mono ?_; rintro e w1 ⟨rfl, hb1⟩; rw [c3]; have x0 := (hb1.cell (p := ⟨w.heap.size, 0, none⟩) hws).trans d0; have x1 := (hb1.cell (p := ⟨w.heap.size, 1, none⟩) hws).trans d1; have x3 := (hb1.cell (p := ⟨b', off' + k, none⟩) hbb').trans q3) | (go_at_call 19; refine (rfind_any (hTr.next hb1) (q2'.out.next hb1)).mono ?_; rintro e w2 ⟨rfl, hb2⟩; rw [hfn.out, hff.out]; have y1 := (hb2.cell (p := ⟨w.heap.size, 1, none⟩) (Nat.lt_of_lt_of_le hws hb1.size)).trans x1; have y3 := (hb2.cell (p := ⟨b', off' + k, none⟩) (Nat.lt_of_lt_of_le hbb' hb1.size)).trans x3))
                  go_roundw
                  case rel => exact ⟨k + 1, by omega, by go_num, fun j hj => by
                      rcases Nat.lt_or_ge j k with h | h
                      · exact HAL.out j h
                      · obtain rfl : j = k := by omega
                        exact hp.out, box_next (box_next hb hb1) hb2⟩
                  case measure => simp [intOf]; omega
                · have c6' : (fn == ((k : Nat) : Int)) = false := by simpa using c6
                  have c6n : (fn != ((k : Nat) : Int)) = true := by simpa using c6
                  have c5n : (zc != 0) = true := by simpa using c5
                  have hf : Hid (fitZ Z = false) := HPF.out (by rw [hpk.out]; simpa using c6)
                  go_wp2_with (first | (go_at_call 23; refine (rlfit_any q2 (Nat.le_refl _)).mono ?_; rintro e w1 ⟨rfl, hb1⟩; rw [c3]; have x0 := (hb1.cell (p := ⟨w.heap.size, 0, none⟩) hws).trans d0; have x1 := (hb1.cell (p := ⟨w.heap.size, 1, none⟩) hws).trans d1; have x3 := (hb1.cell (p := ⟨b', off' + k, none⟩) hbb').trans q3) | (go_at_call 19; refine (rfind_any (hTr.next hb1) (q2'.out.next hb1)).mono ?_; rintro e w2 ⟨rfl, hb2⟩; rw [hfn.out, hff.out]; have y1 := (hb2.cell (p := ⟨w.heap.size, 1, none⟩) (Nat.lt_of_lt_of_le hws hb1.size)).trans x1; have y3 := (hb2.cell (p := ⟨b', off' + k, none⟩) (Nat.lt_of_lt_of_le hbb' hb1.size)).trans x3))
                  go_ret
                  exact ⟨(by rw [hf.out]; rfl), (hbw.trans (hb1.mono hbw.size)).trans (hb2.mono (Nat.le_trans hbw.size hb1.size))⟩
        · obtain rfl : k = m + 1 := by omega
          have hf := fitZ_places (Z := Z) (by omega) hlb (fun i hi => hal i (by omega))
          go_wp2
          go_ret
          exact ⟨(by rw [hf]; rfl), hbw⟩
end Go.Proofs.Ytdljoapbeelgiaa
