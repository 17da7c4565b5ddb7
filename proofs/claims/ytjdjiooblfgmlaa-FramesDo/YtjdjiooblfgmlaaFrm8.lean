/-
  PROVED HERE: what package frames' Same, once and Fit return when they are called (contracts over this translation). No condition.
-/
import Derived.Test.YtjdjiooblfgmlaaFrm7
import Derived.MapKept
import Derived.Carry
namespace Go.Proofs.Ytjdjiooblfgmlaa
open Go.RowKit Go.Shelf
set_option linter.unusedVariables false
attribute [local go_sem] Oper.semAt_some

theorem beq2_no {x y x' y' : Int} (h : (x, y) ≠ (x', y')) : (x == x' && y == y') = false := by
  cases hx : x == x' with
  | false => rfl
  | true =>
    cases hy : y == y' with
    | false => rfl
    | true => exact absurd (by rw [eq_of_beq hx, eq_of_beq hy]) h
theorem below_drewN {B : Nat} {w W : World} (h : Below B w W) (m : Nat) : Below B w (W.drewN m) := h.trans ⟨rfl, rfl, rfl, Nat.le_refl _, fun _ _ => rfl⟩
set_option maxRecDepth 100000 in
set_option maxHeartbeats 1000000 in
theorem equal_any {w : World} {a a' : Option Addr} {n c n' c' : Nat} {L M : List Frm.Fr} (h : Lab w.heap.size w a n c L) (h' : Lab w.heap.size w a' n' c' M) :
    Calls Try.prog 28 #[.slice a n c, .slice a' n' c'] w fun e w' => e = .returned (.bool (sameB L M)) ∧ Below w.heap.size w w' := by
  have hn : Hid (L.length = n) := h.1
  have hn' : Hid (M.length = n') := h'.1
  have hnc := h.2.1
  have hcm := h.2.2.1.1
  have hnc' := h'.2.1
  have hcm' := h'.2.2.1.1
  by_cases hnn : n = n'
  · subst hnn
    go_enter Try.func28, Try.ntmps28
    go_wp2
    go_loopw [13] (fun i wr => ∃ k : Nat, k ≤ n ∧ i = .int .i64 k ∧ Hid (∀ j, j < k → L.getD j (0, 0) = M.getD j (0, 0)) ∧ Below w.heap.size w wr) (fun i _ => n - (intOf i).toNat)
    case atStart => exact ⟨0, Nat.zero_le _, rfl, fun j hj => absurd hj (by omega), Below.refl _ _⟩
    case round =>
      obtain ⟨k, hk, rfl, hal, hb⟩ := hrel
      by_cases hkn : k < n
      · obtain ⟨b, off, x, y, rfl, hB, q0, q1, hx⟩ := h.at hb hkn
        obtain ⟨b', off', x', y', rfl, hB', q0', q1', hx'⟩ := h'.at hb hkn
        have hkn' : (k : Int) < n := by omega
        by_cases hxx : (x, y) = (x', y')
        · obtain ⟨rfl, rfl⟩ := Prod.mk.injEq .. ▸ hxx
          have hal2 : Hid (∀ j, j < k + 1 → L.getD j (0, 0) = M.getD j (0, 0)) := eq_succ hal.out (hx.out.trans hx'.out.symm)
          clear hxx
          go_wp2
          go_quiet (fail)
          go_wp2
          go_roundw
          case rel => exact ⟨k + 1, by omega, by go_num, hal2, below_drewN hb _⟩
          case measure => simp [intOf]; omega
        · have hf : Hid (sameB L M = false) := sameB_at hx.out hx'.out hxx
          by_cases hx1 : x = x'
          · subst hx1
            have hy1 : (y == y') = false := by rw [beq_eq_false_iff_ne]; intro e; exact hxx (by rw [e])
            clear hxx
            go_wp2
            go_quiet (fail)
            go_wp2
            go_ret
            exact ⟨(by rw [hf.out]; rfl), below_drewN hb _⟩
          · have hy1 : (x == x') = false := by simpa using hx1
            clear hxx
            go_wp2
            go_quiet (fail)
            go_wp2
            go_ret
            exact ⟨(by rw [hf.out]; rfl), below_drewN hb _⟩
      · obtain rfl : k = n := by omega
        have hf : Hid (sameB L M = true) := sameB_all (by rw [hn.out, hn'.out]) (fun i hi => hal.out i (by rw [hn.out] at hi; exact hi))
        go_wp2
        go_ret
        exact ⟨(by rw [hf.out]; rfl), hb⟩
  · have hf : Hid (sameB L M = false) := sameB_len (by rw [hn.out, hn'.out]; exact hnn)
    have hne : ((n : Int) == (n' : Int)) = false := by simp; omega
    go_enter Try.func28, Try.ntmps28
    go_wp2
    go_ret
    exact ⟨(by rw [hf.out]; rfl), Below.refl _ _⟩
theorem same_any {w : World} {a a' : Option Addr} {n c n' c' : Nat} {L M : List Frm.Fr} (h : Lab w.heap.size w a n c L) (h' : Lab w.heap.size w a' n' c' M) :
    Calls Try.prog 11 #[.slice a n c, .slice a' n' c'] w fun e w' => e = .returned (.bool (sameB L M)) ∧ Below w.heap.size w w' := by
  have hc := equal_any h h'
  go_enter Try.func11, Try.ntmps11
  go_wp2_with (go_at_call 28; refine hc.mono ?_; rintro e w' ⟨rfl, hb⟩)
  go_ret
  exact ⟨rfl, hb⟩
end Go.Proofs.Ytjdjiooblfgmlaa
