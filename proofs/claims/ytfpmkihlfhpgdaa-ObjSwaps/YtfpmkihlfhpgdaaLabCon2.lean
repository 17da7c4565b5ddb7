/-
  PROVED HERE: what the readers of package label, and of the document's answer to it, return when they are called (contracts over this translation, second part). No condition.
-/
import Derived.Test.YtfpmkihlfhpgdaaLabCon1
import Derived.WalkKit
import Derived.ProofKit
import Derived.OpenShut
import Derived.Below
import Derived.WalkSmall
import Derived.Deep.QuietTactic
import Derived.BigQuiet
namespace Go.Proofs.Ytfpmkihlfhpgdaa
open Go.ChangeShapes Go.WideShapes Go.ChangeAt Go.RowKit
set_option linter.unusedVariables false

set_option maxHeartbeats 4000000 in
theorem rlfit_any {B : Nat} {w : World} {ao : Option Addr} {n cap : Nat} {L : List (Int × Int)} (hL : Lab B w ao n cap L) (hB : B ≤ w.heap.size) :
    Calls Try.prog 72 #[.slice ao n cap] w fun e w' => e = .returned (.bool (fitB L)) ∧ Below w.heap.size w w' := by
  have hn := hL.1
  have hnc := hL.2.1
  have hcm := hL.2.2.1.1
  go_enter Try.func72, Try.ntmps72
  go_wp2
  go_loopw [3] (fun i wr => ∃ k : Nat, k ≤ n ∧ i = .int .i64 k ∧ (∀ j, j < k → okAt L j = true) ∧ Below w.heap.size w wr) (fun i _ => n - (intOf i).toNat)
  case atStart => exact ⟨0, Nat.zero_le _, rfl, fun j hj => absurd hj (by omega), Below.refl _ _⟩
  case round =>
    obtain ⟨k, hk, rfl, hg, hb⟩ := hrel
    by_cases hkn : k < n
    · obtain ⟨b, off, x, y, rfl, hbB, d0, d1, hxy⟩ := hL.at (hb.mono hB) hkn
      have hG : Hid (∀ j, j < k → okAt L j = true) := hg
      have hkn' : (k : Int) < n := by omega
      clear hg
      cases hf : Lv.fit y with
      | false =>
        have hr : Hid (fitB L = false) := fitB_no (k := k) (by omega) (okAt_lev hxy.out hf)
        clear hL
        go_wp2
        go_quiet (first | (go_at_call 97; refine Calls.quiet_of_same (rfit_any _ _)))
        go_wp2
        go_ret
        exact ⟨by rw [hr.out]; rfl, below_drewN hb _⟩
      | true =>
        by_cases h2 : y = 2
        · have hr : Hid (fitB L = false) := fitB_no (k := k) (by omega) (okAt_two hxy.out h2)
          clear hL
          subst h2
          go_wp2
          go_quiet (first | (go_at_call 97; refine Calls.quiet_of_same (rfit_any _ _)))
          go_wp2
          go_ret
          exact ⟨by rw [hr.out]; rfl, below_drewN hb _⟩
        · have h2' : (y == 2) = false := by simpa using h2
          by_cases h0 : k = 0
          · subst h0
            have ho : Hid (okAt L 0 = true) := okAt_yes0 hxy.out hf h2
            simp only [Nat.zero_mul, Nat.add_zero] at d0 d1
            clear hL
            go_wp2
            go_quiet (first | (go_at_call 97; refine Calls.quiet_of_same (rfit_any _ _)))
            go_wp2
            go_roundw
            case rel => exact ⟨1, by omega, by go_num, all_succ hG.out ho.out, below_drewN hb _⟩
            case measure => simp [intOf]; omega
          · obtain ⟨m, rfl⟩ : ∃ m, k = m + 1 := ⟨k - 1, by omega⟩
            obtain ⟨b', off', x', y', hbo, _, d2, _, hxy'⟩ := hL.at (hb.mono hB) (i := m) (by omega)
            simp only [Option.some.injEq, Addr.mk.injEq, and_true] at hbo
            obtain ⟨rfl, rfl⟩ := hbo
            have hwm : IntKind.i64.wrap (m : Int) = m := wrapN (by omega)
            have hmn : (m : Int) < n := by omega
            by_cases hxx : x ≤ x'
            · have hr : Hid (fitB L = false) := fitB_no (k := m + 1) (by omega) (okAt_cat hxy.out hxy'.out (by omega) hxx)
              clear hL
              go_wp2
              go_quiet (first | (go_at_call 97; refine Calls.quiet_of_same (rfit_any _ _)))
              go_wp2
              go_ret
              exact ⟨by rw [hr.out]; rfl, below_drewN hb _⟩
            · have ho : Hid (okAt L (m + 1) = true) := okAt_yes hxy.out hf h2 hxy'.out (by omega)
              clear hL
              go_wp2
              go_quiet (first | (go_at_call 97; refine Calls.quiet_of_same (rfit_any _ _)))
              go_wp2
              go_roundw
              case rel => exact ⟨m + 1 + 1, by omega, by go_num, all_succ hG.out ho.out, below_drewN hb _⟩
              case measure => simp [intOf]; omega
    · have hr : Hid (fitB L = true) := fitB_yes (fun j hj => hg j (by omega))
      clear hg hL
      go_wp2
      go_ret
      exact ⟨by rw [hr.out]; rfl, hb⟩

theorem same_any {B B' : Nat} {w : World} {ao ao' : Option Addr} {n n' cap cap' : Nat} {L L' : List (Int × Int)} (hL : Lab B w ao n cap L) (hB : B ≤ w.heap.size) (hL' : Lab B' w ao' n' cap' L') (hB' : B' ≤ w.heap.size) :
    Calls Try.prog 46 #[.slice ao n cap, .slice ao' n' cap'] w fun e w' => e = .returned (.bool (sameB L L')) ∧ Below w.heap.size w w' := by
  have hn := hL.1
  have hnc := hL.2.1
  have hcm := hL.2.2.1.1
  have hn' := hL'.1
  by_cases hnn : n = n'
  · subst hnn
    go_enter Try.func46, Try.ntmps46
    go_wp2
    go_loopw [13] (fun i wr => ∃ k : Nat, k ≤ n ∧ i = .int .i64 k ∧ (∀ j, j < k → L.getD j (0, 0) = L'.getD j (0, 0)) ∧ Below w.heap.size w wr) (fun i _ => n - (intOf i).toNat)
    case atStart => exact ⟨0, Nat.zero_le _, rfl, fun j hj => absurd hj (by omega), Below.refl _ _⟩
    case round =>
      obtain ⟨k, hk, rfl, hg, hb⟩ := hrel
      by_cases hkn : k < n
      · obtain ⟨b, off, x, y, rfl, hbB, d0, d1, hxy⟩ := hL.at (hb.mono hB) hkn
        obtain ⟨b', off', x', y', rfl, hbB', d0', d1', hxy'⟩ := hL'.at (hb.mono hB') hkn
        have hG : Hid (∀ j, j < k → L.getD j (0, 0) = L'.getD j (0, 0)) := hg
        clear hg hL hL'
        have hkn' : (k : Int) < n := by omega
        by_cases hx : x = x'
        · by_cases hy : y = y'
          · subst hx hy
            have ho : Hid (L.getD k (0, 0) = L'.getD k (0, 0)) := hxy.out.trans hxy'.out.symm
            go_wp2
            go_quiet (fail)
            go_wp2
            go_roundw
            case rel => exact ⟨k + 1, by omega, by go_num, eq_succ hG.out ho.out, below_drewN hb _⟩
            case measure => simp [intOf]; omega
          · subst hx
            have hr : Hid (sameB L L' = false) := sameB_at hxy.out hxy'.out (fun e => hy (by simpa using e))
            go_wp2
            go_quiet (fail)
            go_wp2
            go_ret
            exact ⟨by rw [hr.out]; rfl, below_drewN hb _⟩
        · have hr : Hid (sameB L L' = false) := sameB_at hxy.out hxy'.out (fun e => hx (by simp at e; exact e.1))
          go_wp2
          go_quiet (fail)
          go_wp2
          go_ret
          exact ⟨by rw [hr.out]; rfl, below_drewN hb _⟩
      · have hr : Hid (sameB L L' = true) := sameB_all (by omega) (fun j hj => hg j (by omega))
        clear hg hL hL'
        go_wp2
        go_ret
        exact ⟨by rw [hr.out]; rfl, hb⟩
  · have hr : Hid (sameB L L' = false) := sameB_len (by omega)
    have hnz : ((n : Int) == n') = false := by rw [beq_eq_false_iff_ne]; omega
    clear hL hL'
    go_enter Try.func46, Try.ntmps46
    go_wp2
    go_ret
    exact ⟨by rw [hr.out]; rfl, Below.refl _ _⟩

theorem rsame_any {B B' : Nat} {w : World} {ao ao' : Option Addr} {n n' cap cap' : Nat} {L L' : List (Int × Int)} (hL : Lab B w ao n cap L) (hB : B ≤ w.heap.size) (hL' : Lab B' w ao' n' cap' L') (hB' : B' ≤ w.heap.size) :
    Calls Try.prog 51 #[.slice ao n cap, .slice ao' n' cap'] w fun e w' => e = .returned (.bool (sameB L L')) ∧ Below w.heap.size w w' := by
  have hn := hL.1
  have hnc := hL.2.1
  have hcm := hL.2.2.1.1
  have hn' := hL'.1
  by_cases hnn : n = n'
  · subst hnn
    go_enter Try.func51, Try.ntmps51
    go_wp2
    go_loopw [5] (fun i wr => ∃ k : Nat, k ≤ n ∧ i = .int .i64 k ∧ (∀ j, j < k → L.getD j (0, 0) = L'.getD j (0, 0)) ∧ Below w.heap.size w wr) (fun i _ => n - (intOf i).toNat)
    case atStart => exact ⟨0, Nat.zero_le _, rfl, fun j hj => absurd hj (by omega), Below.refl _ _⟩
    case round =>
      obtain ⟨k, hk, rfl, hg, hb⟩ := hrel
      by_cases hkn : k < n
      · obtain ⟨b, off, x, y, rfl, hbB, d0, d1, hxy⟩ := hL.at (hb.mono hB) hkn
        obtain ⟨b', off', x', y', rfl, hbB', d0', d1', hxy'⟩ := hL'.at (hb.mono hB') hkn
        have hG : Hid (∀ j, j < k → L.getD j (0, 0) = L'.getD j (0, 0)) := hg
        clear hg hL hL'
        have hkn' : (k : Int) < n := by omega
        by_cases hx : x = x'
        · by_cases hy : y = y'
          · subst hx hy
            have ho : Hid (L.getD k (0, 0) = L'.getD k (0, 0)) := hxy.out.trans hxy'.out.symm
            go_wp2
            go_quiet (fail)
            go_wp2
            go_roundw
            case rel => exact ⟨k + 1, by omega, by go_num, eq_succ hG.out ho.out, below_drewN hb _⟩
            case measure => simp [intOf]; omega
          · subst hx
            have hr : Hid (sameB L L' = false) := sameB_at hxy.out hxy'.out (fun e => hy (by simpa using e))
            go_wp2
            go_quiet (fail)
            go_wp2
            go_ret
            exact ⟨by rw [hr.out]; rfl, below_drewN hb _⟩
        · have hr : Hid (sameB L L' = false) := sameB_at hxy.out hxy'.out (fun e => hx (by simp at e; exact e.1))
          go_wp2
          go_quiet (fail)
          go_wp2
          go_ret
          exact ⟨by rw [hr.out]; rfl, below_drewN hb _⟩
      · have hr : Hid (sameB L L' = true) := sameB_all (by omega) (fun j hj => hg j (by omega))
        clear hg hL hL'
        go_wp2
        go_ret
        exact ⟨by rw [hr.out]; rfl, hb⟩
  · have hr : Hid (sameB L L' = false) := sameB_len (by omega)
    have hnz : ((n : Int) == n') = false := by rw [beq_eq_false_iff_ne]; omega
    clear hL hL'
    go_enter Try.func51, Try.ntmps51
    go_wp2
    go_ret
    exact ⟨by rw [hr.out]; rfl, Below.refl _ _⟩
end Go.Proofs.Ytfpmkihlfhpgdaa
