/-
  PROVED HERE: the document's own SameWords, Words and Parse of layer 4 (contracts over this translation).
-/
import Derived.Test.YtpagpjidahaaeaaDoorCod13
import Derived.BigQuiet
import Derived.Deep.QuietTactic
namespace Go.Proofs.YtpagpjidahaaeaaDoor
open Go.RowKit Go.Shelf
set_option linter.unusedVariables false

def sameI (A C : List Int) : Bool := decide (A = C)
theorem sameI_at {A C : List Int} {k : Nat} (h : A.getD k 0 ≠ C.getD k 0) : sameI A C = false := by unfold sameI; rw [decide_eq_false_iff_not]; intro e; exact h (by rw [e])
theorem sameI_all {A C : List Int} (hl : A.length = C.length) (h : ∀ k, k < A.length → A.getD k 0 = C.getD k 0) : sameI A C = true := by
  unfold sameI
  rw [decide_eq_true_iff]
  refine List.ext_getElem hl (fun i h1 h2 => ?_)
  have := h i h1
  simpa [List.getD_eq_getElem?_getD, List.getElem?_eq_getElem h1, List.getElem?_eq_getElem h2] using this

set_option maxRecDepth 100000 in
set_option maxHeartbeats 1000000 in
theorem sameW_any {w : World} {ao ao' : Option Addr} {n n' cap cap' : Nat} {A C : List Int} (hA : Cts w.heap.size w ao n cap A) (hC : Cts w.heap.size w ao' n' cap' C) :
    Calls Tryd.prog 10 #[.slice ao n cap, .slice ao' n' cap'] w fun e w' => e = .returned (.bool (sameI A C)) ∧ Below w.heap.size w w' := by
  have hn := hA.1
  have hnc := hA.2.1
  have hcm := hA.2.2.1
  have hn' := hC.1
  have hnc' := hC.2.1
  have hcm' := hC.2.2.1
  by_cases hnn : n = n'
  · subst hnn
    go_enter Tryd.func10, Tryd.ntmps10
    go_wp2
    go_loopw [5] (fun i wr => ∃ k : Nat, k ≤ n ∧ i = .int .i64 k ∧ Hid (∀ j, j < k → A.getD j 0 = C.getD j 0) ∧ Below w.heap.size w wr) (fun i _ => n - (intOf i).toNat)
    case atStart => exact ⟨0, Nat.zero_le _, rfl, fun j hj => absurd hj (by omega), Below.refl _ _⟩
    case round =>
      obtain ⟨k, hk, rfl, hG, hb⟩ := hrel
      by_cases hkn : k < n
      · obtain ⟨b, off, rfl, hbB, d0⟩ := hA.at' hb hkn
        obtain ⟨b', off', rfl, hbB', d1⟩ := hC.at' hb hkn
        have hkn' : (k : Int) < n := by omega
        by_cases hx : A.getD k 0 = C.getD k 0
        · have hX : Hid (A.getD k 0 = C.getD k 0) := hx
          rw [hx] at d0
          generalize C.getD k 0 = x at d0 d1
          clear hx hA hC
          go_wp2
          go_quiet (fail)
          go_wp2
          go_roundw
          case rel => exact ⟨k + 1, by omega, by go_num, fun j hj => (by rcases Nat.lt_succ_iff_lt_or_eq.1 hj with h | rfl; exact hG.out j h; exact hX.out), below_drewN hb _⟩
          case measure => simp [intOf]; omega
        · have hr : Hid (sameI A C = false) := sameI_at hx
          have hxb : (A.getD k 0 == C.getD k 0) = false := by simpa using hx
          generalize A.getD k 0 = x at *
          generalize C.getD k 0 = y at *
          clear hA hC hx
          go_wp2
          go_quiet (fail)
          go_wp2
          go_ret
          exact ⟨by rw [hr.out]; rfl, below_drewN hb _⟩
      · have hr : Hid (sameI A C = true) := sameI_all (by omega) (fun j hj => hG.out j (by omega))
        clear hA hC
        go_wp2
        go_ret
        exact ⟨by rw [hr.out]; rfl, hb⟩
  · have hr : Hid (sameI A C = false) := by show _ = _; unfold sameI; rw [decide_eq_false_iff_not]; intro e; rw [e] at hn; omega
    have hnz : ((n : Int) == n') = false := by rw [beq_eq_false_iff_ne]; omega
    clear hA hC
    go_enter Tryd.func10, Tryd.ntmps10
    go_wp2
    go_ret
    exact ⟨by rw [hr.out]; rfl, Below.refl _ _⟩
end Go.Proofs.YtpagpjidahaaeaaDoor
