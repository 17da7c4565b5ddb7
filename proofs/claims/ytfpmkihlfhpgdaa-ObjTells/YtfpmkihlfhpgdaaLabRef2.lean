/-
  PROVED HERE: what Set, Leq, Owned and Cats of the document's answer to label return when they are called (contracts over this translation). A label has fewer than 2^38 pairs where one is made.
-/
import Derived.Test.YtfpmkihlfhpgdaaLabRef1
import Derived.Test.YtfpmkihlfhpgdaaLabOwned
namespace Go.Proofs.Ytfpmkihlfhpgdaa
open Go.ChangeShapes Go.WideShapes Go.ChangeAt Go.RowKit
set_option linter.unusedVariables false

def rleqB (A C : List (Int × Int)) : Bool := (A.all fun p => Lv.leq p.2 (get C p.1)) && (C.all fun q => Lv.leq (get A q.1) q.2)
theorem all_no {A : List (Int × Int)} {f : Int × Int → Bool} {k : Nat} {p : Int × Int} (h : k < A.length) (e : A.getD k (0, 0) = p) (hf : f p = false) : A.all f = false := by
  rw [List.all_eq_false]
  have e' : A[k] = p := by simpa [List.getD_eq_getElem?_getD, List.getElem?_eq_getElem h] using e
  exact ⟨p, e' ▸ List.getElem_mem h, by simp [hf]⟩
theorem all_yes {A : List (Int × Int)} {f : Int × Int → Bool} (h : ∀ k, k < A.length → f (A.getD k (0, 0)) = true) : A.all f = true := by
  rw [List.all_eq_true]
  intro x hx
  obtain ⟨k, hk, rfl⟩ := List.getElem_of_mem hx
  have := h k hk
  simpa [List.getD_eq_getElem?_getD, List.getElem?_eq_getElem hk] using this

set_option maxHeartbeats 4000000 in
theorem rlleq_any {w : World} {ao ao' : Option Addr} {n n' cap cap' : Nat} {L L' : List (Int × Int)} (hL : Lab w.heap.size w ao n cap L) (hL' : Lab w.heap.size w ao' n' cap' L') :
    Calls Try.prog 42 #[.slice ao n cap, .slice ao' n' cap'] w fun e w' => e = .returned (.bool (rleqB L L')) ∧ Below w.heap.size w w' := by
  have hn := hL.1
  have hcm := hL.2.2.1.1
  have hnc := hL.2.1
  have hn' := hL'.1
  have hcm' := hL'.2.2.1.1
  have hnc' := hL'.2.1
  go_enter Try.func42, Try.ntmps42
  go_wp2
  go_loopw [5] (fun i wr => ∃ k : Nat, k ≤ n ∧ i = .int .i64 k ∧ (∀ j, j < k → Lv.leq (L.getD j (0, 0)).2 (get L' (L.getD j (0, 0)).1) = true) ∧ Below w.heap.size w wr) (fun i _ => n - (intOf i).toNat)
  case atStart => exact ⟨0, Nat.zero_le _, rfl, fun j hj => absurd hj (by omega), Below.refl _ _⟩
  case round =>
    obtain ⟨k, hk, rfl, hg, hb⟩ := hrel
    have HG : Hid (∀ j, j < k → Lv.leq (L.getD j (0, 0)).2 (get L' (L.getD j (0, 0)).1) = true) := hg
    clear hg
    by_cases hkn : k < n
    · obtain ⟨b, off, x, y, rfl, hbB, d0, d1, hxy⟩ := hL.at hb hkn
      have hkn' : (k : Int) < n := by omega
      have HL' : ∀ m, Lab w.heap.size (wr.drewN m) ao' n' cap' L' := fun m => hL'.later (below_drewN hb m)
      clear hL hL'
      cases hq : Lv.leq y (get L' x) with
      | false =>
        have hr : Hid (rleqB L L' = false) := by
          show (_ && _) = false
          rw [all_no (p := (x, y)) (k := k) (by omega) hxy.out hq]; rfl
        go_wp2
        go_quiet (first | (go_at_call 76; refine Calls.quiet_of_same (rget_any _ (HL' _))) | (go_at_call 75; refine Calls.quiet_of_same (rleq_any _ _ _)))
        go_wp2
        go_ret
        exact ⟨by rw [hr.out]; rfl, below_drewN hb _⟩
      | true =>
        go_wp2
        go_quiet (first | (go_at_call 76; refine Calls.quiet_of_same (rget_any _ (HL' _))) | (go_at_call 75; refine Calls.quiet_of_same (rleq_any _ _ _)))
        go_wp2
        go_roundw
        case rel => exact ⟨k + 1, by omega, by go_num, fun j hj => by
          rcases Nat.lt_or_ge j k with h | h
          · exact HG.out j h
          · have : j = k := by omega
            rw [this, hxy.out]; exact hq, below_drewN hb _⟩
        case measure => simp [intOf]; omega
    · have hA : Hid (L.all (fun p => Lv.leq p.2 (get L' p.1)) = true) := all_yes (fun j hj => HG.out j (by omega))
      clear HG
      go_wp2
      go_loopw [6] (fun i wr => ∃ k : Nat, k ≤ n' ∧ i = .int .i64 k ∧ (∀ j, j < k → Lv.leq (get L (L'.getD j (0, 0)).1) (L'.getD j (0, 0)).2 = true) ∧ Below w.heap.size w wr) (fun i _ => n' - (intOf i).toNat)
      case atStart => exact ⟨0, Nat.zero_le _, rfl, fun j hj => absurd hj (by omega), hb⟩
      case round =>
        clear hb
        obtain ⟨k, hk, rfl, hg, hb⟩ := hrel
        have HG : Hid (∀ j, j < k → Lv.leq (get L (L'.getD j (0, 0)).1) (L'.getD j (0, 0)).2 = true) := hg
        clear hg
        by_cases hkn : k < n'
        · obtain ⟨b, off, x, y, rfl, hbB, d0, d1, hxy⟩ := hL'.at hb hkn
          have hkn' : (k : Int) < n' := by omega
          have HL : ∀ m, Lab w.heap.size (wr.drewN m) ao n cap L := fun m => hL.later (below_drewN hb m)
          clear hL hL'
          cases hq : Lv.leq (get L x) y with
          | false =>
            have hr : Hid (rleqB L L' = false) := by
              show (_ && _) = false
              rw [all_no (A := L') (p := (x, y)) (k := k) (by omega) hxy.out hq, Bool.and_false]
            go_wp2
            go_quiet (first | (go_at_call 76; refine Calls.quiet_of_same (rget_any _ (HL _))) | (go_at_call 75; refine Calls.quiet_of_same (rleq_any _ _ _)))
            go_wp2
            go_ret
            exact ⟨by rw [hr.out]; rfl, below_drewN hb _⟩
          | true =>
            go_wp2
            go_quiet (first | (go_at_call 76; refine Calls.quiet_of_same (rget_any _ (HL _))) | (go_at_call 75; refine Calls.quiet_of_same (rleq_any _ _ _)))
            go_wp2
            go_roundw
            case rel => exact ⟨k + 1, by omega, by go_num, fun j hj => by
              rcases Nat.lt_or_ge j k with h | h
              · exact HG.out j h
              · have : j = k := by omega
                rw [this, hxy.out]; exact hq, below_drewN hb _⟩
            case measure => simp [intOf]; omega
        · have hr : Hid (rleqB L L' = true) := by
            show (_ && _) = true
            rw [hA.out, all_yes (A := L') (fun j hj => HG.out j (by omega))]; rfl
          clear HG hL hL'
          go_wp2
          go_ret
          exact ⟨by rw [hr.out]; rfl, hb⟩
theorem rowned_any {w : World} {ao : Option Addr} {n cap : Nat} {L : List (Int × Int)} (hL : Lab w.heap.size w ao n cap L) (hk : n < 274877906944) :
    Calls Try.prog 38 #[.slice ao n cap] w fun e w' => ∃ ao1 n1 cap1, e = .returned (.slice ao1 n1 cap1) ∧ Cts w'.heap.size w' ao1 n1 cap1 (owned L) ∧ Below w.heap.size w w' := by
  obtain ⟨i0, hi, hz0, hz1, hz2⟩ := info_parts infoU64
  have hn := hL.1
  have hnc := hL.2.1
  have hcm := hL.2.2.1.1
  go_enter Try.func38, Try.ntmps38
  go_wp2
  go_loopw [3, 4] (fun v i wr => ∃ k : Nat, k ≤ n ∧ i = .int .i64 k ∧ wr.ownsRow w.heap.size 22 1 v (ownK L k).length ((ownK L k).map (Value.int .u64)) ∧ Below w.heap.size w wr) (fun _ i _ => n - (intOf i).toNat)
  case atStart => exact ⟨0, Nat.zero_le _, rfl, World.ownsRow_nil _ _ _ _, Below.refl _ _⟩
  case round =>
    obtain ⟨k, hkn, rfl, hrow, hb⟩ := hrel
    have hlk := ownK_len L k
    by_cases hlt : k < n
    · obtain ⟨b, off, x, y, rfl, hbB, d0, d1, hxy⟩ := hL.at hb hlt
      have hbw : b < wr.heap.size := Nat.lt_of_lt_of_le hbB hb.size
      clear hL
      by_cases hy : y = 0
      · have hs : Hid (ownK L (k + 1) = ownK L k ++ [x]) := ownK_hit (by omega) hxy.out hy
        subst hy
        go_wp2_with (at_builtin; refine wpList_append_own _ rfl _ _ 25 rfl w.heap.size 22 i0 (.int .u64 0) 1 8 Try.underlying25 hi hz0 hz1 hz2 rfl (by decide) _ _ _ rfl (hrow.alloc _) ⟨wr.heap.size, 0, none⟩ 1 1 [.int .u64 x] rfl rfl (cell_one_new _ _ _) (by simp [Value.oneCell']) (by unfold maxLen; omega) (by omega) (by have := hb.size; simp; omega) ?_; intro v' w1 hown' hgrow _; obtain ⟨g', cap', rfl⟩ := ownsRow_two hown')
        have hb2 : Below w.heap.size w w1 := app_below hb hrow hgrow hb.size
        go_roundw
        case rel => exact ⟨k + 1, by omega, by go_num, by rw [hs.out]; simpa using hown', hb2⟩
        case measure => simp [intOf]; omega
      · have hs : Hid (ownK L (k + 1) = ownK L k) := ownK_miss (by omega) hxy.out hy
        have hy0 : (y == 0) = false := by simpa using hy
        go_wp2
        go_roundw
        case rel => exact ⟨k + 1, by omega, by go_num, by rw [hs.out]; exact hrow, hb⟩
        case measure => simp [intOf]; omega
    · have hs := ownK_all (L := L) (k := k) (by omega)
      rw [hs] at hrow
      obtain ⟨aoL, capL, rfl, hcts⟩ := Cts.of_row hrow
      clear hL hs
      go_wp2
      go_ret
      exact ⟨_, _, _, rfl, hcts, hb⟩
def sameC (A C : List Int) : Bool := decide (A = C)
theorem cats_any {w : World} {ao ao' : Option Addr} {n n' cap cap' : Nat} {L : List Int} (hL : Cts w.heap.size w ao n cap L) (hL' : Cts w.heap.size w ao' n' cap' L) :
    Calls Try.prog 52 #[.slice ao n cap, .slice ao' n' cap'] w fun e w' => e = .returned (.bool true) ∧ Below w.heap.size w w' := by
  have hn := hL.1
  have hnc := hL.2.1
  have hcm := hL.2.2.1
  have hn' := hL'.1
  have hnn : n = n' := by omega
  subst hnn
  go_enter Try.func52, Try.ntmps52
  go_wp2
  go_loopw [5] (fun i wr => ∃ k : Nat, k ≤ n ∧ i = .int .i64 k ∧ Below w.heap.size w wr) (fun i _ => n - (intOf i).toNat)
  case atStart => exact ⟨0, Nat.zero_le _, rfl, Below.refl _ _⟩
  case round =>
    obtain ⟨k, hk, rfl, hb⟩ := hrel
    by_cases hkn : k < n
    · obtain ⟨b, off, hao, hbB, hc⟩ := (hL.later hb).2.2.2 (by omega)
      obtain ⟨b', off', hao', hbB', hc'⟩ := (hL'.later hb).2.2.2 (by omega)
      subst hao hao'
      have d0 := hc k hkn
      have d1 := hc' k hkn
      obtain ⟨x, hx⟩ : ∃ x, Hid (L.getD k 0 = x) := ⟨_, rfl⟩
      rw [hx.out] at d0 d1
      have hkn' : (k : Int) < n := by omega
      clear hL hL' hc hc'
      go_wp2
      go_quiet (fail)
      go_wp2
      go_roundw
      case rel => exact ⟨k + 1, by omega, by go_num, below_drewN hb _⟩
      case measure => simp [intOf]; omega
    · clear hL hL'
      go_wp2
      go_ret
      exact ⟨rfl, hb⟩
end Go.Proofs.Ytfpmkihlfhpgdaa
