/-
 PROVED HERE: what the readers of package label, and of the document's answer to it, return when they are called (contracts . What is asked stands at each.
-/
import Derived.WalkKit
import Derived.ProofKit
import Derived.OpenShut
import Derived.Below
import Derived.WalkSmall
import Derived.Deep.QuietTactic
import Derived.BigQuiet
import Derived.Test.YtfghigibjdncbaaGreatZ1
import Derived.Test.YtfghigibjdncbaaGreatZ2
namespace Go.Proofs.YtfghigibjdncbaaGreat
set_option maxRecDepth 100000
set_option maxHeartbeats 8000000
open Go.ChangeShapes Go.WideShapes Go.ChangeAt Go.RowKit
set_option linter.unusedVariables false

theorem rsame_any {B B' : Nat} {w : World} {ao ao' : Option Addr} {n n' cap cap' : Nat} {L L' : List (Int × Int)} (hL : Lab B w ao n cap L) (hB : B ≤ w.heap.size) (hL' : Lab B' w ao' n' cap' L') (hB' : B' ≤ w.heap.size) :
  Calls Tryz.prog 35 #[.slice ao n cap, .slice ao' n' cap'] w fun e w' => e = .returned (.bool (sameB L L')) ∧ Below w.heap.size w w' := by
 have hn := hL.1
 have hnc := hL.2.1
 have hcm := hL.2.2.1.1
 have hn' := hL'.1
 by_cases hnn : n = n'
 ·subst hnn
  go_enter Tryz.func35, Tryz.ntmps35
  go_wp2
  go_loopw [5] (fun i wr => ∃ k : Nat, k ≤ n ∧ i = .int .i64 k ∧ (∀ j, j < k → L.getD j (0, 0) = L'.getD j (0, 0)) ∧ Below w.heap.size w wr) (fun i _ => n - (intOf i).toNat)
  case atStart => exact ⟨0, Nat.zero_le _, rfl, fun j hj => absurd hj (by omega), Below.refl _ _⟩
  case round =>
   obtain ⟨k, hk, rfl, hg, hb⟩ := hrel
   by_cases hkn : k < n
   ·obtain ⟨b, off, x, y, rfl, hbB, d0, d1, hxy⟩ := hL.at (hb.mono hB) hkn
    obtain ⟨b', off', x', y', rfl, hbB', d0', d1', hxy'⟩ := hL'.at (hb.mono hB') hkn
    have hG : Hid (∀ j, j < k → L.getD j (0, 0) = L'.getD j (0, 0)) := hg
    clear hg hL hL'
    have hkn' : (k : Int) < n := by omega
    by_cases hx : x = x'
    ·by_cases hy : y = y'
     ·subst hx hy
      have ho : Hid (L.getD k (0, 0) = L'.getD k (0, 0)) := hxy.out.trans hxy'.out.symm
      go_wp2
      go_quiet (fail)
      go_wp2
      go_roundw
      case rel => exact ⟨k + 1, by omega, by go_num, eq_succ hG.out ho.out, below_drewN hb _⟩
      case measure => simp [intOf]; omega
     ·subst hx
      have hr : Hid (sameB L L' = false) := sameB_at hxy.out hxy'.out (fun e => hy (by simpa using e))
      go_wp2
      go_quiet (fail)
      go_wp2
      go_ret
      exact ⟨by rw [hr.out]; rfl, below_drewN hb _⟩
    ·have hr : Hid (sameB L L' = false) := sameB_at hxy.out hxy'.out (fun e => hx (by simp at e; exact e.1))
     go_wp2
     go_quiet (fail)
     go_wp2
     go_ret
     exact ⟨by rw [hr.out]; rfl, below_drewN hb _⟩
   ·have hr : Hid (sameB L L' = true) := sameB_all (by omega) (fun j hj => hg j (by omega))
    clear hg hL hL'
    go_wp2
    go_ret
    exact ⟨by rw [hr.out]; rfl, hb⟩
 ·have hr : Hid (sameB L L' = false) := sameB_len (by omega)
  have hnz : ((n : Int) == n') = false := by rw [beq_eq_false_iff_ne]; omega
  clear hL hL'
  go_enter Tryz.func35, Tryz.ntmps35
  go_wp2
  go_ret
  exact ⟨by rw [hr.out]; rfl, Below.refl _ _⟩
end Go.Proofs.YtfghigibjdncbaaGreat
