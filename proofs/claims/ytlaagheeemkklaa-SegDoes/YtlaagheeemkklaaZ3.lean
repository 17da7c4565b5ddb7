/-
 PROVED HERE: what the parts of which package label makes labels return when they are called (contracts over this translatio. What is asked stands at each.
-/
import Derived.WalkKit
import Derived.ProofKit
import Derived.OpenShut
import Derived.Below
import Derived.WalkSmall
import Derived.Deep.QuietTactic
import Derived.BigQuiet
import Derived.OwnWalk
import Derived.Maps.AppendAt
import Derived.Test.YtlaagheeemkklaaZ1
import Derived.Test.YtlaagheeemkklaaZ2
namespace Go.Proofs.Ytlaagheeemkklaa
set_option maxRecDepth 100000
set_option maxHeartbeats 8000000
open Go.ChangeShapes Go.WideShapes Go.ChangeAt Go.RowKit
set_option linter.unusedVariables false

theorem take_any {B : Nat} {w : World} {ao : Option Addr} {n cap : Nat} {L : List (Int × Int)} (c : Int) (hL : Lab B w ao n cap L) :
  Calls Try.prog 97 #[.slice ao n cap, .int .u64 c] w fun e w' => ∃ ao' n' cap', e = .returned (.tuple #[.int .i64 (takeV L c), .slice ao' n' cap']) ∧ (∀ D w, LabD D w ao n cap L → LabD D w ao' n' cap' (takeR L c)) ∧ ∃ m, w' = w.drewN m := by
 have hn := hL.1
 have hnc := hL.2.1
 have hcm := hL.2.2.1.1
 cases L with
 | nil =>
  have h0 := hL.empty
  subst h0
  clear hn
  go_enter Try.func97, Try.ntmps97
  go_wp2
  go_ret2
  exact ⟨_, _, _, rfl, fun _ _ h => h, 0, rfl⟩
 | cons p r =>
  obtain ⟨b, off, rfl, hbB, d0, d1, hnr⟩ := hL.head
  subst hnr
  clear hn
  by_cases hp : p.1 = c
  ·have e1 : takeV (p :: r) c = p.2 := by simp [takeV, hp]
   have e2 : takeR (p :: r) c = r := by simp [takeR, hp]
   rw [e1, e2]
   clear hL e1 e2
   go_enter Try.func97, Try.ntmps97
   go_wp2
   go_quiet (fail)
   all_goals go_wp2
   all_goals go_ret2
   ·exact ⟨_, _, _, rfl, fun _ _ HL => by (have h : cap = 1 := by omega); subst h; exact HL.tail (.inr ⟨rfl, by omega⟩), _, rfl⟩
   ·exact ⟨_, _, _, rfl, fun _ _ HL => HL.tail (.inl rfl), _, rfl⟩
  ·have e1 : takeV (p :: r) c = 2 := by simp [takeV, hp]
   have e2 : takeR (p :: r) c = p :: r := by simp [takeR, hp]
   rw [e1, e2]
   have hpc : (p.1 == c) = false := by simpa using hp
   clear hL e1 e2
   go_enter Try.func97, Try.ntmps97
   go_wp2
   go_ret2
   exact ⟨_, _, _, rfl, fun _ _ h => h, 0, rfl⟩

theorem foremost_any {B B' : Nat} {w : World} {ao ao' : Option Addr} {n n' cap cap' : Nat} {L L' : List (Int × Int)} (hL : Lab B w ao n cap L) (hL' : Lab B' w ao' n' cap' L') (hne : 0 < n + n') :
  Calls Try.prog 96 #[.slice ao n cap, .slice ao' n' cap'] w fun e w' => e = .returned (.int .u64 (fore L L')) ∧ ∃ m, w' = w.drewN m := by
 have hnc := hL.2.1
 have hcm := hL.2.2.1.1
 have hnc' := hL'.2.1
 have hcm' := hL'.2.2.1.1
 cases L with
 | nil =>
  have h0 := hL.empty
  subst h0
  cases L' with
  | nil => exact absurd hL'.empty (by omega)
  | cons q r' =>
   obtain ⟨b, off, rfl, hbB, d0, d1, hnr⟩ := hL'.head
   subst hnr
   clear hL hL' hne
   have hz : ((r'.length : Int) + 1 == 0) = false := by rw [beq_eq_false_iff_ne]; omega
   go_enter Try.func96, Try.ntmps96
   go_wp2
   go_quiet (fail)
   go_wp2
   go_ret
   exact ⟨rfl, _, rfl⟩
 | cons p r =>
  obtain ⟨b, off, rfl, hbB, d0, d1, hnr⟩ := hL.head
  subst hnr
  cases L' with
  | nil =>
   have h0 := hL'.empty
   subst h0
   clear hL hL' hne
   go_enter Try.func96, Try.ntmps96
   go_wp2
   go_quiet (fail)
   go_wp2
   go_ret
   exact ⟨rfl, _, rfl⟩
  | cons q r' =>
   obtain ⟨b', off', rfl, hbB', d0', d1', hnr'⟩ := hL'.head
   subst hnr'
   clear hL hL' hne
   have hz : ((r'.length : Int) + 1 == 0) = false := by rw [beq_eq_false_iff_ne]; omega
   by_cases hpq : p.1 < q.1
   ·have e1 : Hid (fore (p :: r) (q :: r') = p.1) := by show fore (p :: r) (q :: r') = p.1; simp [fore, hpq]
    go_enter Try.func96, Try.ntmps96
    go_wp2
    go_quiet (fail)
    go_wp2
    go_ret
    exact ⟨by rw [e1.out]; rfl, _, rfl⟩
   ·have e1 : Hid (fore (p :: r) (q :: r') = q.1) := by show fore (p :: r) (q :: r') = q.1; simp [fore, hpq]
    go_enter Try.func96, Try.ntmps96
    go_wp2
    go_quiet (fail)
    go_wp2
    go_ret
    exact ⟨by rw [e1.out]; rfl, _, rfl⟩
end Go.Proofs.Ytlaagheeemkklaa
