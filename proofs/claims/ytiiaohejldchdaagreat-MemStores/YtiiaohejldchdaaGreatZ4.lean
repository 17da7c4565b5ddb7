/-
 PROVED HERE: what the parts of which package label makes labels return when they are called (contracts over this translatio. What is asked stands at each.
-/
import Derived.WalkKit
import Derived.ProofKit
import Derived.OpenShut
import Derived.Below
import Derived.WalkSmall
import Derived.Deep.QuietTactic
import Derived.BigQuiet
import Derived.OwnWalk
import Derived.Maps.AppendAt
import Derived.Test.YtiiaohejldchdaaGreatZ2
import Derived.Test.YtiiaohejldchdaaGreatZ3
namespace Go.Proofs.YtiiaohejldchdaaGreat
set_option maxRecDepth 100000
set_option maxHeartbeats 8000000
open Go.ChangeShapes Go.WideShapes Go.ChangeAt Go.RowKit
set_option linter.unusedVariables false

theorem infoPair : (Tryz.prog.info? 90).map (fun i => (i.zero, i.size, i.bytes)) = some (some (.agg #[.int .u64 0, .int .i64 0]), 2, 16) := by kernel_rfl

theorem with_any {base : Nat} {w : World} {ao : Option Addr} {n cap : Nat} {L : List (Int × Int)} (c l : Int) (hL : OwnL base w ao n cap L) (hb : base ≤ w.heap.size) (hn : n < 1099511627776) :
  Calls Tryz.prog 137 #[.slice ao n cap, .int .u64 c, .int .i64 l] w fun e w' => ∃ ao' n' cap', e = .returned (.slice ao' n' cap') ∧ OwnL base w' ao' n' cap' (snoc L c l) ∧ w.grownBy w' (Value.slice ao n cap).ownBlock := by
 obtain ⟨i0, hi, hz0, hz1, hz2⟩ := info_parts infoPair
 by_cases h2 : l = 2
 ·rw [snoc_two h2]
  subst h2
  go_enter Tryz.func137, Tryz.ntmps137
  go_wp2
  go_ret
  exact ⟨_, _, _, rfl, hL, World.grownBy.refl _ _⟩
 ·rw [snoc_new h2]
  obtain ⟨hlen, hrow⟩ := hL
  have hl2 : (l == 2) = false := by simpa using h2
  have HR : Hid (L.length = n) := hlen
  clear hlen h2
  go_enter Tryz.func137, Tryz.ntmps137
  go_wp2_with (at_builtin; refine wpList_append_own _ rfl _ _ 27 rfl base 90 i0 (.agg #[.int .u64 0, .int .i64 0]) 2 16 Tryz.underlying27 hi hz0 hz1 hz2 rfl (by decide) _ _ _ rfl (hrow.alloc _) ⟨w.heap.size, 0, none⟩ 1 1 [.int .u64 c, .int .i64 l] rfl rfl (cell_two_new _ _ _ _) (by simp [Value.oneCell']) (by unfold maxLen; omega) (by omega) (by simp; omega) ?_; intro v' w1 hown' hgrow _; obtain ⟨g', cap', rfl⟩ := ownsRow_two hown')
  go_ret
  refine ⟨_, _, _, rfl, ⟨by simp [HR.out], by rw [cellsOf_append]; exact hown'⟩, (World.grownBy_alloc _ _ _).trans hgrow⟩

theorem take_any {B : Nat} {w : World} {ao : Option Addr} {n cap : Nat} {L : List (Int × Int)} (c : Int) (hL : Lab B w ao n cap L) :
  Calls Tryz.prog 107 #[.slice ao n cap, .int .u64 c] w fun e w' => ∃ ao' n' cap', e = .returned (.tuple #[.int .i64 (takeV L c), .slice ao' n' cap']) ∧ (∀ D w, LabD D w ao n cap L → LabD D w ao' n' cap' (takeR L c)) ∧ ∃ m, w' = w.drewN m := by
 have hn := hL.1
 have hnc := hL.2.1
 have hcm := hL.2.2.1.1
 cases L with
 | nil =>
  have h0 := hL.empty
  subst h0
  clear hn
  go_enter Tryz.func107, Tryz.ntmps107
  go_wp2
  go_ret2
  exact ⟨_, _, _, rfl, fun _ _ h => h, 0, rfl⟩
 | cons p r =>
  obtain ⟨b, off, rfl, hbB, d0, d1, hnr⟩ := hL.head
  subst hnr
  clear hn
  by_cases hp : p.1 = c
  ·have e1 : takeV (p :: r) c = p.2 := by simp [takeV, hp]
   have e2 : takeR (p :: r) c = r := by simp [takeR, hp]
   rw [e1, e2]
   clear hL e1 e2
   go_enter Tryz.func107, Tryz.ntmps107
   go_wp2
   go_quiet (fail)
   all_goals go_wp2
   all_goals go_ret2
   ·exact ⟨_, _, _, rfl, fun _ _ HL => by (have h : cap = 1 := by omega); subst h; exact HL.tail (.inr ⟨rfl, by omega⟩), _, rfl⟩
   ·exact ⟨_, _, _, rfl, fun _ _ HL => HL.tail (.inl rfl), _, rfl⟩
  ·have e1 : takeV (p :: r) c = 2 := by simp [takeV, hp]
   have e2 : takeR (p :: r) c = p :: r := by simp [takeR, hp]
   rw [e1, e2]
   have hpc : (p.1 == c) = false := by simpa using hp
   clear hL e1 e2
   go_enter Tryz.func107, Tryz.ntmps107
   go_wp2
   go_ret2
   exact ⟨_, _, _, rfl, fun _ _ h => h, 0, rfl⟩

theorem foremost_any {B B' : Nat} {w : World} {ao ao' : Option Addr} {n n' cap cap' : Nat} {L L' : List (Int × Int)} (hL : Lab B w ao n cap L) (hL' : Lab B' w ao' n' cap' L') (hne : 0 < n + n') :
  Calls Tryz.prog 106 #[.slice ao n cap, .slice ao' n' cap'] w fun e w' => e = .returned (.int .u64 (fore L L')) ∧ ∃ m, w' = w.drewN m := by
 have hnc := hL.2.1
 have hcm := hL.2.2.1.1
 have hnc' := hL'.2.1
 have hcm' := hL'.2.2.1.1
 cases L with
 | nil =>
  have h0 := hL.empty
  subst h0
  cases L' with
  | nil => exact absurd hL'.empty (by omega)
  | cons q r' =>
   obtain ⟨b, off, rfl, hbB, d0, d1, hnr⟩ := hL'.head
   subst hnr
   clear hL hL' hne
   have hz : ((r'.length : Int) + 1 == 0) = false := by rw [beq_eq_false_iff_ne]; omega
   go_enter Tryz.func106, Tryz.ntmps106
   go_wp2
   go_quiet (fail)
   go_wp2
   go_ret
   exact ⟨rfl, _, rfl⟩
 | cons p r =>
  obtain ⟨b, off, rfl, hbB, d0, d1, hnr⟩ := hL.head
  subst hnr
  cases L' with
  | nil =>
   have h0 := hL'.empty
   subst h0
   clear hL hL' hne
   go_enter Tryz.func106, Tryz.ntmps106
   go_wp2
   go_quiet (fail)
   go_wp2
   go_ret
   exact ⟨rfl, _, rfl⟩
  | cons q r' =>
   obtain ⟨b', off', rfl, hbB', d0', d1', hnr'⟩ := hL'.head
   subst hnr'
   clear hL hL' hne
   have hz : ((r'.length : Int) + 1 == 0) = false := by rw [beq_eq_false_iff_ne]; omega
   by_cases hpq : p.1 < q.1
   ·have e1 : Hid (fore (p :: r) (q :: r') = p.1) := by show fore (p :: r) (q :: r') = p.1; simp [fore, hpq]
    go_enter Tryz.func106, Tryz.ntmps106
    go_wp2
    go_quiet (fail)
    go_wp2
    go_ret
    exact ⟨by rw [e1.out]; rfl, _, rfl⟩
   ·have e1 : Hid (fore (p :: r) (q :: r') = q.1) := by show fore (p :: r) (q :: r') = q.1; simp [fore, hpq]
    go_enter Tryz.func106, Tryz.ntmps106
    go_wp2
    go_quiet (fail)
    go_wp2
    go_ret
    exact ⟨by rw [e1.out]; rfl, _, rfl⟩
end Go.Proofs.YtiiaohejldchdaaGreat
