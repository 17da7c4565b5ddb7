/-
  PROVED HERE: what the iterator of package check over the categories in which a label exceeds another hands out, for every loop body (a contract over this translation). No condition.
-/
import Derived.Test.YtkhnlgbebbhmbaaLabArms
import Derived.Stop.RegionWithIn
namespace Go.Proofs.Ytkhnlgbebbhmbaa
open Go.RowKit Go.Shelf
set_option linter.unusedVariables false
attribute [local go_sem] Oper.semAt_some

/-- How many pairs at a label's beginning are a category's. -/
def hdN : List (Int × Int) → Int → Nat
  | [], _ => 0
  | p :: _, c => if p.1 = c then 1 else 0
theorem head_any {B : Nat} {w : World} {ao : Option Addr} {n cap : Nat} {L : List (Int × Int)} (c : Int) (hL : Lab B w ao n cap L) :
    Calls Try.prog 75 #[.slice ao n cap, .int .u64 c] w fun e w' => e = .returned (.int .i64 (hdN L c)) ∧ w' = w := by
  have hn := hL.1
  have hnc := hL.2.1
  have hcm := hL.2.2.1.1
  cases L with
  | nil =>
    have h0 := hL.empty
    subst h0
    clear hn
    go_enter Try.func75, Try.ntmps75
    go_wp2
    go_ret
    exact ⟨rfl, rfl⟩
  | cons p r =>
    obtain ⟨b, off, rfl, hbB, d0, d1, hnr⟩ := hL.head
    subst hnr
    clear hn
    by_cases hp : p.1 = c
    · have e1 : Hid (hdN (p :: r) c = 1) := by show hdN (p :: r) c = 1; simp [hdN, hp]
      clear hL
      subst hp
      go_enter Try.func75, Try.ntmps75
      go_wp2
      go_ret
      exact ⟨by rw [e1.out]; rfl, rfl⟩
    · have e1 : Hid (hdN (p :: r) c = 0) := by show hdN (p :: r) c = 0; simp [hdN, hp]
      have hpc : (p.1 == c) = false := by simpa using hp
      clear hL
      go_enter Try.func75, Try.ntmps75
      go_wp2
      go_ret
      exact ⟨by rw [e1.out]; rfl, rfl⟩

theorem next_any {B B' : Nat} {w : World} {ao ao' : Option Addr} {n n' cap cap' : Nat} {L L' : List (Int × Int)} (hL : Lab B w ao n cap L) (hL' : Lab B' w ao' n' cap' L') (hne : 0 < n + n') :
    Calls Try.prog 74 #[.slice ao n cap, .slice ao' n' cap'] w fun e w' => e = .returned (.int .u64 (fore L L')) ∧ ∃ m, w' = w.drewN m := by
  have hnc := hL.2.1
  have hcm := hL.2.2.1.1
  have hnc' := hL'.2.1
  have hcm' := hL'.2.2.1.1
  cases L with
  | nil =>
    have h0 := hL.empty
    subst h0
    cases L' with
    | nil => exact absurd hL'.empty (by omega)
    | cons q r' =>
      obtain ⟨b, off, rfl, hbB, d0, d1, hnr⟩ := hL'.head
      subst hnr
      clear hL hL' hne
      go_enter Try.func74, Try.ntmps74
      go_wp2
      go_ret
      exact ⟨rfl, 0, rfl⟩
  | cons p r =>
    obtain ⟨b, off, rfl, hbB, d0, d1, hnr⟩ := hL.head
    subst hnr
    have hy : ((r.length : Int) + 1 == 0) = false := by rw [beq_eq_false_iff_ne]; omega
    cases L' with
    | nil =>
      have h0 := hL'.empty
      subst h0
      clear hL hL' hne
      go_enter Try.func74, Try.ntmps74
      go_wp2
      go_ret
      exact ⟨rfl, 0, rfl⟩
    | cons q r' =>
      obtain ⟨b', off', rfl, hbB', d0', d1', hnr'⟩ := hL'.head
      subst hnr'
      clear hL hL' hne
      have hz : ((r'.length : Int) + 1 == 0) = false := by rw [beq_eq_false_iff_ne]; omega
      by_cases hpq : p.1 < q.1
      · have e1 : Hid (fore (p :: r) (q :: r') = p.1) := by show fore (p :: r) (q :: r') = p.1; simp [fore, hpq]
        go_enter Try.func74, Try.ntmps74
        go_wp2
        go_region
        all_goals go_wp2
        all_goals go_ret
        all_goals exact ⟨by rw [e1.out]; rfl, _, rfl⟩
      · have e1 : Hid (fore (p :: r) (q :: r') = q.1) := by show fore (p :: r) (q :: r') = q.1; simp [fore, hpq]
        go_enter Try.func74, Try.ntmps74
        go_wp2
        go_region
        all_goals go_wp2
        all_goals go_ret
        all_goals exact ⟨by first | (rw [e1.out]; rfl) | (have h : p.1 = q.1 := (by omega); rw [e1.out, ← h]; rfl), _, rfl⟩
end Go.Proofs.Ytkhnlgbebbhmbaa
