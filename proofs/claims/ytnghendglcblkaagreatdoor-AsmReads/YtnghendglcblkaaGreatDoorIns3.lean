/-
  PROVED HERE: what package inst's small functions return when they are called (contracts over this translation). No condition.
-/
import Derived.Test.YtnghendglcblkaaGreatDoorIns2
namespace Go.Proofs.YtnghendglcblkaaGreatDoor
open Go.ChangeShapes Go.WideShapes Go.ChangeAt Go.RowKit
set_option linter.unusedVariables false

theorem known_any (op : Int) (w : World) :
    Calls Tryz.prog 66 #[.int .i64 op] w fun e w' => e = .returned (.bool (Ins.opB op)) ∧ w = w' := by
  go_enter Tryz.func66, Tryz.ntmps66
  go_wp2
  all_goals
    go_ret
    refine ⟨?_, rfl⟩
    simp only [Ins.opB]
    simp
    omega
theorem rreg_any (n : Int) (u : Bool) (w : World) :
    Calls Tryz.prog 86 #[.int .i64 n, .bool u] w fun e w' => e = .returned (.bool (Ins.rg n u)) ∧ w = w' := by
  go_enter Tryz.func86, Tryz.ntmps86
  go_wp2
  all_goals
    go_ret
    refine ⟨?_, rfl⟩
    simp only [Ins.rg]
    simp [*]
    try omega
def canB (l v : Int) : Bool := (l == 105) || (decide (0 ≤ v) && decide (v < 16))
theorem can_any (l v : Int) (w : World) :
    Calls Tryz.prog 67 #[.int .i32 l, .int .i64 v] w fun e w' => e = .returned (.bool (canB l v)) ∧ w = w' := by
  go_enter Tryz.func67, Tryz.ntmps67
  go_wp2
  all_goals
    go_ret
    refine ⟨?_, rfl⟩
    simp only [canB]
    simp [*]
    try omega
def plc (l : Int) : Int := if l = 97 then 8 else if l = 98 then 12 else if l = 99 then 16 else 32
theorem place_any (l : Int) (w : World) :
    Calls Tryz.prog 45 #[.int .i32 l] w fun e w' => e = .returned (.int .i64 (plc l)) ∧ w = w' := by
  by_cases h1 : l = 97
  · subst h1
    go_enter Tryz.func45, Tryz.ntmps45
    go_wp2
    go_ret
    exact ⟨rfl, rfl⟩
  by_cases h2 : l = 98
  · subst h2
    go_enter Tryz.func45, Tryz.ntmps45
    go_wp2
    go_ret
    exact ⟨rfl, rfl⟩
  by_cases h3 : l = 99
  · subst h3
    go_enter Tryz.func45, Tryz.ntmps45
    go_wp2
    go_ret
    exact ⟨rfl, rfl⟩
  · have e : plc l = 32 := by unfold plc; rw [if_neg h1, if_neg h2, if_neg h3]
    rw [e]
    go_enter Tryz.func45, Tryz.ntmps45
    go_wp2
    go_ret
    exact ⟨rfl, rfl⟩
def prt (a b c i l : Int) : Int := if l = 97 then a else if l = 98 then b else if l = 99 then c else i
theorem part_any (op a b c i l : Int) (hi0 : -2147483648 ≤ i) (hi1 : i < 2147483648) (w : World) :
    Calls Tryz.prog 70 #[.agg #[.int .i64 op, .int .i64 a, .int .i64 b, .int .i64 c, .int .i32 i], .int .i32 l] w fun e w' => e = .returned (.int .i64 (prt a b c i l)) ∧ Below w.heap.size w w' := by
  by_cases h1 : l = 97
  · subst h1
    go_enter Tryz.func70, Tryz.ntmps70
    go_wp2
    go_ret
    exact ⟨rfl, (Below.refl _ w).alloc (Nat.le_refl _) _⟩
  by_cases h2 : l = 98
  · subst h2
    go_enter Tryz.func70, Tryz.ntmps70
    go_wp2
    go_ret
    exact ⟨rfl, (Below.refl _ w).alloc (Nat.le_refl _) _⟩
  by_cases h3 : l = 99
  · subst h3
    go_enter Tryz.func70, Tryz.ntmps70
    go_wp2
    go_ret
    exact ⟨rfl, (Below.refl _ w).alloc (Nat.le_refl _) _⟩
  · have e : prt a b c i l = i := by unfold prt; rw [if_neg h1, if_neg h2, if_neg h3]
    rw [e]
    go_enter Tryz.func70, Tryz.ntmps70
    go_wp2
    go_ret
    exact ⟨rfl, (Below.refl _ w).alloc (Nat.le_refl _) _⟩
theorem regA_any (x : Int) (w : World) (h0 : 0 ≤ x) (h1 : x < 18446744073709551616) :
    Calls Tryz.prog 46 #[.int .u64 x, .int .i32 97] w fun e w' => e = .returned (.int .i64 (Ins.fA x)) ∧ w = w' := by
  go_enter Tryz.func46, Tryz.ntmps46
  go_wp2_with (go_at_call 45; refine (place_any _ _).mono ?_; rintro e w' ⟨rfl, rfl⟩; rw [show plc 97 = 8 from rfl])
  go_ret
  exact ⟨rfl, rfl⟩
theorem regB_any (x : Int) (w : World) (h0 : 0 ≤ x) (h1 : x < 18446744073709551616) :
    Calls Tryz.prog 46 #[.int .u64 x, .int .i32 98] w fun e w' => e = .returned (.int .i64 (Ins.fB x)) ∧ w = w' := by
  go_enter Tryz.func46, Tryz.ntmps46
  go_wp2_with (go_at_call 45; refine (place_any _ _).mono ?_; rintro e w' ⟨rfl, rfl⟩; rw [show plc 98 = 12 from rfl])
  go_ret
  exact ⟨rfl, rfl⟩
theorem regC_any (x : Int) (w : World) (h0 : 0 ≤ x) (h1 : x < 18446744073709551616) :
    Calls Tryz.prog 46 #[.int .u64 x, .int .i32 99] w fun e w' => e = .returned (.int .i64 (Ins.fC x)) ∧ w = w' := by
  go_enter Tryz.func46, Tryz.ntmps46
  go_wp2_with (go_at_call 45; refine (place_any _ _).mono ?_; rintro e w' ⟨rfl, rfl⟩; rw [show plc 99 = 16 from rfl])
  go_ret
  exact ⟨rfl, rfl⟩
end Go.Proofs.YtnghendglcblkaaGreatDoor
