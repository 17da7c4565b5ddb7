/-
  PROVED HERE: what each function of package serial that has no call of perm, and its like of the document's answer, returns when it is called (contracts over this translation). No condition.
-/
import Derived.Test.YtjgdafpciilfeaaRows
import Derived.Test.YtjgdafpciilfeaaPrm3
import Derived.Test.YtjgdafpciilfeaaSer1
namespace Go.Proofs.Ytjgdafpciilfeaa
open Go.ChangeShapes Go.WideShapes Go.ChangeAt Go.RowKit
set_option linter.unusedVariables false

/-- A span as a value. -/
abbrev spv (a b : Nat) : Value := .agg #[.int .u64 (a : Int), .int .u64 (b : Int)]
/-- How many a sixteenth has. -/
def share (a b : Nat) : Nat := (b - a) / 16
def ltB (a b : Nat) : Bool := decide (a < b)
def sfitB (a b : Nat) : Bool := decide (a ≤ b) && decide (b ≤ 2305843009213693952)
def hasB (a b n : Nat) : Bool := decide (a ≤ n) && decide (n < b)
theorem sfit_iff (a b : Nat) : sfitB a b = true ↔ a ≤ b ∧ b ≤ 2305843009213693952 := by unfold sfitB; simp
theorem has_iff (a b n : Nat) : hasB a b n = true ↔ a ≤ n ∧ n < b := by unfold hasB; simp
theorem share_I {a b : Nat} (h : a ≤ b) : ((b : Int) - (a : Int)) / 16 = (share a b : Nat) := by unfold share; omega
theorem some_any (a b : Nat) (w : World) :
    Calls Try.prog 15 #[.agg #[.int .u64 (a : Int), .int .u64 (b : Int)]] w fun e w' => e = .returned (.bool (ltB a b)) ∧ Below w.heap.size w w' := by
  have hB := (Below.refl w.heap.size w).alloc (Nat.le_refl _) (.cells #[.int .u64 (a : Int), .int .u64 (b : Int)] 46)
  go_enter Try.func15, Try.ntmps15
  go_wp2
  go_ret
  exact ⟨rfl, hB⟩
theorem share_any {a b : Nat} (h : a ≤ b) (hb : b < 18446744073709551616) (w : World) :
    Calls Try.prog 24 #[.agg #[.int .u64 (a : Int), .int .u64 (b : Int)]] w fun e w' => e = .returned (.int .u64 (share a b : Nat)) ∧ Below w.heap.size w w' := by
  have hB := (Below.refl w.heap.size w).alloc (Nat.le_refl _) (.cells #[.int .u64 (a : Int), .int .u64 (b : Int)] 46)
  have e : Hid (((b : Int) - (a : Int)) / 16 = (share a b : Nat)) := share_I h
  go_enter Try.func24, Try.ntmps24
  go_wp2
  go_ret
  exact ⟨congrArg (fun v => Ending.returned (Value.int .u64 v)) e.out, hB⟩
theorem divisible_any {a b : Nat} (h : a ≤ b) (hb : b < 18446744073709551616) (w : World) :
    Calls Try.prog 17 #[.agg #[.int .u64 (a : Int), .int .u64 (b : Int)]] w fun e w' => e = .returned (.bool (ltB 0 (share a b))) ∧ Below w.heap.size w w' := by
  have hB := (Below.refl w.heap.size w).alloc (Nat.le_refl _) (.cells #[.int .u64 (a : Int), .int .u64 (b : Int)] 46)
  go_enter Try.func17, Try.ntmps17
  go_wp2_with (go_at_call 24; refine (share_any h hb _).mono ?_; rintro e w1 ⟨rfl, hb⟩; replace hB := hB.trans (hb.mono hB.size); clear hb)
  go_ret
  exact ⟨rfl, hB⟩
theorem sfit_any (a b : Nat) (w : World) :
    Calls Try.prog 20 #[.agg #[.int .u64 (a : Int), .int .u64 (b : Int)]] w fun e w' => e = .returned (.bool (sfitB a b)) ∧ Below w.heap.size w w' := by
  have hB := (Below.refl w.heap.size w).alloc (Nat.le_refl _) (.cells #[.int .u64 (a : Int), .int .u64 (b : Int)] 46)
  by_cases h : a ≤ b
  · have e : Hid (sfitB a b = decide ((b : Int) ≤ 2305843009213693952)) := by show sfitB a b = _; unfold sfitB; rw [decide_eq_true h, Bool.true_and]; exact decide_eq_decide.2 (by omega)
    go_enter Try.func20, Try.ntmps20
    go_wp2
    go_ret
    exact ⟨by rw [e.out]; rfl, hB⟩
  · have e : Hid (sfitB a b = false) := by show sfitB a b = _; unfold sfitB; rw [decide_eq_false h, Bool.false_and]
    go_enter Try.func20, Try.ntmps20
    go_wp2
    go_ret
    exact ⟨by rw [e.out]; rfl, hB⟩
theorem rFit_any (a b : Nat) (w : World) :
    Calls Try.prog 6 #[.agg #[.int .u64 (a : Int), .int .u64 (b : Int)]] w fun e w' => e = .returned (.bool (sfitB a b)) ∧ Below w.heap.size w w' := by
  have hB := (Below.refl w.heap.size w).alloc (Nat.le_refl _) (.cells #[.int .u64 (a : Int), .int .u64 (b : Int)] 24)
  by_cases h : a ≤ b
  · have e : Hid (sfitB a b = decide ((b : Int) ≤ 2305843009213693952)) := by show sfitB a b = _; unfold sfitB; rw [decide_eq_true h, Bool.true_and]; exact decide_eq_decide.2 (by omega)
    go_enter Try.func6, Try.ntmps6
    go_wp2
    go_ret
    exact ⟨by rw [e.out]; rfl, hB⟩
  · have e : Hid (sfitB a b = false) := by show sfitB a b = _; unfold sfitB; rw [decide_eq_false h, Bool.false_and]
    go_enter Try.func6, Try.ntmps6
    go_wp2
    go_ret
    exact ⟨by rw [e.out]; rfl, hB⟩
theorem Fit_any (a b : Nat) (w : World) :
    Calls Try.prog 11 #[.agg #[.int .u64 (a : Int), .int .u64 (b : Int)]] w fun e w' => e = .returned (.bool (sfitB a b)) ∧ Below w.heap.size w w' := by
  have hB := (Below.refl w.heap.size w).alloc (Nat.le_refl _) (.cells #[.int .u64 (a : Int), .int .u64 (b : Int)] 24)
  go_enter Try.func11, Try.ntmps11
  go_wp2_with (go_at_call 20; refine (sfit_any _ _ _).mono ?_; rintro e w1 ⟨rfl, hb⟩; replace hB := hB.trans (hb.mono hB.size); clear hb)
  go_ret
  exact ⟨rfl, hB⟩
theorem has_any (a b n : Nat) (w : World) :
    Calls Try.prog 21 #[.agg #[.int .u64 (a : Int), .int .u64 (b : Int)], .int .u64 (n : Int)] w fun e w' => e = .returned (.bool (hasB a b n)) ∧ Below w.heap.size w w' := by
  have hB := (Below.refl w.heap.size w).alloc (Nat.le_refl _) (.cells #[.int .u64 (a : Int), .int .u64 (b : Int)] 46)
  by_cases h : a ≤ n
  · have e : Hid (hasB a b n = decide (n < b)) := by show hasB a b n = _; unfold hasB; rw [decide_eq_true h, Bool.true_and]
    go_enter Try.func21, Try.ntmps21
    go_wp2
    go_ret
    exact ⟨by rw [e.out]; rfl, hB⟩
  · have e : Hid (hasB a b n = false) := by show hasB a b n = _; unfold hasB; rw [decide_eq_false h, Bool.false_and]
    go_enter Try.func21, Try.ntmps21
    go_wp2
    go_ret
    exact ⟨by rw [e.out]; rfl, hB⟩
def mxN (a c : Nat) : Nat := max a c
def mnN (b d : Nat) : Nat := min b d
theorem common_any (a b c d : Nat) (w : World) :
    Calls Try.prog 19 #[.agg #[.int .u64 (a : Int), .int .u64 (b : Int)], .agg #[.int .u64 (c : Int), .int .u64 (d : Int)]] w fun e w' => e = .returned (.agg #[.int .u64 (mxN a c : Nat), .int .u64 (mnN b d : Nat)]) ∧ Below w.heap.size w w' := by
  have hB : ∀ x y : Int, Below w.heap.size w (((w.alloc (Obj.cells #[.int .u64 (a : Int), .int .u64 (b : Int)] 46)).alloc (Obj.cells #[.int .u64 (c : Int), .int .u64 (d : Int)] 46)).alloc (Obj.cells #[.int .u64 x, .int .u64 y] 46)) := fun x y =>
    (((Below.refl _ w).alloc (Nat.le_refl _) _).alloc (by simp) _).alloc (by simp; omega) _
  go_enter Try.func19, Try.ntmps19
  go_wp2
  · rename_i h1
    have e1 : mxN a c = c := by unfold mxN; omega
    have e2 : mnN b d = d := by unfold mnN; omega
    rw [e1, e2]
    exact bodyPost_ret (v := .agg #[.int .u64 (c : Int), .int .u64 (d : Int)]) (by simp [results, Try.f19, go_sem]) rfl ⟨rfl, hB _ _⟩
  · rename_i h1
    have e1 : mxN a c = c := by unfold mxN; omega
    have e2 : mnN b d = b := by unfold mnN; omega
    rw [e1, e2]
    exact bodyPost_ret (v := .agg #[.int .u64 (c : Int), .int .u64 (b : Int)]) (by simp [results, Try.f19, go_sem]) rfl ⟨rfl, hB _ _⟩
  · rename_i h1
    have e1 : mxN a c = a := by unfold mxN; omega
    have e2 : mnN b d = d := by unfold mnN; omega
    rw [e1, e2]
    exact bodyPost_ret (v := .agg #[.int .u64 (a : Int), .int .u64 (d : Int)]) (by simp [results, Try.f19, go_sem]) rfl ⟨rfl, hB _ _⟩
  · rename_i h1
    have e1 : mxN a c = a := by unfold mxN; omega
    have e2 : mnN b d = b := by unfold mnN; omega
    rw [e1, e2]
    exact bodyPost_ret (v := .agg #[.int .u64 (a : Int), .int .u64 (b : Int)]) (by simp [results, Try.f19, go_sem]) rfl ⟨rfl, hB _ _⟩
def apartB (a b c d : Nat) : Bool := !ltB (mxN a c) (mnN b d)
theorem apart_any (a b c d : Nat) (w : World) :
    Calls Try.prog 10 #[.agg #[.int .u64 (a : Int), .int .u64 (b : Int)], .agg #[.int .u64 (c : Int), .int .u64 (d : Int)]] w fun e w' => e = .returned (.bool (apartB a b c d)) ∧ Below w.heap.size w w' := by
  have hB := ((Below.refl w.heap.size w).alloc (Nat.le_refl _) (.cells #[.int .u64 (a : Int), .int .u64 (b : Int)] 24)).alloc (by simp) (.cells #[.int .u64 (c : Int), .int .u64 (d : Int)] 24)
  go_enter Try.func10, Try.ntmps10
  go_wp2_with (first | (go_at_call 19; refine (common_any _ _ _ _ _).mono ?_; rintro e w1 ⟨rfl, hb⟩; replace hB := hB.trans (hb.mono hB.size); clear hb) | (go_at_call 15; refine (some_any _ _ _).mono ?_; rintro e w1 ⟨rfl, hb⟩; replace hB := hB.trans (hb.mono hB.size); clear hb))
  go_ret
  exact ⟨rfl, hB⟩
/-- A giver's question. -/
theorem askedS_any {a b g : Nat} {w : World} (h : Two w g 43 (.int .u64 (a : Int)) (.int .u64 (b : Int))) (v : Bool) (hv : ltB a b = v) :
    Calls Try.prog 14 #[.pointer (some ⟨g, 0, none⟩), .func (.func 15) #[] #[]] w fun e w' => e = .returned (.int .i64 (if v then 0 else 7)) ∧ Below w.heap.size w w' := by
  have d0 := h.cell0
  have d1 := h.cell1
  have hc := fun w => some_any a b w
  simp only [hv] at hc
  have hB := Below.refl w.heap.size w
  clear h
  cases v <;>
  · go_enter Try.func14, Try.ntmps14
    go_wp2_with (go_at_call 15; refine (hc _).mono ?_; rintro e w1 ⟨rfl, hb⟩; replace hB := hB.trans (hb.mono hB.size); clear hb)
    go_ret
    exact ⟨rfl, hB⟩
theorem askedD_any {a b g : Nat} (hab : a ≤ b) (hb : b < 18446744073709551616) {w : World} (h : Two w g 43 (.int .u64 (a : Int)) (.int .u64 (b : Int))) (v : Bool) (hv : ltB 0 (share a b) = v) :
    Calls Try.prog 14 #[.pointer (some ⟨g, 0, none⟩), .func (.func 17) #[] #[]] w fun e w' => e = .returned (.int .i64 (if v then 0 else 7)) ∧ Below w.heap.size w w' := by
  have d0 := h.cell0
  have d1 := h.cell1
  have hc := fun w => divisible_any hab hb w
  simp only [hv] at hc
  have hB := Below.refl w.heap.size w
  clear h
  cases v <;>
  · go_enter Try.func14, Try.ntmps14
    go_wp2_with (go_at_call 17; refine (hc _).mono ?_; rintro e w1 ⟨rfl, hb⟩; replace hB := hB.trans (hb.mono hB.size); clear hb)
    go_ret
    exact ⟨rfl, hB⟩
end Go.Proofs.Ytjgdafpciilfeaa
