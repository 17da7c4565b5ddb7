/-
 PROVED HERE: plain facts on levels as integers (no Go text): the level that a number stands for, the order, the greater and. What is asked stands at each.
-/
import Derived.WalkKit
namespace Go.Proofs.YtloghnpfplljgaaGreat
set_option maxRecDepth 100000
set_option maxHeartbeats 8000000
section
theorem btz {w W W' : World} (h : Go.RowKit.Below w.heap.size w W) (k : Go.RowKit.Below W.heap.size W W') : Go.RowKit.Below w.heap.size w W' := h.trans (k.mono h.size)
theorem ltz {a b c : Nat} (h : a < b) (k : b ≤ c) : a < c := Nat.lt_of_lt_of_le h k
theorem lrz (a : Nat) : a ≤ a := Nat.le_refl a
theorem brz (B : Nat) (w : World) : Go.RowKit.Below B w w := Go.RowKit.Below.refl B w
abbrev tt : Bool := true
abbrev ff : Bool := false
def nl (k : Nat) : List (Option Value) := List.replicate k none
def fr (l : List Value) (k : Nat) : Act := { tmps := ⟨l ++ List.replicate k undef⟩, defers := [] }
abbrev pt (b o : Nat) : Value := .pointer (some ⟨b, o, none⟩)
abbrev ud : Value := undef
end
namespace Lv
def lv (n : Int) : Int := if 0 ≤ n ∧ n ≤ 5 then n else 2
def fit (n : Int) : Bool := decide (0 ≤ n ∧ n ≤ 5)
def leq (a b : Int) : Bool := decide (lv a ≤ lv b)
def join (a b : Int) : Int := if lv a < lv b then lv b else lv a
def raise (n : Int) : Int := if lv n = 0 then 5 else lv n
theorem lv_lo (n : Int) : 0 ≤ lv n := by unfold lv; split <;> omega
theorem lv_hi (n : Int) : lv n ≤ 5 := by unfold lv; split <;> omega
theorem lv_of {n : Int} (h : 0 ≤ n) (k : n ≤ 5) : lv n = n := by unfold lv; rw [if_pos ⟨h, k⟩]
theorem lv_no {n : Int} (h : ¬ (0 ≤ n ∧ n ≤ 5)) : lv n = 2 := by unfold lv; rw [if_neg h]
theorem join_lo (a b : Int) : 0 ≤ join a b := by unfold join; have := lv_lo a; have := lv_lo b; split <;> omega
theorem join_hi (a b : Int) : join a b ≤ 5 := by unfold join; have := lv_hi a; have := lv_hi b; split <;> omega
theorem raise_lo (n : Int) : 0 ≤ raise n := by unfold raise; have := lv_lo n; split <;> omega
theorem raise_hi (n : Int) : raise n ≤ 5 := by unfold raise; have := lv_hi n; split <;> omega
theorem leq_iff {a b : Int} : leq a b = true ↔ lv a ≤ lv b := by unfold leq; simp
end Lv
end Go.Proofs.YtloghnpfplljgaaGreat
