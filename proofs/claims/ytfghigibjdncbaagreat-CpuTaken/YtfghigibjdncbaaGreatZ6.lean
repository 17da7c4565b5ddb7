/-
 PROVED HERE: what label.fold returns when it is called with a function that answers whatever two levels by a level and leav. What is asked stands at each.
-/
import Derived.OrdersHeld
import Derived.OrdersIn
import Derived.Deep.RegionHeld
import Derived.RangeFuncCalls
import Derived.RangeFuncNested
import Derived.OwnWalkIn
import Derived.WalkSpells
import Derived.Laws.AppendOwnNone
import Derived.Test.YtfghigibjdncbaaGreatZ0
import Derived.Test.YtfghigibjdncbaaGreatZ3
import Derived.Test.YtfghigibjdncbaaGreatZ4
namespace Go.Proofs.YtfghigibjdncbaaGreat
set_option maxRecDepth 100000
set_option maxHeartbeats 8000000
open Go.RowKit Go.Shelf
set_option linter.unusedVariables false
attribute [local go_sem] Oper.semAt_some

def foldP (op : Int → Int → Int) (pre : List (Int × (Int × Int))) : List (Int × Int) := pre.foldl (fun acc x => snoc acc x.1 (op x.2.1 x.2.2)) []
theorem below_grown {w w' : World} (h : Below w.heap.size w w') : w.grownBy w' none := ⟨h.os, h.tape, h.output, h.size, fun k hk _ => h.block k hk⟩
theorem OwnL.next {base : Nat} {w w' : World} {ao : Option Addr} {n cap : Nat} {L : List (Int × Int)} (h : OwnL base w ao n cap L) (k : Below w.heap.size w w') : OwnL base w' ao n cap L := by
 refine ⟨h.1, h.2.kept (below_grown k) ?_⟩
 cases ao with
 | none => exact .inl rfl
 | some a => exact .inr (by simp [Value.ownBlock])
theorem Boxed.next {W W' : World} {B : Nat} {t : TypeId} {v : Value} (h : Boxed W B t v) (k : Below W.heap.size W W') : Boxed W' B t v := h.kept (below_grown k) (by simp)

end Go.Proofs.YtfghigibjdncbaaGreat
namespace Go.Proofs.YtfghigibjdncbaaGreat
set_option maxRecDepth 100000
set_option maxHeartbeats 8000000

def Rc : Int → List (Int × Int) → Prop
 | _, [] => True
 | b, p :: r => b < p.1 ∧ Rc p.1 r
def lok (v : Int) : Prop := 0 ≤ v ∧ v ≤ 5 ∧ v ≠ 2
def Fit (L : List (Int × Int)) : Prop := (∃ b, Rc b L) ∧ ∀ p ∈ L, lok p.2
theorem get_range {L : List (Int × Int)} (h : ∀ p ∈ L, lok p.2) (c : Int) : 0 ≤ get L c ∧ get L c ≤ 5 := by
 induction L with
 | nil => simp [get]
 | cons p r ih =>
  simp only [get]
  split
  ·exact ⟨(h p (by simp)).1, (h p (by simp)).2.1⟩
  ·exact ih (fun q hq => h q (by simp [hq]))
def joinL (A C : List (Int × Int)) : List (Int × Int) := foldP Lv.join (both A C)
def raiseL (A : List (Int × Int)) : List (Int × Int) := foldP (fun x _ => Lv.raise x) (both A [])
theorem Fit.nil : Fit [] := ⟨⟨0, trivial⟩, fun p hp => (by cases hp)⟩
theorem Fit.range {A : List (Int × Int)} (h : Fit A) (k : Int) : 0 ≤ get A k ∧ get A k ≤ 5 := get_range h.2 k
end Go.Proofs.YtfghigibjdncbaaGreat
