/-
 PROVED HERE: what the iterator of package perm over the rounds hands out, for every loop body, and what perm's functions th. What is asked stands at each.
-/
import Derived.RangeFuncNested
import Derived.RangeFuncBound
import Derived.RangeFuncCalls
import Derived.RangeFuncLeaves
import Derived.Shelf.Abstract
import Derived.Shelf.RegionOpen
import Derived.WalkKit
import Derived.OwnWalkIn
import Derived.TacticsInMore
import Derived.LoopNIn
import Derived.LoopIn
import Derived.RegionIn
import Derived.WalkSmall
import Derived.Test.YtfghigibjdncbaaGreatRows
import Derived.ProofKit
import Derived.OpenShut
import Derived.Below
import Derived.Laws.BitsAllLaws
import Derived.Deep.RegionWith
namespace Go.Proofs.YtfghigibjdncbaaGreat.SrM
set_option maxRecDepth 100000
set_option maxHeartbeats 8000000
open Go.RowKit Go.Shelf
set_option linter.unusedVariables false
attribute [local go_sem] Oper.semAt_some

def Keeps (D : Nat → Prop) (W W' : World) : Prop := W.heap.size ≤ W'.heap.size ∧ ∀ b, D b → W'.heap[b]? = W.heap[b]?
theorem Keeps.refl (D : Nat → Prop) (W : World) : Keeps D W W := ⟨Nat.le_refl _, fun _ _ => rfl⟩
theorem Keeps.trans {D : Nat → Prop} {A B C : World} (h : Keeps D A B) (k : Keeps D B C) : Keeps D A C := ⟨Nat.le_trans h.1 k.1, fun b hb => (k.2 b hb).trans (h.2 b hb)⟩
def Two (W : World) (B : Nat) (t : TypeId) (u v : Value) : Prop := W.heap[B]? = some (.cells #[u, v] t (0, 0))
theorem Two.lt {W : World} {B : Nat} {t : TypeId} {u v : Value} (h : Two W B t u v) : B < W.heap.size := (Array.getElem?_eq_some_iff.1 h).1
theorem Two.new (W : World) (t : TypeId) (u v : Value) : Two (W.alloc (.cells #[u, v] t)) W.heap.size t u v := World.alloc_heap_new W _
theorem Two.kept {W W' : World} {row : Option Nat} {B : Nat} {t : TypeId} {u v : Value} (h : Two W B t u v) (hg : W.grownBy W' row) (hne : some B ≠ row) : Two W' B t u v := (hg.block B h.lt hne).trans h
theorem Two.alloc {W : World} {B : Nat} {t : TypeId} {u v : Value} (h : Two W B t u v) (o : Obj) : Two (W.alloc o) B t u v := h.kept (World.grownBy_alloc W o none) (by simp)
theorem Two.next {W W' : World} {B : Nat} {t : TypeId} {u v : Value} (h : Two W B t u v) (k : Below W.heap.size W W') : Two W' B t u v := (k.block B h.lt).trans h
theorem Boxed.next {W W' : World} {B : Nat} {t : TypeId} {v : Value} (h : Boxed W B t v) (k : Below W.heap.size W W') : Boxed W' B t v := (k.block B h.lt).trans h
end Go.Proofs.YtfghigibjdncbaaGreat.SrM
