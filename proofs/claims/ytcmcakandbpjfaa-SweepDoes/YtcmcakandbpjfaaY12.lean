/-
 PROVED HERE: what each function of package perm that has no loop, and its like of the document's answer, returns when it is. What is asked stands at each.
-/
import Derived.Test.YtcmcakandbpjfaaRows
import Derived.WalkKit
import Derived.ProofKit
import Derived.OpenShut
import Derived.Below
import Derived.Laws.BitsAllLaws
import Derived.Deep.RegionWith
import Derived.RangeFuncNested
import Derived.RangeFuncBound
import Derived.RangeFuncCalls
import Derived.RangeFuncLeaves
import Derived.Shelf.Abstract
import Derived.Shelf.RegionOpen
import Derived.OwnWalkIn
import Derived.TacticsInMore
import Derived.LoopNIn
import Derived.LoopIn
import Derived.RegionIn
import Derived.WalkSmall
import Derived.Test.YtcmcakandbpjfaaY11
namespace Go.Proofs.Ytcmcakandbpjfaa.SrM
set_option maxRecDepth 100000
set_option maxHeartbeats 8000000
open Go.ChangeShapes Go.WideShapes Go.ChangeAt Go.RowKit
set_option linter.unusedVariables false

theorem cut64 (a : Nat) : IntKind.u64.wrap (a : Int) = ((a % 18446744073709551616 : Nat) : Int) := by simp [IntKind.wrap, IntKind.bits, IntKind.signed]
theorem cut64m (a c : Nat) : IntKind.u64.wrap ((a : Int) * (c : Int)) = ((a * c % 18446744073709551616 : Nat) : Int) := by rw [← Int.natCast_mul, cut64]
theorem cut64a (a c : Nat) : IntKind.u64.wrap ((a : Int) + (c : Int)) = (((a + c) % 18446744073709551616 : Nat) : Int) := by rw [← Int.natCast_add, cut64]
theorem xs30 {x : Nat} (h : x < 18446744073709551616) : bits .xor .u64 (x : Int) ((x : Int) / 1073741824) = (Pm.xs 30 x : Nat) := u64_xor_nat x (x / 1073741824) h (Pm.div_lt (k := 30) h)
theorem xs27 {x : Nat} (h : x < 18446744073709551616) : bits .xor .u64 (x : Int) ((x : Int) / 134217728) = (Pm.xs 27 x : Nat) := u64_xor_nat x (x / 134217728) h (Pm.div_lt (k := 27) h)
theorem xs31 {x : Nat} (h : x < 18446744073709551616) : bits .xor .u64 (x : Int) ((x : Int) / 2147483648) = (Pm.xs 31 x : Nat) := u64_xor_nat x (x / 2147483648) h (Pm.div_lt (k := 31) h)
def mixI (x : Int) : Int :=
 bits .xor .u64 (IntKind.u64.wrap (bits .xor .u64 (IntKind.u64.wrap (bits .xor .u64 x (x / 1073741824) * 13787848793156543929)) (IntKind.u64.wrap (bits .xor .u64 x (x / 1073741824) * 13787848793156543929) / 134217728) * 10723151780598845931))
  (IntKind.u64.wrap (bits .xor .u64 (IntKind.u64.wrap (bits .xor .u64 x (x / 1073741824) * 13787848793156543929)) (IntKind.u64.wrap (bits .xor .u64 x (x / 1073741824) * 13787848793156543929) / 134217728) * 10723151780598845931) / 2147483648)
theorem mixI_nat {x : Nat} (h : x < 18446744073709551616) : mixI x = (Pm.mixN x : Nat) := by
 unfold mixI Pm.mixN
 rw [xs30 h, show ((Pm.xs 30 x : Nat) : Int) * 13787848793156543929 = ((Pm.xs 30 x : Nat) : Int) * ((13787848793156543929 : Nat) : Int) from rfl, cut64m, xs27 (Pm.mod_lt64 _)]
 rw [show ((Pm.xs 27 (Pm.xs 30 x * 13787848793156543929 % 18446744073709551616) : Nat) : Int) * 10723151780598845931 = ((Pm.xs 27 (Pm.xs 30 x * 13787848793156543929 % 18446744073709551616) : Nat) : Int) * ((10723151780598845931 : Nat) : Int) from rfl, cut64m, xs31 (Pm.mod_lt64 _)]
theorem rmixI_any (x : Int) (w : World) :
  Calls Try.prog 94 #[.int .u64 x] w fun e w' => e = .returned (.int .u64 (mixI x)) ∧ w = w' := by
 go_enter Try.func94, Try.ntmps94
 go_wp2
 go_ret
 exact ⟨rfl, rfl⟩
def rndI (key r v : Int) : Int := mixI (IntKind.u64.wrap (IntKind.u64.wrap (key + IntKind.u64.wrap (v * 11400714819323198485)) + IntKind.u64.wrap (r * 15111065706836454659))) / 1048576
theorem rndI_nat (key r v : Nat) : rndI key r v = (Pm.rndN key r v : Nat) := by
 unfold rndI Pm.rndN
 rw [show (v : Int) * 11400714819323198485 = (v : Int) * ((11400714819323198485 : Nat) : Int) from rfl, cut64m, cut64a, show (r : Int) * 15111065706836454659 = (r : Int) * ((15111065706836454659 : Nat) : Int) from rfl, cut64m, cut64a, mixI_nat (Pm.mod_lt64 _)]
 rfl
theorem rrndI_any (key r v : Int) (w : World) :
  Calls Try.prog 91 #[.int .u64 key, .int .u64 r, .int .u64 v] w fun e w' => e = .returned (.int .u64 (rndI key r v)) ∧ w = w' := by
 go_enter Try.func91, Try.ntmps91
 go_wp2_with (go_at_call 94; refine (rmixI_any _ _).mono ?_; rintro e w' ⟨rfl, rfl⟩)
 go_ret
 exact ⟨rfl, rfl⟩
theorem rrnd_any (key r v : Nat) (w : World) :
  Calls Try.prog 91 #[.int .u64 key, .int .u64 r, .int .u64 v] w fun e w' => e = .returned (.int .u64 (Pm.rndN key r v : Nat)) ∧ w = w' := by
 rw [← rndI_nat]; exact rrndI_any _ _ _ w
theorem rndN_lt (key r v : Nat) : Pm.rndN key r v < 18446744073709551616 := Nat.lt_of_le_of_lt (Nat.div_le_self _ _) (Pm.mixN_lt _)

def r31 (key r v : Nat) : Nat := Pm.rndN key r v % 2147483648
def r30 (key r v : Nat) : Nat := Pm.rndN key r v % 1073741824
theorem xor64 {a b : Nat} (ha : a < 18446744073709551616) (hb : b < 18446744073709551616) : bits .xor .u64 (a : Int) (b : Int) = ((a ^^^ b : Nat) : Int) := u64_xor_nat a b ha hb
theorem trn_even {key r a b : Nat} (h : r % 2 = 0) (ha : a < 2147483648) : bits .xor .u64 (a : Int) (r31 key r b : Nat) = ((Pm.trnN key r (a, b)).1 : Nat) := by
 unfold r31; rw [xor64 (by omega) (by omega)]; simp [Pm.trnN, h]
theorem trn_even2 {key r a b : Nat} (h : r % 2 = 0) : b = (Pm.trnN key r (a, b)).2 := by simp [Pm.trnN, h]
theorem trn_odd {key r a b : Nat} (h : ¬ r % 2 = 0) (hb : b < 1073741824) : bits .xor .u64 (b : Int) (r30 key r a : Nat) = ((Pm.trnN key r (a, b)).2 : Nat) := by
 unfold r30; rw [xor64 (by omega) (by omega)]; simp [Pm.trnN, h]
theorem trn_odd2 {key r a b : Nat} (h : ¬ r % 2 = 0) : a = (Pm.trnN key r (a, b)).1 := by simp [Pm.trnN, h]
end Go.Proofs.Ytcmcakandbpjfaa.SrM
namespace Go.Proofs.Ytcmcakandbpjfaa.SrM
set_option maxRecDepth 100000
set_option maxHeartbeats 8000000
open Go.RowKit Go.Shelf
set_option linter.unusedVariables false
attribute [local go_sem] Oper.semAt_some

def rsAt (back : Bool) (k : Nat) : Nat := if back then 7 - k else k
def rsK (back : Bool) (k : Nat) : List Nat := (List.range k).map (rsAt back)
theorem rsK_succ (b : Bool) (k : Nat) : rsK b (k + 1) = rsK b k ++ [rsAt b k] := by simp [rsK, List.range_succ]
theorem rsK_8 (b : Bool) : rsK b 8 = Pm.rs b := by cases b <;> rfl
def Keeps (D : Nat → Prop) (W W' : World) : Prop := W.heap.size ≤ W'.heap.size ∧ ∀ b, D b → W'.heap[b]? = W.heap[b]?
theorem Keeps.refl (D : Nat → Prop) (W : World) : Keeps D W W := ⟨Nat.le_refl _, fun _ _ => rfl⟩
theorem Keeps.trans {D : Nat → Prop} {A B C : World} (h : Keeps D A B) (k : Keeps D B C) : Keeps D A C := ⟨Nat.le_trans h.1 k.1, fun b hb => (k.2 b hb).trans (h.2 b hb)⟩
def Two (W : World) (B : Nat) (t : TypeId) (u v : Value) : Prop := W.heap[B]? = some (.cells #[u, v] t (0, 0))
theorem Two.lt {W : World} {B : Nat} {t : TypeId} {u v : Value} (h : Two W B t u v) : B < W.heap.size := (Array.getElem?_eq_some_iff.1 h).1
theorem Two.new (W : World) (t : TypeId) (u v : Value) : Two (W.alloc (.cells #[u, v] t)) W.heap.size t u v := World.alloc_heap_new W _
theorem Two.kept {W W' : World} {row : Option Nat} {B : Nat} {t : TypeId} {u v : Value} (h : Two W B t u v) (hg : W.grownBy W' row) (hne : some B ≠ row) : Two W' B t u v := (hg.block B h.lt hne).trans h
theorem Two.alloc {W : World} {B : Nat} {t : TypeId} {u v : Value} (h : Two W B t u v) (o : Obj) : Two (W.alloc o) B t u v := h.kept (World.grownBy_alloc W o none) (by simp)
theorem Two.next {W W' : World} {B : Nat} {t : TypeId} {u v : Value} (h : Two W B t u v) (k : Below W.heap.size W W') : Two W' B t u v := (k.block B h.lt).trans h
theorem Boxed.next {W W' : World} {B : Nat} {t : TypeId} {v : Value} (h : Boxed W B t v) (k : Below W.heap.size W W') : Boxed W' B t v := (k.block B h.lt).trans h
end Go.Proofs.Ytcmcakandbpjfaa.SrM
