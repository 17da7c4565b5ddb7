/-
 PROVED HERE: what each function of package perm that has no loop, and its like of the document's answer, returns when it is. What is asked stands at each.
-/
import Derived.Test.YtloghnpfplljgaaGreatRows
import Derived.WalkKit
import Derived.ProofKit
import Derived.OpenShut
import Derived.Below
import Derived.Laws.BitsAllLaws
import Derived.Deep.RegionWith
import Derived.RangeFuncNested
import Derived.RangeFuncBound
import Derived.RangeFuncCalls
import Derived.RangeFuncLeaves
import Derived.Shelf.Abstract
import Derived.Shelf.RegionOpen
import Derived.OwnWalkIn
import Derived.TacticsInMore
import Derived.LoopNIn
import Derived.LoopIn
import Derived.RegionIn
import Derived.WalkSmall
import Derived.Test.YtloghnpfplljgaaGreatZ12
namespace Go.Proofs.YtloghnpfplljgaaGreat
set_option maxRecDepth 100000
set_option maxHeartbeats 8000000
set_option linter.unusedVariables false
open Go.Proofs.Tryz
section
theorem btp1 {w W W' : World} (h : Go.RowKit.Below w.heap.size w W) (k : Go.RowKit.Below W.heap.size W W') : Go.RowKit.Below w.heap.size w W' := h.trans (k.mono h.size)
theorem ltp1 {a b c : Nat} (h : a < b) (k : b ≤ c) : a < c := Nat.lt_of_lt_of_le h k
theorem lrp1 (a : Nat) : a ≤ a := Nat.le_refl a
theorem brp1 (B : Nat) (w : World) : Go.RowKit.Below B w w := Go.RowKit.Below.refl B w
abbrev tp1 : Bool := true
abbrev fp1 : Bool := false
end
namespace SrM
open Go.ChangeShapes Go.WideShapes Go.ChangeAt Go.RowKit
theorem cut64 (a : Nat) : IntKind.u64.wrap (a : Int) = ((a % 18446744073709551616 : Nat) : Int) := by simp [IntKind.wrap, IntKind.bits, IntKind.signed]
theorem uwz (a c : Nat) : IntKind.u64.wrap ((a : Int) * (c : Int)) = ((a * c % 18446744073709551616 : Nat) : Int) := by rw [← Int.natCast_mul, cut64]
theorem cut64a (a c : Nat) : IntKind.u64.wrap ((a : Int) + (c : Int)) = (((a + c) % 18446744073709551616 : Nat) : Int) := by rw [← Int.natCast_add, cut64]
variable {x : Nat}
theorem xs30 (h : x < 18446744073709551616) : bits .xor .u64 (x : Int) ((x : Int) / 1073741824) = (Pm.xs 30 x : Nat) := u64_xor_nat x (x / 1073741824) h (Pm.div_lt (k := 30) h)
theorem xs27 (h : x < 18446744073709551616) : bits .xor .u64 (x : Int) ((x : Int) / 134217728) = (Pm.xs 27 x : Nat) := u64_xor_nat x (x / 134217728) h (Pm.div_lt (k := 27) h)
theorem xs31 (h : x < 18446744073709551616) : bits .xor .u64 (x : Int) ((x : Int) / 2147483648) = (Pm.xs 31 x : Nat) := u64_xor_nat x (x / 2147483648) h (Pm.div_lt (k := 31) h)
def mixI (x : Int) : Int :=
 bits .xor .u64 (IntKind.u64.wrap (bits .xor .u64 (IntKind.u64.wrap (bits .xor .u64 x (x / 1073741824) * 13787848793156543929)) (IntKind.u64.wrap (bits .xor .u64 x (x / 1073741824) * 13787848793156543929) / 134217728) * 10723151780598845931))
  (IntKind.u64.wrap (bits .xor .u64 (IntKind.u64.wrap (bits .xor .u64 x (x / 1073741824) * 13787848793156543929)) (IntKind.u64.wrap (bits .xor .u64 x (x / 1073741824) * 13787848793156543929) / 134217728) * 10723151780598845931) / 2147483648)
theorem mixI_nat (h : x < 18446744073709551616) : mixI x = (Pm.mixN x : Nat) := by
 unfold mixI Pm.mixN
 rw [xs30 h, show ((Pm.xs 30 x : Nat) : Int) * 13787848793156543929 = ((Pm.xs 30 x : Nat) : Int) * ((13787848793156543929 : Nat) : Int) from rfl, uwz, xs27 (Pm.mod_lt64 _)]
 rw [show ((Pm.xs 27 (Pm.xs 30 x * 13787848793156543929 % 18446744073709551616) : Nat) : Int) * 10723151780598845931 = ((Pm.xs 27 (Pm.xs 30 x * 13787848793156543929 % 18446744073709551616) : Nat) : Int) * ((10723151780598845931 : Nat) : Int) from rfl, uwz, xs31 (Pm.mod_lt64 _)]
theorem mixI_any (x : Int) (w : World) :
  Calls prog 286 #[.int .u64 x] w fun e w' => e = .returned (.int .u64 (mixI x)) ∧ w = w' := by
 go_enter func286, ntmps286
 go_wp2
 go_ret
 exact ⟨rfl, rfl⟩
theorem gLz (x : Int) (w : World) :
  Calls prog 129 #[.int .u64 x] w fun e w' => e = .returned (.int .u64 (mixI x)) ∧ w = w' := by
 go_enter func129, ntmps129
 go_wp2
 go_ret
 exact ⟨rfl, rfl⟩
def rndI (key r v : Int) : Int := mixI (IntKind.u64.wrap (IntKind.u64.wrap (key + IntKind.u64.wrap (v * 11400714819323198485)) + IntKind.u64.wrap (r * 15111065706836454659))) / 1048576
theorem yWz (key r v : Nat) : rndI key r v = (Pm.rndN key r v : Nat) := by
 unfold rndI Pm.rndN
 rw [show (v : Int) * 11400714819323198485 = (v : Int) * ((11400714819323198485 : Nat) : Int) from rfl, uwz, cut64a, show (r : Int) * 15111065706836454659 = (r : Int) * ((15111065706836454659 : Nat) : Int) from rfl, uwz, cut64a, mixI_nat (Pm.mod_lt64 _)]
 rfl
theorem rndI_any (key r v : Int) (w : World) :
  Calls prog 281 #[.int .u64 key, .int .u64 r, .int .u64 v] w fun e w' => e = .returned (.int .u64 (rndI key r v)) ∧ w = w' := by
 go_enter func281, ntmps281
 go_wp2_with (go_at_call 286; refine (mixI_any _ _).mono ?_; rintro e w' ⟨rfl, rfl⟩)
 go_ret
 exact ⟨rfl, rfl⟩
theorem gKz (key r v : Nat) (w : World) :
  Calls prog 281 #[.int .u64 key, .int .u64 r, .int .u64 v] w fun e w' => e = .returned (.int .u64 (Pm.rndN key r v : Nat)) ∧ w = w' := by
 rw [← yWz]; exact rndI_any _ _ _ w
theorem gHz (key r v : Int) (w : World) :
  Calls prog 79 #[.int .u64 key, .int .u64 r, .int .u64 v] w fun e w' => e = .returned (.int .u64 (rndI key r v)) ∧ w = w' := by
 go_enter func79, ntmps79
 go_wp2_with (go_at_call 129; refine (gLz _ _).mono ?_; rintro e w' ⟨rfl, rfl⟩)
 go_ret
 exact ⟨rfl, rfl⟩
theorem yVz (key r v : Nat) (w : World) :
  Calls prog 79 #[.int .u64 key, .int .u64 r, .int .u64 v] w fun e w' => e = .returned (.int .u64 (Pm.rndN key r v : Nat)) ∧ w = w' := by
 rw [← yWz]; exact gHz _ _ _ w
theorem jMz (key r v : Nat) : Pm.rndN key r v < 18446744073709551616 := Nat.lt_of_le_of_lt (Nat.div_le_self _ _) (Pm.mixN_lt _)
theorem low_at {x k : Nat} (hx : x < 18446744073709551616) (hk : k < 64) : bits .and .u64 (x : Int) (IntKind.u64.wrap (IntKind.u64.wrap (2 ^ k) - 1)) = ((x % 2 ^ k : Nat) : Int) := by
 have h1 : 2 ^ k < 18446744073709551616 := Nat.pow_lt_pow_right (a := 2) (n := 64) (by omega) hk
 have h0 : 1 ≤ 2 ^ k := Nat.one_le_two_pow
 rw [show (2 : Int) ^ k = ((2 ^ k : Nat) : Int) by simp, cut64, Nat.mod_eq_of_lt h1, show ((2 ^ k : Nat) : Int) - 1 = ((2 ^ k - 1 : Nat) : Int) by omega, cut64, Nat.mod_eq_of_lt (by omega), u64_and_nat _ _ hx (by omega), Nat.and_two_pow_sub_one_eq_mod]
theorem jsz {y : Int} (x k : Nat) (e : y = x) (hx : x < 18446744073709551616) (hk : k < 64) (w : World) :
  Calls prog 263 #[.int .u64 y, .int .i64 k] w fun e w' => e = .returned (.int .u64 (x % 2 ^ k : Nat)) ∧ w = w' := by
 subst e
 go_enter func263, ntmps263
 go_wp2
 go_ret
 exact ⟨congrArg (fun v => Ending.returned (Value.int .u64 v)) (low_at hx hk), rfl⟩
theorem low31 (x : Nat) {y : Int} (e : y = x) (hx : x < 18446744073709551616) (w : World) :
  Calls prog 263 #[.int .u64 y, .int .i64 31] w fun e w' => e = .returned (.int .u64 (x % 2147483648 : Nat)) ∧ w = w' := jsz x 31 e hx (by omega) w
theorem low30 (x : Nat) {y : Int} (e : y = x) (hx : x < 18446744073709551616) (w : World) :
  Calls prog 263 #[.int .u64 y, .int .i64 30] w fun e w' => e = .returned (.int .u64 (x % 1073741824 : Nat)) ∧ w = w' := jsz x 30 e hx (by omega) w
theorem goz {a b : Nat} (h : Pm.Dom (a, b)) (w : World) :
  Calls prog 229 #[.agg #[.int .u64 a, .int .u64 b]] w fun e w' => e = .returned (.int .u64 (Pm.joinN (a, b) : Nat)) ∧ Below w.heap.size w w' := by
 have ha : a < 2147483648 := h.1
 have hb : b < 1073741824 := h.2
 go_enter func229, ntmps229
 go_wp2
 go_ret
 exact ⟨rfl, (brp1 _ w).alloc (lrp1 _) _⟩
theorem low31d {n : Nat} (hn : n < 18446744073709551616) (w : World) :
  Calls prog 263 #[.int .u64 ((n : Int) / 1073741824), .int .i64 31] w fun e w' => e = .returned (.int .u64 ((Pm.splitN n).1 : Nat)) ∧ w = w' := low31 (n / 1073741824) rfl (Pm.div_lt (k := 30) hn) w
theorem low30d {n : Nat} (hn : n < 18446744073709551616) (w : World) :
  Calls prog 263 #[.int .u64 (n : Int), .int .i64 30] w fun e w' => e = .returned (.int .u64 ((Pm.splitN n).2 : Nat)) ∧ w = w' := low30 n rfl hn w
theorem part_any {n : Nat} (hn : n < 18446744073709551616) (w : World) :
  Calls prog 228 #[.int .u64 n] w fun e w' => e = .returned (.agg #[.int .u64 ((Pm.splitN n).1 : Nat), .int .u64 ((Pm.splitN n).2 : Nat)]) ∧ Below w.heap.size w w' := by
 go_enter func228, ntmps228
 go_wp2_with (first | (go_at_call 263; with_reducible refine (low31d hn _).mono ?_; rintro e w' ⟨rfl, rfl⟩) | (go_at_call 263; with_reducible refine (low30d hn _).mono ?_; rintro e w' ⟨rfl, rfl⟩))
 refine bodyPost_ret (v := .agg #[.int .u64 ((Pm.splitN n).1 : Nat), .int .u64 ((Pm.splitN n).2 : Nat)]) (by simp [results, Tryz.f228, go_sem]) rfl ?_
 exact ⟨rfl, (brp1 _ w).alloc (lrp1 _) _⟩
def r31 (key r v : Nat) : Nat := Pm.rndN key r v % 2147483648
def r30 (key r v : Nat) : Nat := Pm.rndN key r v % 1073741824
theorem low31r (key r v : Nat) (w : World) :
  Calls prog 263 #[.int .u64 ((Pm.rndN key r v : Nat) : Int), .int .i64 31] w fun e w' => e = .returned (.int .u64 (r31 key r v : Nat)) ∧ w = w' := low31 _ rfl (jMz _ _ _) w
theorem low30r (key r v : Nat) (w : World) :
  Calls prog 263 #[.int .u64 ((Pm.rndN key r v : Nat) : Int), .int .i64 30] w fun e w' => e = .returned (.int .u64 (r30 key r v : Nat)) ∧ w = w' := low30 _ rfl (jMz _ _ _) w
theorem xor64 {a b : Nat} (ha : a < 18446744073709551616) (hb : b < 18446744073709551616) : bits .xor .u64 (a : Int) (b : Int) = ((a ^^^ b : Nat) : Int) := u64_xor_nat a b ha hb
variable {key r a b : Nat}
theorem yNz (h : r % 2 = 0) (ha : a < 2147483648) : bits .xor .u64 (a : Int) (r31 key r b : Nat) = ((Pm.trnN key r (a, b)).1 : Nat) := by
 unfold r31; rw [xor64 (by omega) (by omega)]; simp [Pm.trnN, h]
theorem vmz (h : r % 2 = 0) : b = (Pm.trnN key r (a, b)).2 := by simp [Pm.trnN, h]
theorem gpz (h : ¬ r % 2 = 0) (hb : b < 1073741824) : bits .xor .u64 (b : Int) (r30 key r a : Nat) = ((Pm.trnN key r (a, b)).2 : Nat) := by
 unfold r30; rw [xor64 (by omega) (by omega)]; simp [Pm.trnN, h]
theorem yMz (h : ¬ r % 2 = 0) : a = (Pm.trnN key r (a, b)).1 := by simp [Pm.trnN, h]
theorem turn_any (h : Pm.Dom (a, b)) (w : World) :
  Calls prog 262 #[.int .u64 key, .int .u64 r, .agg #[.int .u64 a, .int .u64 b]] w fun e w' => e = .returned (.agg #[.int .u64 ((Pm.trnN key r (a, b)).1 : Nat), .int .u64 ((Pm.trnN key r (a, b)).2 : Nat)]) ∧ Below w.heap.size w w' := by
 have ha : a < 2147483648 := h.1
 have hb : b < 1073741824 := h.2
 by_cases hq : r % 2 = 0
 ·have hq' : ((r : Int) % 2 == 0) = true := by rw [beq_iff_eq]; omega
  have e1 := yNz (key := key) (b := b) hq ha
  have e2 : Hid (b = (Pm.trnN key r (a, b)).2) := vmz (key := key) (a := a) (b := b) hq
  obtain ⟨z, hz⟩ : ∃ z, Pm.trnN key r (a, b) = z := ⟨_, rfl⟩
  rw [hz] at e1 e2 ⊢
  clear hz
  go_enter func262, ntmps262
  go_wp2
  go_region_with (first | (go_at_call 281; refine (gKz _ _ _ _).mono ?_; rintro e w' ⟨rfl, rfl⟩) | (go_at_call 263; with_reducible refine (low31r _ _ _ _).mono ?_; rintro e w' ⟨rfl, rfl⟩))
  all_goals (
   go_wp2
   refine bodyPost_ret (v := .agg #[.int .u64 (z.1 : Nat), .int .u64 (z.2 : Nat)]) (by rw [← e2.out]; simp [results, Tryz.f262, go_sem]) rfl ?_
   exact ⟨rfl, (((brp1 _ w).alloc (lrp1 _) _).alloc (by simp) _).drew⟩)
 ·have hq' : ((r : Int) % 2 == 0) = false := by rw [beq_eq_false_iff_ne]; omega
  have e1 := gpz (key := key) (a := a) hq hb
  have e2 : Hid (a = (Pm.trnN key r (a, b)).1) := yMz (key := key) (a := a) (b := b) hq
  obtain ⟨z, hz⟩ : ∃ z, Pm.trnN key r (a, b) = z := ⟨_, rfl⟩
  rw [hz] at e1 e2 ⊢
  clear hz
  go_enter func262, ntmps262
  go_wp2
  go_region_with (first | (go_at_call 281; refine (gKz _ _ _ _).mono ?_; rintro e w' ⟨rfl, rfl⟩) | (go_at_call 263; with_reducible refine (low30r _ _ _ _).mono ?_; rintro e w' ⟨rfl, rfl⟩))
  all_goals (
   go_wp2
   refine bodyPost_ret (v := .agg #[.int .u64 (z.1 : Nat), .int .u64 (z.2 : Nat)]) (by rw [← e2.out]; simp [results, Tryz.f262, go_sem]) rfl ?_
   exact ⟨rfl, (((brp1 _ w).alloc (lrp1 _) _).alloc (by simp) _).drew⟩)
end SrM
namespace SrM
open Go.RowKit Go.Shelf
attribute [local go_sem] Oper.semAt_some
def rsAt (back : Bool) (k : Nat) : Nat := if back then 7 - k else k
def rsK (back : Bool) (k : Nat) : List Nat := (List.range k).map (rsAt back)
theorem xoz (b : Bool) (k : Nat) : rsK b (k + 1) = rsK b k ++ [rsAt b k] := by simp [rsK, List.range_succ]
theorem rsK_8 (b : Bool) : rsK b 8 = Pm.rs b := by cases b <;> rfl
theorem gFz (b : Bool) {j k : Nat} (h : j ≤ k) : rsK b j <+: rsK b k := by
  induction k with
  | zero => have : j = 0 := by omega
            subst this; exact List.prefix_refl _
  | succ k ih =>
    by_cases hj : j = k + 1
    · subst hj; exact List.prefix_refl _
    · exact (ih (by omega)).trans (by rw [xoz]; exact List.prefix_append _ _)
theorem gGz (b : Bool) (k : Nat) : (rsK b k).length = k := by simp [rsK]
def Keeps (D : Nat → Prop) (W W' : World) : Prop := W.heap.size ≤ W'.heap.size ∧ ∀ b, D b → W'.heap[b]? = W.heap[b]?
theorem Keeps.refl (D : Nat → Prop) (W : World) : Keeps D W W := ⟨lrp1 _, fun _ _ => rfl⟩
variable {D : Nat → Prop}
theorem Keeps.trans {A B C : World} (h : Keeps D A B) (k : Keeps D B C) : Keeps D A C := ⟨Nat.le_trans h.1 k.1, fun b hb => (k.2 b hb).trans (h.2 b hb)⟩
theorem keepsK_b {w : World} (hD : ∀ b, D b → b < w.heap.size) (W : World) (l : Nat) (o o' : Obj) (hl : w.heap.size ≤ l) (h : W.heap[l]? = some o) (_ : o.isCells = false) (_ : o.isWalk = false) : Keeps D W (W.putObj l o') :=
 ⟨(grownBy_putObj' W l o').size, fun b hb => World.putObj_heap_other (fun e => by have := hD b hb; omega)⟩
theorem keepsK_t {A B C : World} (h : Keeps D A B) (k : Keeps D B C) : Keeps D A C := h.trans k
def Two (W : World) (B : Nat) (t : TypeId) (u v : Value) : Prop := W.heap[B]? = some (.cells #[u, v] t (0, 0))
variable {t : TypeId} {u v : Value} {W : World} {B : Nat}
theorem Two.lt (h : Two W B t u v) : B < W.heap.size := (Array.getElem?_eq_some_iff.1 h).1
theorem Two.cell0 (h : Two W B t u v) : W.cell? ⟨B, 0, none⟩ = some u := by simp [World.cell?, show W.heap[B]? = _ from h]
theorem Two.cell1 (h : Two W B t u v) : W.cell? ⟨B, 1, none⟩ = some v := by simp [World.cell?, show W.heap[B]? = _ from h]
theorem Two.new (W : World) (t : TypeId) (u v : Value) : Two (W.alloc (.cells #[u, v] t)) W.heap.size t u v := World.alloc_heap_new W _
theorem Two.kept {W W' : World} {row : Option Nat} (h : Two W B t u v) (hg : W.grownBy W' row) (hne : some B ≠ row) : Two W' B t u v := (hg.block B h.lt hne).trans h
theorem Two.alloc (h : Two W B t u v) (o : Obj) : Two (W.alloc o) B t u v := h.kept (World.grownBy_alloc W o none) (by simp)
theorem two_own {β : Type} (B : Nat) (t : TypeId) (f g : β → Value) : Own (fun s W => Two W B t (f s) (g s)) := fun s X Y row hs hg hrow =>
 hs.kept hg (fun e' => by obtain ⟨o, ho, hc⟩ := hrow B e'.symm; rw [show X.heap[B]? = _ from hs] at ho; cases ho; cases hc)
theorem Two.frozen0 (h : Two W B t u v) (i : Nat) : W.frozen? ⟨B, i, none⟩ = false := by simp [World.frozen?, show W.heap[B]? = _ from h]
theorem Two.next {W W' : World} (h : Two W B t u v) (k : Below W.heap.size W W') : Two W' B t u v := (k.block B h.lt).trans h
theorem Boxed.next {W W' : World} {v : Value} (h : Boxed W B t v) (k : Below W.heap.size W W') : Boxed W' B t v := (k.block B h.lt).trans h
theorem Two.set0 (h : Two W B t u v) (x : Value) : Two (W.setCell ⟨B, 0, none⟩ x) B t x v := (heap_setCell_same W B 0 _ t x h).trans (by simp)
theorem Two.set1 (h : Two W B t u v) (x : Value) : Two (W.setCell ⟨B, 1, none⟩ x) B t u x := (heap_setCell_same W B 1 _ t x h).trans (by simp)
theorem whz {b g i : Nat} {u v x : Value} (h : Two W b t u v) (hne : b ≠ g) : Two (W.setCell ⟨g, i, none⟩ x) b t u v := (Below.heap_setCell _ _ _ _ hne).trans h
theorem k7z {b g i : Nat} {u x : Value} (h : Boxed W b t u) (hne : b ≠ g) : Boxed (W.setCell ⟨g, i, none⟩ x) b t u := (Below.heap_setCell _ _ _ _ hne).trans h
theorem below_grown {w w' : World} (h : Below w.heap.size w w') : w.grownBy w' none := ⟨h.os, h.tape, h.output, h.size, fun k hk _ => h.block k hk⟩
def Hv (W : World) (B : Nat) (p : Nat × Nat) : Prop := Two W B 234 (.int .u64 (p.1 : Nat)) (.int .u64 (p.2 : Nat))
def encR (r : Nat) : Array Value := #[.int .u64 r]
theorem uPz (N : Nat) (hn : 1 ≤ N) (l B : Nat) (back : Bool) (J Jx : List Nat → World → Prop)
  (hY : ∀ pre x W, J pre W → pre.length < 8 → YieldAt Fence.wide (N - 1) prog l (encR x) W fun e W' =>
   (e = .returned (.bool true) ∧ J (pre ++ [x]) W' ∧ Keeps (fun b => b = B) W W') ∨ (e = .returned (.bool false) ∧ Jx (pre ++ [x]) W'))
  (W : World) (hB : W.cell? ⟨B, 0, none⟩ = some (.bool back)) (h0 : J [] W) :
  CallsIn Fence.wide N prog 280 #[.func (.yield l) #[] #[], .pointer (some ⟨B, 0, none⟩)] W fun e W' => (∃ v, e = .returned v) ∧
   ((∃ ys, ys = Pm.rs back ∧ J ys W') ∨ (∃ pre, pre <+: Pm.rs back ∧ Jx pre W')) := by
 refine callsIn_of_wp func280 rfl trivial ?_ rfl
 simp only [ntmps280, List.size_toArray, List.length_cons, List.length_nil, Nat.reduceAdd, Nat.reduceSub, Array.replicate_succ, Array.replicate_zero, List.push_toArray, List.append_toArray, List.nil_append, List.cons_append]
 gi_wp2
 gi_loopw [5] (fun i wr => ∃ k : Nat, k ≤ 8 ∧ i = .int .u64 k ∧ wr.cell? ⟨B, 0, none⟩ = some (.bool back) ∧ J (rsK back k) wr) (fun i _ => 8 - (intOf i).toNat)
 case atStart => exact ⟨0, by omega, rfl, hB, h0⟩
 case round =>
  obtain ⟨k, hk, rfl, hc, hJk⟩ := hrel
  by_cases hk8 : k < 8
  ·have hk8' : (k : Int) < 8 := by omega
   cases back with
   | false =>
    gi_wp2
    obtain ⟨fn, tmps, assign, body, hyy, hR⟩ := hY (rsK false k) k wr hJk (by rw [gGz]; exact hk8)
    dsimp only [encR] at hyy
    rw [hyy]
    gi_wp2
    refine hR.mono ?_
    rintro e W3 (⟨rfl, hJ3, hk3⟩ | ⟨rfl, hJx3⟩)
    ·gi_wp2
     go_roundw
     case rel => exact ⟨k + 1, by omega, by go_num, (World.cell?_of_block (a := ⟨B, 0, none⟩) (hk3.2 B rfl)).trans hc, by rw [xoz]; exact hJ3⟩
     case measure => simp [intOf]; omega
    ·gi_wp2
     refine bodyPost_ret (results_none rfl _ _ _) rfl ?_
     exact ⟨⟨_, rfl⟩, .inr ⟨_, by have h1 := gFz false (j := k + 1) (k := 8) (by omega); rw [xoz, rsK_8] at h1; exact h1, hJx3⟩⟩
   | true =>
    have h7 : IntKind.u64.wrap (7 - (k : Int)) = ((7 - k : Nat) : Int) := by rw [IntKind.wrap_u64]; omega
    gi_wp2
    obtain ⟨fn, tmps, assign, body, hyy, hR⟩ := hY (rsK true k) (7 - k) wr hJk (by rw [gGz]; exact hk8)
    dsimp only [encR] at hyy
    rw [hyy]
    gi_wp2
    refine hR.mono ?_
    rintro e W3 (⟨rfl, hJ3, hk3⟩ | ⟨rfl, hJx3⟩)
    ·gi_wp2
     go_roundw
     case rel => exact ⟨k + 1, by omega, by go_num, (World.cell?_of_block (a := ⟨B, 0, none⟩) (hk3.2 B rfl)).trans hc, by rw [xoz]; exact hJ3⟩
     case measure => simp [intOf]; omega
    ·gi_wp2
     refine bodyPost_ret (results_none rfl _ _ _) rfl ?_
     exact ⟨⟨_, rfl⟩, .inr ⟨_, by have h1 := gFz true (j := k + 1) (k := 8) (by omega); rw [xoz, rsK_8] at h1; exact h1, hJx3⟩⟩
  ·obtain rfl : k = 8 := by omega
   gi_wp2
   go_end0
   exact ⟨⟨_, rfl⟩, .inl ⟨_, rfl, by rw [← rsK_8]; exact hJk⟩⟩
theorem uOz (back : Bool) (w : World) :
  Calls prog 261 #[.bool back] w fun e w' => e = .returned (.func (.func 280) #[] #[.pointer (some ⟨w.heap.size, 0, none⟩)]) ∧
   w' = w.alloc (.cells #[.bool back] 4) := by
 go_enter func261, ntmps261
 go_wp2
 go_ret
 exact ⟨rfl, rfl⟩
theorem vwz (N : Nat) (hn : 1 ≤ N) (B : Nat) (back : Bool) (w : World) (hBw : B < w.heap.size) (hB : w.cell? ⟨B, 0, none⟩ = some (.bool back)) :
  SeqStopsK Fence.wide N prog 280 #[.pointer (some ⟨B, 0, none⟩)] encR (Keeps (fun b => b = B)) (fun ys => ys = Pm.rs back) (fun pre => pre <+: Pm.rs back) 8 w := fun l J Jx W hW hJ _ hY h0 =>
 uPz N hn l B back J Jx hY W ((hW.cell (p := ⟨B, 0, none⟩) hBw).trans hB) h0
theorem v9z {key a b : Nat} (back : Bool) (h : Pm.Dom (a, b)) (w : World) :
  Calls prog 227 #[.int .u64 key, .agg #[.int .u64 a, .int .u64 b], .bool back] w fun e w' => e = .returned (.agg #[.int .u64 ((Pm.goes key (Pm.rs back) (a, b)).1 : Nat), .int .u64 ((Pm.goes key (Pm.rs back) (a, b)).2 : Nat)]) ∧ Below w.heap.size w w' := by
 refine (callsIn_wide (n := 5)).1 ?_
 refine callsIn_of_wp_marks func227 rfl trivial ?_ rfl
 simp only [ntmps227, List.size_toArray, List.length_cons, List.length_nil, Nat.reduceAdd, Nat.reduceSub, Array.replicate_succ, Array.replicate_zero, List.push_toArray, List.append_toArray, List.nil_append, List.cons_append]
 gi_wp2_with (refine ⟨trivial, ?_⟩; gi_at_call 261; refine (callsIn_wide.2 (uOz _ _)).mono ?_; rintro e w' ⟨rfl, rfl⟩)
 have bK := ((((Boxed.new w 22 (.int .u64 key)).alloc (.cells #[.int .u64 a, .int .u64 b] 234)).alloc (.cells #[.int .u64 0, .int .u64 0] 234)).alloc (.cells #[.bool back] 4))
 have bH := (((Two.new (w.alloc (.cells #[.int .u64 key] 22)) 234 (.int .u64 a) (.int .u64 b)).alloc (.cells #[.int .u64 0, .int .u64 0] 234)).alloc (.cells #[.bool back] 4))
 have bR := ((Two.new ((w.alloc (.cells #[.int .u64 key] 22)).alloc (.cells #[.int .u64 a, .int .u64 b] 234)) 234 (.int .u64 0) (.int .u64 0)).alloc (.cells #[.bool back] 4))
 have bB := Boxed.new (((w.alloc (.cells #[.int .u64 key] 22)).alloc (.cells #[.int .u64 a, .int .u64 b] 234)).alloc (.cells #[.int .u64 0, .int .u64 0] 234)) 4 (.bool back)
 simp only [World.size_alloc] at bH bR bB
 have hB0 : Below w.heap.size w ((((w.alloc (.cells #[.int .u64 key] 22)).alloc (.cells #[.int .u64 a, .int .u64 b] 234)).alloc (.cells #[.int .u64 0, .int .u64 0] 234)).alloc (.cells #[.bool back] 4)) := ((((brp1 _ w).alloc (lrp1 _) _).alloc (by simp) _).alloc (by simp; omega) _).alloc (by simp; omega) _
 have hsz : ((((w.alloc (.cells #[.int .u64 key] 22)).alloc (.cells #[.int .u64 a, .int .u64 b] 234)).alloc (.cells #[.int .u64 0, .int .u64 0] 234)).alloc (.cells #[.bool back] 4)).heap.size = w.heap.size + 4 := by simp
 obtain ⟨W0, hW0⟩ : ∃ W0, (((w.alloc (.cells #[.int .u64 key] 22)).alloc (.cells #[.int .u64 a, .int .u64 b] 234)).alloc (.cells #[.int .u64 0, .int .u64 0] 234)).alloc (.cells #[.bool back] 4) = W0 := ⟨_, rfl⟩
 rw [hW0] at bK bH bR bB hB0 hsz ⊢
 clear hW0
 have bH0 : Hv W0 (w.heap.size + 1) (Pm.goes key [] (a, b)) := bH
 clear bH
 refine wpIn_rangeFunc_ownH rfl (by omega) (gf := 280) (lb := #[.pointer (some ⟨w.heap.size + 1 + 1 + 1, 0, none⟩)]) rfl trivial (enters_of func280 (by kernel_rfl) rfl)
  (vwz _ (by omega) (w.heap.size + 1 + 1 + 1) back W0 (by omega) bB.cell) keepsK_t (keepsK_b (fun b hb => by omega)) (brp1 _ _) (fun _ => rfl)
  (fun pre W => ((Hv W (w.heap.size + 1) (Pm.goes key pre (a, b)) ∧ Boxed W w.heap.size 22 (.int .u64 key)) ∧ Two W (w.heap.size + 1 + 1) 234 (.int .u64 0) (.int .u64 0)) ∧ (Below w.heap.size w W ∧ w.heap.size + 4 ≤ W.heap.size))
  (fun c pre W => False)
  ?own1 ?own2
  ⟨⟨⟨bH0, bK⟩, bR⟩, hB0, by omega⟩
  (fun x a' W => a' = { tmps := #[.int .u64 key, .agg #[.int .u64 a, .int .u64 b], .bool back, .pointer (some ⟨w.heap.size, 0, none⟩), .pointer (some ⟨w.heap.size + 1, 0, none⟩), undef, .pointer (some ⟨w.heap.size + 1 + 1, 0, none⟩), .int .u64 (x : Nat), .bool back, .func (.func 280) #[] #[.pointer (some ⟨w.heap.size + 1 + 1 + 1, 0, none⟩)], .int .u64 (x : Nat), undef, undef, undef, undef, undef], defers := [] })
  (fun x a' _ X Y row hs hg hr => hs)
  ?assign ?body ?done ?stop
 case own1 =>
  refine OwnFrom.and (OwnFrom.and (OwnFrom.and (Own.from (two_own _ _ (fun pre => .int .u64 ((Pm.goes key pre (a, b)).1 : Nat)) (fun pre => .int .u64 ((Pm.goes key pre (a, b)).2 : Nat))) _) (Own.from (boxed_own _ _ _) _)) (Own.from (two_own _ _ (fun _ => .int .u64 0) (fun _ => .int .u64 0)) _)) (OwnFrom.and (ownFrom_below (lrp1 _) (by omega)) ?_)
  exact fun s X Y row hs hg hr => Nat.le_trans hs hg.size
 case own2 => exact fun c s X Y row hs hg hr => hs
 case assign =>
  rintro l pre x W K hI hK
  dsimp only [encR]
  gi_wp2
  exact hK _ _ (KeepsFrom.refl _ _) (Keeps.refl _ _) hI rfl
 case body =>
  rintro l pre x a' W hl ⟨r, hr⟩ ⟨⟨⟨bH1, bK1⟩, bR1⟩, hB1, hs1⟩ rfl hlt
  have hd : Pm.Dom (Pm.goes key pre (a, b)) := Pm.goes_dom h
  have hP : Hid (Pm.goes key (pre ++ [x]) (a, b) = Pm.trnN key x (Pm.goes key pre (a, b))) := Pm.goes_snoc key pre x (a, b)
  obtain ⟨p, hp⟩ : ∃ p, Pm.goes key pre (a, b) = p := ⟨_, rfl⟩
  rw [hp] at bH1 hd hP
  clear hp
  obtain ⟨u, v⟩ := p
  have c0 := bH1.cell0
  have c1 := bH1.cell1
  have cK := bK1.cell
  dsimp only at c0 c1
  gi_wp2_with (refine ⟨trivial, ?_⟩; gi_at_call 262; refine (CallsIn.inRound l (callsIn_wide.2 (turn_any hd _))).mono ?_; rintro e w1 ⟨rfl, hb1⟩; have f0 := (Two.next bH1 hb1).frozen0 0; have f1 := (Two.next bH1 hb1).frozen0 1; have g0 := (Two.next bH1 hb1).cell0; have g1 := (Two.next bH1 hb1).cell1)
  have q1 : Hv ((w1.setCell ⟨w.heap.size + 1, 0, none⟩ (.int .u64 ((Pm.trnN key x (u, v)).1 : Nat))).setCell ⟨w.heap.size + 1, 1, none⟩ (.int .u64 ((Pm.trnN key x (u, v)).2 : Nat))) (w.heap.size + 1) (Pm.goes key (pre ++ [x]) (a, b)) := by
   rw [hP.out]; exact ((Two.next bH1 hb1).set0 _).set1 _
  have q2 := k7z (i := 1) (x := .int .u64 ((Pm.trnN key x (u, v)).2 : Nat)) (k7z (i := 0) (x := .int .u64 ((Pm.trnN key x (u, v)).1 : Nat)) (Boxed.next bK1 hb1) (g := w.heap.size + 1) (by omega)) (g := w.heap.size + 1) (by omega)
  have q3 := whz (i := 1) (x := .int .u64 ((Pm.trnN key x (u, v)).2 : Nat)) (whz (i := 0) (x := .int .u64 ((Pm.trnN key x (u, v)).1 : Nat)) (Two.next bR1 hb1) (g := w.heap.size + 1) (by omega)) (g := w.heap.size + 1) (by omega)
  have q4 := (((btp1 hB1 hb1).setCell (p := ⟨w.heap.size + 1, 0, none⟩) (by show w.heap.size ≤ w.heap.size + 1; omega) (.int .u64 ((Pm.trnN key x (u, v)).1 : Nat))).setCell (p := ⟨w.heap.size + 1, 1, none⟩) (by show w.heap.size ≤ w.heap.size + 1; omega) (.int .u64 ((Pm.trnN key x (u, v)).2 : Nat)))
  refine ⟨(((KeepsOthers.of_grownBy (below_grown hb1) (fun j o e => by cases e)).trans (KeepsOthers.setCell _ _ _)).trans (KeepsOthers.setCell _ _ _)).from _, ⟨?_, fun y e => ?_⟩, ⟨⟨q1, q2⟩, q3⟩, q4, ?_⟩
  ·simpa using hb1.size
  ·subst e
   rw [Below.heap_setCell _ _ _ _ (by show w.heap.size + 1 + 1 + 1 ≠ w.heap.size + 1; omega), Below.heap_setCell _ _ _ _ (by show w.heap.size + 1 + 1 + 1 ≠ w.heap.size + 1; omega)]
   exact hb1.block _ (by omega)
  ·have := hb1.size
   simp; omega
 case done =>
  rintro D ys W hD rfl ⟨⟨⟨bH1, bK1⟩, bR1⟩, hB1, hs1⟩ hK
  obtain ⟨p, hp⟩ : ∃ p, Hid (Pm.goes key (Pm.rs back) (a, b) = p) := ⟨_, rfl⟩
  rw [hp.out] at bH1
  obtain ⟨u, v⟩ := p
  have c0 := bH1.cell0
  have c1 := bH1.cell1
  have r0 := bR1.cell0
  have r1 := bR1.cell1
  have f0 := bR1.frozen0 0
  have f1 := bR1.frozen0 1
  dsimp only at c0 c1
  gi_wp2
  have hK' : ((W.setCell ⟨w.heap.size + 1 + 1, 0, none⟩ (.int .u64 u)).setCell ⟨w.heap.size + 1 + 1, 1, none⟩ (.int .u64 v)).heap[D]? = some (Obj.deferred (some [])) := by
   rw [Below.heap_setCell _ _ _ _ (by show D ≠ w.heap.size + 1 + 1; omega), Below.heap_setCell _ _ _ _ (by show D ≠ w.heap.size + 1 + 1; omega)]; exact hK
  have t := (bR1.set0 (.int .u64 u)).set1 (.int .u64 v)
  refine ⟨by simp, .inl ⟨_, _, rfl, run_takeDeferred hK', ?_⟩⟩
  have hc0 := cell_kept t.cell0 (grownBy_putObj' _ D (.deferred none)) (fun r e => by cases e; exact ⟨_, hK', rfl⟩)
  have hc1 := cell_kept t.cell1 (grownBy_putObj' _ D (.deferred none)) (fun r e => by cases e; exact ⟨_, hK', rfl⟩)
  refine ⟨.agg #[.int .u64 u, .int .u64 v], ?_, by rw [hp.out], ((hB1.setCell (p := ⟨w.heap.size + 1 + 1, 0, none⟩) (by show w.heap.size ≤ w.heap.size + 1 + 1; omega) _).setCell (p := ⟨w.heap.size + 1 + 1, 1, none⟩) (by show w.heap.size ≤ w.heap.size + 1 + 1; omega) _).trans (belowK_b (w := w) (lrp1 _) _ D _ _ (by omega) hK' rfl rfl)⟩
  simp [results, Tryz.f227, go_sem, hc0, hc1]
 case stop =>
  rintro D c pre W hD hpre hf hK
  exact hf.elim
theorem name_any {key n : Nat} (hn : n < 18446744073709551616) (w : World) :
  Calls prog 181 #[.int .u64 key, .int .u64 n] w fun e w' => e = .returned (.int .u64 (Pm.nameN key n : Nat)) ∧ Below w.heap.size w w' := by
 have hd := Pm.goes_dom (key := key) (rs := Pm.rs false) (Pm.split_dom n)
 have hj : Hid (Pm.nameN key n = Pm.joinN (Pm.goes key (Pm.rs false) (Pm.splitN n)) + 1) := rfl
 have hl := Pm.join_lt hd
 have hd0 := Pm.split_dom n
 obtain ⟨p, hp⟩ : ∃ p, Hid (Pm.splitN n = p) := ⟨_, rfl⟩
 have hpa := part_any hn w
 rw [hp.out] at hd hj hl hd0 hpa
 obtain ⟨u, v⟩ := p
 have ht := fun w => v9z (key := key) false hd0 w
 obtain ⟨q, hq⟩ : ∃ q, Hid (Pm.goes key (Pm.rs false) (u, v) = q) := ⟨_, rfl⟩
 rw [hq.out] at hd hj hl
 simp only [hq.out] at ht
 obtain ⟨y, z⟩ := q
 have hw := fun w => goz hd w
 have hB := brp1 w.heap.size w
 obtain ⟨j, hjj⟩ : ∃ j, Hid (Pm.joinN (y, z) = j) := ⟨_, rfl⟩
 simp only [hjj.out] at hw
 rw [hjj.out] at hj hl
 go_enter func181, ntmps181
 go_wp2_with (first | (go_at_call 228; refine hpa.mono ?_; rintro e w1 ⟨rfl, hb⟩; replace hB := btp1 hB hb; clear hb) | (go_at_call 227; refine (ht _).mono ?_; rintro e w1 ⟨rfl, hb⟩; replace hB := btp1 hB hb; clear hb) | (go_at_call 229; refine (hw _).mono ?_; rintro e w1 ⟨rfl, hb⟩; replace hB := btp1 hB hb; clear hb))
 go_ret
 exact ⟨by rw [hj.out]; rfl, hB⟩
end SrM
end Go.Proofs.YtloghnpfplljgaaGreat
