/-
 PROVED HERE: what package inst's functions without a loop, and their like of the document's answer, return when they are ca. What is asked stands at each.
-/
import Derived.WalkKit
import Derived.ProofKit
import Derived.OpenShut
import Derived.Below
import Derived.Laws.BitsAllLaws
import Derived.Deep.RegionWith
import Derived.RangeFuncNested
import Derived.RangeFuncBound
import Derived.RangeFuncCalls
import Derived.RangeFuncLeaves
import Derived.Shelf.Abstract
import Derived.Shelf.RegionOpen
import Derived.OwnWalkIn
import Derived.TacticsInMore
import Derived.LoopNIn
import Derived.LoopIn
import Derived.RegionIn
import Derived.WalkSmall
import Derived.Lib.OthersKept
import Derived.Test.YtdeddhojjolihaaGreatZ39
import Derived.Test.YtdeddhojjolihaaGreatZ45
namespace Go.Proofs.YtdeddhojjolihaaGreat
set_option maxRecDepth 100000
set_option maxHeartbeats 8000000
set_option linter.unusedVariables false
open Go.Proofs.Tryz
namespace InM
open Go.ChangeShapes Go.WideShapes Go.ChangeAt Go.RowKit
theorem jQz (op : Int) (w : World) :
  Calls prog 130 #[.int .i64 op] w fun e w' => e = .returned (.string (Ins.shS op)) ∧ w = w' := by
 by_cases h : 0 ≤ op ∧ op ≤ 25
 ·have h1 := h.1
  have h2 := h.2
  have : op = 0 ∨ op = 1 ∨ op = 2 ∨ op = 3 ∨ op = 4 ∨ op = 5 ∨ op = 6 ∨ op = 7 ∨ op = 8 ∨ op = 9 ∨ op = 10 ∨ op = 11 ∨ op = 12 ∨ op = 13 ∨ op = 14 ∨ op = 15 ∨ op = 16 ∨ op = 17 ∨ op = 18 ∨ op = 19 ∨ op = 20 ∨ op = 21 ∨ op = 22 ∨ op = 23 ∨ op = 24 ∨ op = 25 := by omega
  clear h h1 h2
  rcases this with rfl | rfl | rfl | rfl | rfl | rfl | rfl | rfl | rfl | rfl | rfl | rfl | rfl | rfl | rfl | rfl | rfl | rfl | rfl | rfl | rfl | rfl | rfl | rfl | rfl | rfl
  all_goals
   go_enter func130, ntmps130
   go_wp2
   go_ret
   exact ⟨rfl, rfl⟩
 ·have hs : Ins.shS op = ⟨#[]⟩ := by unfold Ins.shS Ins.shp; rw [if_neg (by omega), if_neg (by omega), if_neg (by omega), if_neg (by omega), if_neg (by omega), if_neg (by omega)]
  rw [hs]
  have n1 : ¬ op = 1 := by omega
  have n2 : ¬ op = 2 := by omega
  have n3 : ¬ op = 3 := by omega
  have n4 : ¬ op = 4 := by omega
  have n5 : ¬ op = 5 := by omega
  have n6 : ¬ op = 6 := by omega
  have n7 : ¬ op = 7 := by omega
  have n8 : ¬ op = 8 := by omega
  have n9 : ¬ op = 9 := by omega
  have n10 : ¬ op = 10 := by omega
  have n11 : ¬ op = 11 := by omega
  have n12 : ¬ op = 12 := by omega
  have n13 : ¬ op = 13 := by omega
  have n14 : ¬ op = 14 := by omega
  have n15 : ¬ op = 15 := by omega
  have n16 : ¬ op = 16 := by omega
  have n17 : ¬ op = 17 := by omega
  have n18 : ¬ op = 18 := by omega
  have n19 : ¬ op = 19 := by omega
  have n20 : ¬ op = 20 := by omega
  have n21 : ¬ op = 21 := by omega
  have n22 : ¬ op = 22 := by omega
  have n23 : ¬ op = 23 := by omega
  have n24 : ¬ op = 24 := by omega
  have n25 : ¬ op = 25 := by omega
  clear h hs
  go_enter func130, ntmps130
  go_wp2
  go_ret
  exact ⟨rfl, rfl⟩
end InM
namespace InM
open Go.ChangeShapes Go.WideShapes Go.ChangeAt Go.RowKit
theorem j5z (op : Int) (w : World) :
  Calls prog 129 #[.int .i64 op] w fun e w' => e = .returned (.bool (Ins.opB op)) ∧ w = w' := by
 go_enter func129, ntmps129
 go_wp2
 all_goals
  go_ret
  refine ⟨?_, rfl⟩
  simp only [Ins.opB]
  simp
  omega
def canB (l v : Int) : Bool := (l == 105) || (decide (0 ≤ v) && decide (v < 16))
theorem jEz (l v : Int) (w : World) :
  Calls prog 132 #[.int .i32 l, .int .i64 v] w fun e w' => e = .returned (.bool (canB l v)) ∧ w = w' := by
 go_enter func132, ntmps132
 go_wp2
 all_goals
  go_ret
  refine ⟨?_, rfl⟩
  simp only [canB]
  simp [*]
  try omega
def plc (l : Int) : Int := if l = 97 then 8 else if l = 98 then 12 else if l = 99 then 16 else 32
theorem place_any (l : Int) (w : World) :
  Calls prog 108 #[.int .i32 l] w fun e w' => e = .returned (.int .i64 (plc l)) ∧ w = w' := by
 by_cases h1 : l = 97
 ·subst h1
  go_enter func108, ntmps108
  go_wp2
  go_ret
  exact ⟨rfl, rfl⟩
 by_cases h2 : l = 98
 ·subst h2
  go_enter func108, ntmps108
  go_wp2
  go_ret
  exact ⟨rfl, rfl⟩
 by_cases h3 : l = 99
 ·subst h3
  go_enter func108, ntmps108
  go_wp2
  go_ret
  exact ⟨rfl, rfl⟩
 ·have e : plc l = 32 := by unfold plc; rw [if_neg h1, if_neg h2, if_neg h3]
  rw [e]
  go_enter func108, ntmps108
  go_wp2
  go_ret
  exact ⟨rfl, rfl⟩
def prt (a b c i l : Int) : Int := if l = 97 then a else if l = 98 then b else if l = 99 then c else i
theorem part_any (op a b c i l : Int) (hi0 : -2147483648 ≤ i) (hi1 : i < 2147483648) (w : World) :
  Calls prog 145 #[.agg #[.int .i64 op, .int .i64 a, .int .i64 b, .int .i64 c, .int .i32 i], .int .i32 l] w fun e w' => e = .returned (.int .i64 (prt a b c i l)) ∧ Below w.heap.size w w' := by
 by_cases h1 : l = 97
 ·subst h1
  go_enter func145, ntmps145
  go_wp2
  go_ret
  exact ⟨rfl, (Below.refl _ w).alloc (Nat.le_refl _) _⟩
 by_cases h2 : l = 98
 ·subst h2
  go_enter func145, ntmps145
  go_wp2
  go_ret
  exact ⟨rfl, (Below.refl _ w).alloc (Nat.le_refl _) _⟩
 by_cases h3 : l = 99
 ·subst h3
  go_enter func145, ntmps145
  go_wp2
  go_ret
  exact ⟨rfl, (Below.refl _ w).alloc (Nat.le_refl _) _⟩
 ·have e : prt a b c i l = i := by unfold prt; rw [if_neg h1, if_neg h2, if_neg h3]
  rw [e]
  go_enter func145, ntmps145
  go_wp2
  go_ret
  exact ⟨rfl, (Below.refl _ w).alloc (Nat.le_refl _) _⟩
theorem jnz (x : Int) (w : World) (h0 : 0 ≤ x) (h1 : x < 18446744073709551616) :
  Calls prog 107 #[.int .u64 x, .int .i32 97] w fun e w' => e = .returned (.int .i64 (Ins.fA x)) ∧ w = w' := by
 go_enter func107, ntmps107
 go_wp2_with (go_at_call 108; refine (place_any _ _).mono ?_; rintro e w' ⟨rfl, rfl⟩; rw [show plc 97 = 8 from rfl])
 go_ret
 exact ⟨rfl, rfl⟩
theorem jmz (x : Int) (w : World) (h0 : 0 ≤ x) (h1 : x < 18446744073709551616) :
  Calls prog 107 #[.int .u64 x, .int .i32 98] w fun e w' => e = .returned (.int .i64 (Ins.fB x)) ∧ w = w' := by
 go_enter func107, ntmps107
 go_wp2_with (go_at_call 108; refine (place_any _ _).mono ?_; rintro e w' ⟨rfl, rfl⟩; rw [show plc 98 = 12 from rfl])
 go_ret
 exact ⟨rfl, rfl⟩
theorem jlz (x : Int) (w : World) (h0 : 0 ≤ x) (h1 : x < 18446744073709551616) :
  Calls prog 107 #[.int .u64 x, .int .i32 99] w fun e w' => e = .returned (.int .i64 (Ins.fC x)) ∧ w = w' := by
 go_enter func107, ntmps107
 go_wp2_with (go_at_call 108; refine (place_any _ _).mono ?_; rintro e w' ⟨rfl, rfl⟩; rw [show plc 99 = 16 from rfl])
 go_ret
 exact ⟨rfl, rfl⟩
end InM
namespace InM
open Go.RowKit Go.Shelf
attribute [local go_sem] Oper.semAt_some
def Keeps (D : Nat → Prop) (W W' : World) : Prop := KeepsWalks W W' ∧ ∀ b, D b → W'.heap[b]? = W.heap[b]?
theorem Keeps.refl (D : Nat → Prop) (W : World) : Keeps D W W := ⟨KeepsWalks.refl _, fun _ _ => rfl⟩
variable {D : Nat → Prop}
theorem Keeps.trans {A B C : World} (h : Keeps D A B) (k : Keeps D B C) : Keeps D A C := ⟨h.1.trans k.1, fun b hb => (k.2 b hb).trans (h.2 b hb)⟩
theorem keepsK_b {w : World} (hD : ∀ b, D b → b < w.heap.size) (W : World) (l : Nat) (o o' : Obj) (hl : w.heap.size ≤ l) (h : W.heap[l]? = some o) (_ : o.isCells = false) (hw : o.isWalk = false) : Keeps D W (W.putObj l o') :=
 ⟨KeepsWalks.putObj o' h hw, fun b hb => World.putObj_heap_other (fun e => by have := hD b hb; omega)⟩
theorem keepsK_t {A B C : World} (h : Keeps D A B) (k : Keeps D B C) : Keeps D A C := h.trans k
theorem below_grown {w w' : World} (h : Below w.heap.size w w') : w.grownBy w' none := ⟨h.os, h.tape, h.output, h.size, fun k hk _ => h.block k hk⟩
def Ib (W : World) (B : Nat) (op a b c i : Int) : Prop := W.heap[B]? = some (.cells #[.int .i64 op, .int .i64 a, .int .i64 b, .int .i64 c, .int .i32 i] 68 (0, 0))
variable {op a b c i : Int} {B : Nat} {W : World}
theorem Ib.lt (h : Ib W B op a b c i) : B < W.heap.size := (Array.getElem?_eq_some_iff.1 h).1
theorem Ib.cells (h : Ib W B op a b c i) : W.cell? ⟨B, 0, none⟩ = some (.int .i64 op) ∧ W.cell? ⟨B, 1, none⟩ = some (.int .i64 a) ∧ W.cell? ⟨B, 2, none⟩ = some (.int .i64 b) ∧ W.cell? ⟨B, 3, none⟩ = some (.int .i64 c) ∧ W.cell? ⟨B, 4, none⟩ = some (.int .i32 i) := by
 simp [World.cell?, show W.heap[B]? = _ from h]
theorem Ib.frozen (h : Ib W B op a b c i) (j : Nat) : W.frozen? ⟨B, j, none⟩ = false := by simp [World.frozen?, show W.heap[B]? = _ from h]
theorem Ib.new (W : World) (op a b c i : Int) : Ib (W.alloc (.cells #[.int .i64 op, .int .i64 a, .int .i64 b, .int .i64 c, .int .i32 i] 68)) W.heap.size op a b c i := World.alloc_heap_new W _
theorem Ib.next {W W' : World} (h : Ib W B op a b c i) (k : Below W.heap.size W W') : Ib W' B op a b c i := (k.block B h.lt).trans h
theorem Ib.alloc (h : Ib W B op a b c i) (o : Obj) : Ib (W.alloc o) B op a b c i := h.next ((Below.refl _ W).alloc (Nat.le_refl _) o)
theorem Boxed.next {W W' : World} {t : TypeId} {v : Value} (h : Boxed W B t v) (k : Below W.heap.size W W') : Boxed W' B t v := (k.block B h.lt).trans h
theorem uwz {j n : Nat} (h : j ≤ n) : List.range j <+: List.range n := by
  induction n with
  | zero => have : j = 0 := by omega
            subst this; exact List.prefix_refl _
  | succ n ih =>
    by_cases hj : j = n + 1
    · subst hj; exact List.prefix_refl _
    · exact (ih (by omega)).trans (by rw [List.range_succ]; exact List.prefix_append _ _)
def ltr (ls : List UInt8) (k : Nat) : Int := ((ls.getD k 105).toNat : Nat)
theorem ltr_at (s : ByteArray) {k : Nat} (h : k < s.size) : ltr s.data.toList k = (s[k]'h).toNat := by
 unfold ltr
 have : k < s.data.toList.length := by simpa using h
 rw [List.getD_eq_getElem?_getD, List.getElem?_eq_getElem this]
 rfl
def encX (ls : List UInt8) (a b c i : Int) (k : Nat) : Array Value := #[.int .i32 (ltr ls k), .int .i64 (prt a b c i (ltr ls k))]
theorem j7z (w : World) (k : Nat) (s : ByteArray) (p : Nat) : w.grownBy (w.iterAt k s p) (some k) :=
 ⟨rfl, rfl, rfl, by rw [Lib.iterAt_size]; exact Nat.le_refl _, fun j _ hj => Lib.iterAt_other w k j s p (fun e => hj (by rw [e]))⟩
theorem k7z {w : World} {k p : Nat} {s : ByteArray} (h : w.heap[k]? = some (.stringIter s p)) : w.iterPos k = p := by simp [World.iterPos, h]
theorem uEz (N : Nat) (hn : 1 ≤ N) (l Bl Bi : Nat) (s : ByteArray) (ls : List UInt8) (hs : Hid (s.data.toList = ls)) (hasc : Hid (∀ x ∈ ls, x.toNat < 128)) (op a b c i : Int) (hi0 : -2147483648 ≤ i) (hi1 : i < 2147483648) (J Jx : List Nat → World → Prop)
  (hY : ∀ pre x W, J pre W → pre.length < ls.length → YieldAt Fence.wide (N - 1) prog l (encX ls a b c i x) W fun e W' =>
   (e = .returned (.bool true) ∧ J (pre ++ [x]) W' ∧ Keeps (fun b => b = Bl ∨ b = Bi) W W') ∨ (e = .returned (.bool false) ∧ Jx (pre ++ [x]) W'))
  (W : World) (hJ : AbidesFrom W.heap.size J) (hBl : Boxed W Bl 9 (.string s)) (hBi : Ib W Bi op a b c i) (h0 : J [] W) :
  CallsIn Fence.wide N prog 144 #[.func (.yield l) #[] #[], .pointer (some ⟨Bl, 0, none⟩), .pointer (some ⟨Bi, 0, none⟩)] W fun e W' => (∃ v, e = .returned v) ∧
   ((∃ ys, ys = List.range ls.length ∧ J ys W') ∨ (∃ pre, pre <+: List.range ls.length ∧ Jx pre W')) := by
 have hsz : ls.length = s.size := by rw [← hs.out]; simp
 have cl := hBl.cell
 refine callsIn_of_wp func144 rfl trivial ?_ rfl
 simp only [ntmps144, List.size_toArray, List.length_cons, List.length_nil, Nat.reduceAdd, Nat.reduceSub, Array.replicate_succ, Array.replicate_zero, List.push_toArray, List.append_toArray, List.nil_append, List.cons_append]
 gi_wp2
 gi_loopw [] (fun wr => ∃ k : Nat, k ≤ s.size ∧ wr.heap[W.heap.size]? = some (.stringIter s k) ∧ Boxed wr Bl 9 (.string s) ∧ Ib wr Bi op a b c i ∧ J (List.range k) wr ∧ W.heap.size ≤ wr.heap.size) (fun wr => s.size - wr.iterPos W.heap.size)
 case atStart => exact ⟨0, by omega, World.iter_heap _ _ _, hBl.alloc _, hBi.alloc _, hJ _ W _ none h0 (World.grownBy_alloc W _ none) (fun r e => by cases e), by simp [World.iter]⟩
 case round =>
  obtain ⟨k, hk, hit, bl, bi, hJk, hsz2⟩ := hrel
  have hneL : Bl ≠ W.heap.size := fun e => by have h1 := show wr.heap[Bl]? = _ from bl; rw [e, hit] at h1; cases h1
  have hneI : Bi ≠ W.heap.size := fun e => by have h1 := show wr.heap[Bi]? = _ from bi; rw [e, hit] at h1; cases h1
  by_cases hks : k < s.size
  ·have ha : (s[k]'hks).toNat < 128 := hasc.out _ (by rw [← hs.out]; simp [ByteArray.getElem_eq_getElem_data])
   have hnx : ∀ ty, (Instr.next (.pointer (some ⟨W.heap.size, 0, none⟩)) true ty).run prog wr = _ := fun ty => Lib.run_next_ascii_at wr W.heap.size s k ty hit hks ha
   have hx : ((s[k]'hks).toNat : Int) = ltr ls k := by rw [← hs.out, ltr_at s hks]
   rw [hx] at hnx
   have hit2 := Lib.iterAt_heap wr W.heap.size s k (k + 1) hit
   have bl2 : Boxed (wr.iterAt W.heap.size s (k + 1)) Bl 9 (.string s) := (Lib.iterAt_other wr W.heap.size Bl s (k + 1) hneL).trans bl
   have bi2 : Ib (wr.iterAt W.heap.size s (k + 1)) Bi op a b c i := (Lib.iterAt_other wr W.heap.size Bi s (k + 1) hneI).trans bi
   have hJ2 := hJ _ wr _ (some W.heap.size) hJk (j7z wr W.heap.size s (k + 1)) (fun r e => by cases e; exact ⟨Nat.le_refl _, _, hit, rfl⟩)
   have hz2 : W.heap.size ≤ (wr.iterAt W.heap.size s (k + 1)).heap.size := by rw [Lib.iterAt_size]; exact hsz2
   obtain ⟨X, hX⟩ : ∃ X, wr.iterAt W.heap.size s (k + 1) = X := ⟨_, rfl⟩
   rw [hX] at hit2 bl2 bi2 hJ2 hz2 hnx
   have hIP : Hid (wr.iterPos W.heap.size = k) := k7z hit
   clear hX hJk bl bi hit
   obtain ⟨c0, c1, c2, c3, c4⟩ := bi2.cells
   gi_wp2_with (first | (refine ⟨trivial, ?_⟩; gi_at_call 145; (refine (callsIn_wide.2 (part_any op a b c i _ hi0 hi1 _)).mono ?_); rintro e w' ⟨rfl, hb⟩))
   have hJ3 := hJ _ X w' none hJ2 (below_grown hb) (fun r e => by cases e)
   obtain ⟨fn, tmps, assign, body, hyy, hR⟩ := hY (List.range k) k w' hJ3 (by rw [List.length_range, hsz]; exact hks)
   dsimp only [encX] at hyy
   rw [hyy]
   gi_wp2
   refine hR.mono ?_
   have hit3 := (hb.block _ (Array.getElem?_eq_some_iff.1 hit2).1).trans hit2
   rintro e W3 (⟨rfl, hJ4, hk3⟩ | ⟨rfl, hJx3⟩)
   ·have hit4 := hk3.1.same _ _ hit3 rfl
    gi_wp2
    go_roundw
    case rel => exact ⟨k + 1, by omega, hit4, (hk3.2 Bl (.inl rfl)).trans (Boxed.next bl2 hb), (hk3.2 Bi (.inr rfl)).trans (bi2.next hb), by rw [List.range_succ]; exact hJ4, Nat.le_trans hz2 (Nat.le_trans hb.size hk3.1.size)⟩
    case measure => rw [k7z hit4, hIP.out]; omega
   ·gi_wp2
    refine bodyPost_ret (results_none rfl _ _ _) rfl ?_
    exact ⟨⟨_, rfl⟩, .inr ⟨_, by rw [← List.range_succ]; exact uwz (by omega), hJx3⟩⟩
  ·obtain rfl : k = s.size := by omega
   have hnx : ∀ ty, (Instr.next (.pointer (some ⟨W.heap.size, 0, none⟩)) true ty).run prog wr = _ := fun ty => Lib.run_next_end_at wr W.heap.size s s.size ty hit hks
   gi_wp2
   go_end0
   exact ⟨⟨_, rfl⟩, .inl ⟨_, by rw [hsz], hJk⟩⟩
theorem jYz (op a b c i : Int) (s : ByteArray) (w : World) :
  Calls prog 131 #[.agg #[.int .i64 op, .int .i64 a, .int .i64 b, .int .i64 c, .int .i32 i], .string s] w fun e w' => e = .returned (.func (.func 144) #[] #[.pointer (some ⟨w.heap.size + 1, 0, none⟩), .pointer (some ⟨w.heap.size, 0, none⟩)]) ∧
   w' = (w.alloc (.cells #[.int .i64 op, .int .i64 a, .int .i64 b, .int .i64 c, .int .i32 i] 68)).alloc (.cells #[.string s] 9) := by
 go_enter func131, ntmps131
 go_wp2
 go_ret
 exact ⟨rfl, rfl⟩
theorem kxz (N : Nat) (hn : 1 ≤ N) (Bl Bi : Nat) (s : ByteArray) (ls : List UInt8) (hs : Hid (s.data.toList = ls)) (hasc : Hid (∀ x ∈ ls, x.toNat < 128)) (op a b c i : Int) (hi0 : -2147483648 ≤ i) (hi1 : i < 2147483648) (w : World) (hBl : Boxed w Bl 9 (.string s)) (hBi : Ib w Bi op a b c i) :
  SeqStopsK Fence.wide N prog 144 #[.pointer (some ⟨Bl, 0, none⟩), .pointer (some ⟨Bi, 0, none⟩)] (encX ls a b c i) (Keeps (fun b => b = Bl ∨ b = Bi)) (fun ys => ys = List.range ls.length) (fun pre => pre <+: List.range ls.length) ls.length w := fun l J Jx W hW hJ _ hY h0 =>
 uEz N hn l Bl Bi s ls hs hasc op a b c i hi0 hi1 J Jx hY W hJ (Boxed.next hBl hW) (hBi.next hW) h0
end InM
namespace InM
open Go.RowKit Go.Shelf
attribute [local go_sem] Oper.semAt_some
def allL : List UInt8 := [97, 98, 99, 105]
def okX (op a b c i : Int) (k : Nat) : Bool := canB (ltr allL k) (prt a b c i (ltr allL k)) && (prt a b c i (ltr allL k) == 0 || (Ins.shp op).contains (ltr allL k).toNat.toUInt8)
theorem okX_lt (op a b c i : Int) (k : Nat) : 0 ≤ ltr allL k ∧ ltr allL k < 128 := by
 unfold ltr allL
 rcases k with _ | _ | _ | _ | k <;> simp
theorem gcz (op a b c i : Int) (hop : Ins.opB op = true) : Ins.fitB op a b c i = (List.range allL.length).all (okX op a b c i) := by
 have e0 : okX op a b c i 0 = (canB 97 a && (a == 0 || (Ins.shp op).contains 97)) := rfl
 have e1 : okX op a b c i 1 = (canB 98 b && (b == 0 || (Ins.shp op).contains 98)) := rfl
 have e2 : okX op a b c i 2 = (canB 99 c && (c == 0 || (Ins.shp op).contains 99)) := rfl
 have e3 : okX op a b c i 3 = (canB 105 i && (i == 0 || (Ins.shp op).contains 105)) := rfl
 have er : List.range allL.length = [0, 1, 2, 3] := rfl
 have k0 : ∀ x l u, (l == (105 : Int)) = false → (canB l x && (x == 0 || u)) = Ins.rg x u := by
  intro x l u hl
  unfold canB Ins.rg
  rw [hl]
  by_cases h : x = 0
  ·subst h; simp
  ·by_cases h1 : 0 < x
   ·have : 0 ≤ x := by omega
    simp [h1, this]; have h2 : (x == 0) = false := by simpa using h
    rw [h2, Bool.false_or, Bool.false_or, Bool.and_comm]
   ·have : ¬ 0 ≤ x := by omega
    simp [h, h1, this]
 rw [er]
 simp only [List.all_cons, List.all_nil, Bool.and_true, e0, e1, e2, e3, Ins.fitB, hop, Bool.true_and, Ins.us]
 rw [k0 a 97 _ rfl, k0 b 98 _ rfl, k0 c 99 _ rfl, show canB 105 i = true from rfl, Bool.true_and, Bool.and_assoc, Bool.and_assoc]
theorem kTz (l : List UInt8) (x : UInt8) : decide (0 ≤ Lib.indexByte l x) = l.contains x := by
 induction l with
 | nil => rfl
 | cons b l ih =>
  have hg := Lib.indexByte_ge l x
  rw [List.contains_cons, ← ih]
  have e : Lib.indexByte (b :: l) x = if b == x then 0 else if Lib.indexByte l x == -1 then -1 else Lib.indexByte l x + 1 := rfl
  by_cases h : b = x
  ·have e2 : Lib.indexByte (b :: l) x = 0 := by rw [e, if_pos (by simpa using h)]
   rw [e2]; subst h; simp
  ·have h2 : (x == b) = false := by simpa using fun e => h e.symm
   rw [h2, Bool.false_or]
   rw [if_neg (by simpa using h)] at e
   by_cases h3 : Lib.indexByte l x = -1
   ·rw [if_pos (by simpa using h3)] at e
    rw [e, h3]
   ·rw [if_neg (by simpa using h3)] at e
    rw [e]
    have h4 : 0 ≤ Lib.indexByte l x := by omega
    have h5 : 0 ≤ Lib.indexByte l x + 1 := by omega
    simp [h4, h5]
theorem fit_any (op a b c i : Int) (hi0 : -2147483648 ≤ i) (hi1 : i < 2147483648) (w : World) :
  Calls prog 109 #[.agg #[.int .i64 op, .int .i64 a, .int .i64 b, .int .i64 c, .int .i32 i]] w fun e w' => e = .returned (.bool (Ins.fitB op a b c i)) ∧ Below w.heap.size w w' := by
 refine (callsIn_wide (n := 5)).1 ?_
 refine callsIn_of_wp_marks func109 rfl trivial ?_ rfl
 simp only [ntmps109, List.size_toArray, List.length_cons, List.length_nil, Nat.reduceAdd, Nat.reduceSub, Array.replicate_succ, Array.replicate_zero, List.push_toArray, List.append_toArray, List.nil_append, List.cons_append]
 cases hop : Ins.opB op with
 | false =>
  have hr : Hid (Ins.fitB op a b c i = false) := by show Ins.fitB op a b c i = false; simp [Ins.fitB, hop]
  gi_wp2_with (refine ⟨trivial, ?_⟩; gi_at_call 129; refine (callsIn_wide.2 (j5z _ _)).mono ?_; rintro e w' ⟨rfl, rfl⟩)
  have bR := Boxed.new (w.alloc (.cells #[.int .i64 op, .int .i64 a, .int .i64 b, .int .i64 c, .int .i32 i] 68)) 4 (.bool false)
  simp only [World.size_alloc] at bR
  have hc := bR.cell
  refine ⟨.bool false, ?_, by rw [hr.out], ((Below.refl _ w).alloc (Nat.le_refl _) _).alloc (by simp) _⟩
  simp [results, Tryz.f109, go_sem, hc]
 | true =>
  gi_wp2_with (first | (refine ⟨trivial, ?_⟩; gi_at_call 129; refine (callsIn_wide.2 (j5z _ _)).mono ?_; rintro e w' ⟨rfl, rfl⟩) | (refine ⟨trivial, ?_⟩; gi_at_call 130; refine (callsIn_wide.2 (jQz _ _)).mono ?_; rintro e w' ⟨rfl, rfl⟩) | (refine ⟨trivial, ?_⟩; gi_at_call 131; refine (callsIn_wide.2 (jYz _ _ _ _ _ _ _)).mono ?_; rintro e w' ⟨rfl, rfl⟩))
  have bR := (((Boxed.new (w.alloc (.cells #[.int .i64 op, .int .i64 a, .int .i64 b, .int .i64 c, .int .i32 i] 68)) 4 (.bool false)).alloc (.cells #[.string (Ins.shS op)] 9)).alloc (.cells #[.int .i64 op, .int .i64 a, .int .i64 b, .int .i64 c, .int .i32 i] 68)).alloc (.cells #[.string ⟨#[97, 98, 99, 105]⟩] 9)
  have bU := ((Boxed.new ((w.alloc (.cells #[.int .i64 op, .int .i64 a, .int .i64 b, .int .i64 c, .int .i32 i] 68)).alloc (.cells #[.bool false] 4)) 9 (.string (Ins.shS op))).alloc (.cells #[.int .i64 op, .int .i64 a, .int .i64 b, .int .i64 c, .int .i32 i] 68)).alloc (.cells #[.string ⟨#[97, 98, 99, 105]⟩] 9)
  have bI := (Ib.new (((w.alloc (.cells #[.int .i64 op, .int .i64 a, .int .i64 b, .int .i64 c, .int .i32 i] 68)).alloc (.cells #[.bool false] 4)).alloc (.cells #[.string (Ins.shS op)] 9)) op a b c i).alloc (.cells #[.string ⟨#[97, 98, 99, 105]⟩] 9)
  have bL := Boxed.new ((((w.alloc (.cells #[.int .i64 op, .int .i64 a, .int .i64 b, .int .i64 c, .int .i32 i] 68)).alloc (.cells #[.bool false] 4)).alloc (.cells #[.string (Ins.shS op)] 9)).alloc (.cells #[.int .i64 op, .int .i64 a, .int .i64 b, .int .i64 c, .int .i32 i] 68)) 9 (.string ⟨#[97, 98, 99, 105]⟩)
  simp only [World.size_alloc] at bR bU bI bL
  have hB0 : Below w.heap.size w (((((w.alloc (.cells #[.int .i64 op, .int .i64 a, .int .i64 b, .int .i64 c, .int .i32 i] 68)).alloc (.cells #[.bool false] 4)).alloc (.cells #[.string (Ins.shS op)] 9)).alloc (.cells #[.int .i64 op, .int .i64 a, .int .i64 b, .int .i64 c, .int .i32 i] 68)).alloc (.cells #[.string ⟨#[97, 98, 99, 105]⟩] 9)) := (((((Below.refl _ w).alloc (Nat.le_refl _) _).alloc (by simp) _).alloc (by simp; omega) _).alloc (by simp; omega) _).alloc (by simp; omega) _
  have hsz : (((((w.alloc (.cells #[.int .i64 op, .int .i64 a, .int .i64 b, .int .i64 c, .int .i32 i] 68)).alloc (.cells #[.bool false] 4)).alloc (.cells #[.string (Ins.shS op)] 9)).alloc (.cells #[.int .i64 op, .int .i64 a, .int .i64 b, .int .i64 c, .int .i32 i] 68)).alloc (.cells #[.string ⟨#[97, 98, 99, 105]⟩] 9)).heap.size = w.heap.size + 5 := by simp
  obtain ⟨W0, hW0⟩ : ∃ W0, ((((w.alloc (.cells #[.int .i64 op, .int .i64 a, .int .i64 b, .int .i64 c, .int .i32 i] 68)).alloc (.cells #[.bool false] 4)).alloc (.cells #[.string (Ins.shS op)] 9)).alloc (.cells #[.int .i64 op, .int .i64 a, .int .i64 b, .int .i64 c, .int .i32 i] 68)).alloc (.cells #[.string ⟨#[97, 98, 99, 105]⟩] 9) = W0 := ⟨_, rfl⟩
  rw [hW0] at bR bU bI bL hB0 hsz ⊢
  clear hW0
  refine wpIn_rangeFunc_ownH rfl (by omega) (gf := 144) (lb := #[.pointer (some ⟨w.heap.size + 1 + 1 + 1 + 1, 0, none⟩), .pointer (some ⟨w.heap.size + 1 + 1 + 1, 0, none⟩)]) rfl trivial (enters_of func144 (by kernel_rfl) rfl)
   (kxz _ (by omega) (w.heap.size + 1 + 1 + 1 + 1) (w.heap.size + 1 + 1 + 1) ⟨#[97, 98, 99, 105]⟩ allL rfl (by show ∀ x ∈ allL, x.toNat < 128; decide) op a b c i hi0 hi1 W0 bL bI) keepsK_t (keepsK_b (fun b hb => by omega)) (Below.refl _ _) (fun _ => rfl)
   (fun pre W => ((pre.all (okX op a b c i) = true ∧ Boxed W (w.heap.size + 1) 4 (.bool false)) ∧ Boxed W (w.heap.size + 1 + 1) 9 (.string (Ins.shS op))) ∧ Below w.heap.size w W)
   (fun cd pre W => (cd = .ret ∧ pre.all (okX op a b c i) = false ∧ Boxed W (w.heap.size + 1) 4 (.bool false)) ∧ Below w.heap.size w W)
   (OwnFrom.and (OwnFrom.and (OwnFrom.and (ownFrom_pure _ _) (Own.from (boxed_own _ _ _) _)) (Own.from (boxed_own _ _ _) _)) (ownFrom_below (Nat.le_refl _) (by omega)))
   (fun cd => OwnFrom.and (OwnFrom.and (ownFrom_pure _ _) (OwnFrom.and (ownFrom_pure _ _) (Own.from (boxed_own _ _ _) _))) (ownFrom_below (Nat.le_refl _) (by omega)))
   ⟨⟨⟨rfl, bR⟩, bU⟩, hB0⟩
   (fun x a' W => a' = { tmps := #[.agg #[.int .i64 op, .int .i64 a, .int .i64 b, .int .i64 c, .int .i32 i], .pointer (some ⟨w.heap.size, 0, none⟩), .pointer (some ⟨w.heap.size + 1, 0, none⟩), .pointer (some ⟨w.heap.size + 1 + 1, 0, none⟩), .int .i32 (ltr allL x), .int .i64 (prt a b c i (ltr allL x)), .pointer (some ⟨w.heap.size, 0, none⟩), .int .i64 op, .bool true, .bool false, .pointer (some ⟨w.heap.size, 0, none⟩), .int .i64 op, .string (Ins.shS op), .agg #[.int .i64 op, .int .i64 a, .int .i64 b, .int .i64 c, .int .i32 i], .func (.func 144) #[] #[.pointer (some ⟨w.heap.size + 1 + 1 + 1 + 1, 0, none⟩), .pointer (some ⟨w.heap.size + 1 + 1 + 1, 0, none⟩)], .int .i32 (ltr allL x), .int .i64 (prt a b c i (ltr allL x)), undef, undef, undef, undef, undef, undef, undef, undef, undef, undef, undef, undef, undef, undef], defers := [] })
   (fun x a' _ X Y row hs hg hr => hs)
   ?assign ?body ?done ?stop
  case assign =>
   rintro l pre x W K hI hK
   dsimp only [encX]
   gi_wp2
   exact hK _ _ (KeepsFrom.refl _ _) (Keeps.refl _ _) hI rfl
  case body =>
   rintro l pre x a' W hl ⟨r, hr⟩ ⟨⟨⟨hp, bR1⟩, bU1⟩, hB1⟩ rfl hlt
   have cR := bR1.cell
   have fR := bR1.frozen
   have cU := bU1.cell
   obtain ⟨hl0, hl1⟩ := okX_lt op a b c i x
   have hP : Hid ((pre ++ [x]).all (okX op a b c i) = okX op a b c i x) := by show _ = _; simp only [List.all_append, List.all_cons, List.all_nil, Bool.and_true, hp, Bool.true_and]
   have HX : Hid (okX op a b c i x = (canB (ltr allL x) (prt a b c i (ltr allL x)) && (prt a b c i (ltr allL x) == 0 || (Ins.shp op).contains (ltr allL x).toNat.toUInt8))) := rfl
   clear hp
   obtain ⟨L, hL⟩ : ∃ L, ltr allL x = L := ⟨_, rfl⟩
   obtain ⟨v, hv⟩ : ∃ v, prt a b c i (ltr allL x) = v := ⟨_, rfl⟩
   rw [hv] at HX ⊢
   rw [hL] at HX hl0 hl1 ⊢
   clear hL hv
   cases hq : canB L v with
   | false =>
    have hf : Hid ((pre ++ [x]).all (okX op a b c i) = false) := by show _ = _; rw [hP.out, HX.out, hq, Bool.false_and]
    gi_wp2_with (first | (refine ⟨trivial, ?_⟩; gi_at_call 132; refine (CallsIn.inRound l (callsIn_wide.2 (jEz _ _ _))).mono ?_; rintro e w' ⟨rfl, rfl⟩) | (refine ⟨trivial, ?_⟩))
    exact ⟨(KeepsOthers.setCell _ _ _).from _, ⟨rfl, hf.out, bR1.set _⟩, hB1.setCell (p := ⟨w.heap.size + 1, 0, none⟩) (by show w.heap.size ≤ w.heap.size + 1; omega) _⟩
   | true =>
    by_cases hv0 : v = 0
    ·subst hv0
     have hf : Hid ((pre ++ [x]).all (okX op a b c i) = true) := by show _ = _; rw [hP.out, HX.out, hq]; rfl
     gi_wp2_with (first | (refine ⟨trivial, ?_⟩; gi_at_call 132; refine (CallsIn.inRound l (callsIn_wide.2 (jEz _ _ _))).mono ?_; rintro e w' ⟨rfl, rfl⟩) | (refine ⟨trivial, ?_⟩))
     exact ⟨KeepsFrom.refl _ _, Keeps.refl _ _, ⟨⟨hf.out, bR1⟩, bU1⟩, hB1⟩
    ·have hcon : ∀ W2, Calls prog 133 #[.string (Ins.shS op), .int .i32 L] W2 fun e w' => e = .returned (.bool ((Ins.shp op).contains L.toNat.toUInt8)) ∧ w' = W2 := fun W2 => by
      have := Tryz.strings_ContainsRune_ascii (Ins.shS op) L W2 hl0 hl1
      rw [kTz] at this
      exact this
     have hv0' : (v == 0) = false := by simpa using hv0
     cases hq2 : (Ins.shp op).contains L.toNat.toUInt8 with
     | false =>
      have hf : Hid ((pre ++ [x]).all (okX op a b c i) = false) := by show _ = _; rw [hP.out, HX.out, hq, hq2, hv0']; rfl
      rw [hq2] at hcon
      clear hq2
      gi_wp2_with (first | (refine ⟨trivial, ?_⟩; gi_at_call 132; refine (CallsIn.inRound l (callsIn_wide.2 (jEz _ _ _))).mono ?_; rintro e w' ⟨rfl, rfl⟩) | (refine ⟨trivial, ?_⟩; gi_at_call 133; refine (CallsIn.inRound l (callsIn_wide.2 (hcon _))).mono ?_; rintro e w' ⟨rfl, rfl⟩))
      exact ⟨(KeepsOthers.setCell _ _ _).from _, ⟨rfl, hf.out, bR1.set _⟩, hB1.setCell (p := ⟨w.heap.size + 1, 0, none⟩) (by show w.heap.size ≤ w.heap.size + 1; omega) _⟩
     | true =>
      have hf : Hid ((pre ++ [x]).all (okX op a b c i) = true) := by show _ = _; rw [hP.out, HX.out, hq, hq2, hv0']; rfl
      rw [hq2] at hcon
      clear hq2
      gi_wp2_with (first | (refine ⟨trivial, ?_⟩; gi_at_call 132; refine (CallsIn.inRound l (callsIn_wide.2 (jEz _ _ _))).mono ?_; rintro e w' ⟨rfl, rfl⟩) | (refine ⟨trivial, ?_⟩; gi_at_call 133; refine (CallsIn.inRound l (callsIn_wide.2 (hcon _))).mono ?_; rintro e w' ⟨rfl, rfl⟩))
      exact ⟨KeepsFrom.refl _ _, Keeps.refl _ _, ⟨⟨hf.out, bR1⟩, bU1⟩, hB1⟩
  case done =>
   rintro D ys W hD rfl ⟨⟨⟨hp, bR1⟩, bU1⟩, hB⟩ hK
   have hr : Hid (Ins.fitB op a b c i = true) := by show _ = _; rw [gcz op a b c i hop]; exact hp
   have cR := bR1.cell
   have fR := bR1.frozen
   clear hp
   gi_wp2
   have hK' := (KeepsOthers.setCell W ⟨w.heap.size + 1, 0, none⟩ (.bool true)).same D _ hK rfl
   refine ⟨by simp, .inl ⟨_, _, rfl, run_takeDeferred hK', ?_⟩⟩
   have hc5 := cell_kept (bR1.set (.bool true)).cell (grownBy_putObj' _ D (.deferred none)) (fun r e => by cases e; exact ⟨_, hK', rfl⟩)
   refine ⟨.bool true, ?_, by rw [hr.out], (hB.setCell (p := ⟨w.heap.size + 1, 0, none⟩) (by show w.heap.size ≤ w.heap.size + 1; omega) _).trans (belowK_b (w := w) (Nat.le_refl _) _ D _ _ (by omega) hK' rfl rfl)⟩
   simp [results, Tryz.f109, go_sem, hc5]
  case stop =>
   rintro D cd pre W hD hpre ⟨⟨rfl, hin, bR1⟩, hB⟩ hK
   have hr : Hid (Ins.fitB op a b c i = false) := by
    show _ = _
    rw [gcz op a b c i hop]
    rw [List.all_eq_false] at hin ⊢
    obtain ⟨x, hx, hy⟩ := hin
    exact ⟨x, hpre.subset hx, hy⟩
   clear hin
   gi_wp2
   refine ⟨by simp, .inl ⟨_, _, rfl, run_takeDeferred hK, ?_⟩⟩
   have hc5 := cell_kept bR1.cell (grownBy_putObj' _ D (.deferred none)) (fun r e => by cases e; exact ⟨_, hK, rfl⟩)
   refine ⟨.bool false, ?_, by rw [hr.out], hB.trans (belowK_b (w := w) (Nat.le_refl _) W D _ _ (by omega) hK rfl rfl)⟩
   simp [results, Tryz.f109, go_sem, hc5]
end InM
end Go.Proofs.YtdeddhojjolihaaGreat
