/-
  PROVED HERE: what package inst's iterator over the parts of an instruction hands out, for every loop body (a contract over this translation). No condition.
-/
import Derived.RangeFuncNested
import Derived.RangeFuncBound
import Derived.RangeFuncCalls
import Derived.RangeFuncLeaves
import Derived.Shelf.Abstract
import Derived.Shelf.RegionOpen
import Derived.WalkKit
import Derived.OwnWalkIn
import Derived.TacticsInMore
import Derived.LoopNIn
import Derived.LoopIn
import Derived.RegionIn
import Derived.WalkSmall
import Derived.Lib.OthersKept
import Derived.Test.YtnghendglcblkaaGreatDoorIns3
namespace Go.Proofs.YtnghendglcblkaaGreatDoor
open Go.RowKit Go.Shelf
set_option linter.unusedVariables false
attribute [local go_sem] Oper.semAt_some

/-- The blocks of D, and all iterators, lie as they lay. -/
def Keeps (D : Nat → Prop) (W W' : World) : Prop := KeepsWalks W W' ∧ ∀ b, D b → W'.heap[b]? = W.heap[b]?
theorem Keeps.refl (D : Nat → Prop) (W : World) : Keeps D W W := ⟨KeepsWalks.refl _, fun _ _ => rfl⟩
theorem Keeps.trans {D : Nat → Prop} {A B C : World} (h : Keeps D A B) (k : Keeps D B C) : Keeps D A C := ⟨h.1.trans k.1, fun b hb => (k.2 b hb).trans (h.2 b hb)⟩
theorem keepsK_b {D : Nat → Prop} {w : World} (hD : ∀ b, D b → b < w.heap.size) (W : World) (l : Nat) (o o' : Obj) (hl : w.heap.size ≤ l) (h : W.heap[l]? = some o) (_ : o.isCells = false) (hw : o.isWalk = false) : Keeps D W (W.putObj l o') :=
  ⟨KeepsWalks.putObj o' h hw, fun b hb => World.putObj_heap_other (fun e => by have := hD b hb; omega)⟩
theorem keepsK_t {D : Nat → Prop} {A B C : World} (h : Keeps D A B) (k : Keeps D B C) : Keeps D A C := h.trans k
theorem below_grown {w w' : World} (h : Below w.heap.size w w') : w.grownBy w' none := ⟨h.os, h.tape, h.output, h.size, fun k hk _ => h.block k hk⟩
/-- An instruction in a block. -/
def Ib (W : World) (B : Nat) (op a b c i : Int) : Prop := W.heap[B]? = some (.cells #[.int .i64 op, .int .i64 a, .int .i64 b, .int .i64 c, .int .i32 i] 35 (0, 0))
theorem Ib.lt {W : World} {B : Nat} {op a b c i : Int} (h : Ib W B op a b c i) : B < W.heap.size := (Array.getElem?_eq_some_iff.1 h).1
theorem Ib.cells {W : World} {B : Nat} {op a b c i : Int} (h : Ib W B op a b c i) : W.cell? ⟨B, 0, none⟩ = some (.int .i64 op) ∧ W.cell? ⟨B, 1, none⟩ = some (.int .i64 a) ∧ W.cell? ⟨B, 2, none⟩ = some (.int .i64 b) ∧ W.cell? ⟨B, 3, none⟩ = some (.int .i64 c) ∧ W.cell? ⟨B, 4, none⟩ = some (.int .i32 i) := by
  simp [World.cell?, show W.heap[B]? = _ from h]
theorem Ib.frozen {W : World} {B : Nat} {op a b c i : Int} (h : Ib W B op a b c i) (j : Nat) : W.frozen? ⟨B, j, none⟩ = false := by simp [World.frozen?, show W.heap[B]? = _ from h]
theorem Ib.new (W : World) (op a b c i : Int) : Ib (W.alloc (.cells #[.int .i64 op, .int .i64 a, .int .i64 b, .int .i64 c, .int .i32 i] 35)) W.heap.size op a b c i := World.alloc_heap_new W _
theorem Ib.next {W W' : World} {B : Nat} {op a b c i : Int} (h : Ib W B op a b c i) (k : Below W.heap.size W W') : Ib W' B op a b c i := (k.block B h.lt).trans h
theorem Ib.alloc {W : World} {B : Nat} {op a b c i : Int} (h : Ib W B op a b c i) (o : Obj) : Ib (W.alloc o) B op a b c i := h.next ((Below.refl _ W).alloc (Nat.le_refl _) o)
theorem Ib.other {W : World} {B g j : Nat} {op a b c i : Int} {x : Value} (h : Ib W B op a b c i) (hne : B ≠ g) : Ib (W.setCell ⟨g, j, none⟩ x) B op a b c i := (Below.heap_setCell _ _ _ _ hne).trans h
theorem Boxed.next {W W' : World} {B : Nat} {t : TypeId} {v : Value} (h : Boxed W B t v) (k : Below W.heap.size W W') : Boxed W' B t v := (k.block B h.lt).trans h
theorem ib_own {β : Type} (B : Nat) (op a b c i : Int) : Own (fun (_ : β) W => Ib W B op a b c i) := fun s X Y row hs hg hrow =>
  (hg.block B hs.lt (fun e' => by obtain ⟨o, ho, hc⟩ := hrow B e'.symm; rw [show X.heap[B]? = _ from hs] at ho; cases ho; cases hc)).trans hs

theorem range_pre {j n : Nat} (h : j ≤ n) : List.range j <+: List.range n := by
  induction n with
  | zero => have : j = 0 := by omega
            subst this; exact List.prefix_refl _
  | succ n ih =>
    by_cases hj : j = n + 1
    · subst hj; exact List.prefix_refl _
    · exact (ih (by omega)).trans (by rw [List.range_succ]; exact List.prefix_append _ _)
/-- The k-th letter. -/
def ltr (ls : List UInt8) (k : Nat) : Int := ((ls.getD k 105).toNat : Nat)
theorem ltr_at (s : ByteArray) {k : Nat} (h : k < s.size) : ltr s.data.toList k = (s[k]'h).toNat := by
  unfold ltr
  have : k < s.data.toList.length := by simpa using h
  rw [List.getD_eq_getElem?_getD, List.getElem?_eq_getElem this]
  rfl
def encX (ls : List UInt8) (a b c i : Int) (k : Nat) : Array Value := #[.int .i32 (ltr ls k), .int .i64 (prt a b c i (ltr ls k))]

theorem grown_iterAt (w : World) (k : Nat) (s : ByteArray) (p : Nat) : w.grownBy (w.iterAt k s p) (some k) :=
  ⟨rfl, rfl, rfl, by rw [Lib.iterAt_size]; exact Nat.le_refl _, fun j _ hj => Lib.iterAt_other w k j s p (fun e => hj (by rw [e]))⟩
theorem iterPos_of {w : World} {k p : Nat} {s : ByteArray} (h : w.heap[k]? = some (.stringIter s p)) : w.iterPos k = p := by simp [World.iterPos, h]

set_option maxRecDepth 100000 in
set_option maxHeartbeats 1000000 in
theorem parts1_in (N : Nat) (hn : 1 ≤ N) (l Bl Bi : Nat) (s : ByteArray) (ls : List UInt8) (hs : Hid (s.data.toList = ls)) (hasc : Hid (∀ x ∈ ls, x.toNat < 128)) (op a b c i : Int) (hi0 : -2147483648 ≤ i) (hi1 : i < 2147483648) (J Jx : List Nat → World → Prop)
    (hY : ∀ pre x W, J pre W → pre.length < ls.length → YieldAt Fence.wide (N - 1) Tryz.prog l (encX ls a b c i x) W fun e W' =>
      (e = .returned (.bool true) ∧ J (pre ++ [x]) W' ∧ Keeps (fun b => b = Bl ∨ b = Bi) W W') ∨ (e = .returned (.bool false) ∧ Jx (pre ++ [x]) W'))
    (W : World) (hJ : AbidesFrom W.heap.size J) (hBl : Boxed W Bl 9 (.string s)) (hBi : Ib W Bi op a b c i) (h0 : J [] W) :
    CallsIn Fence.wide N Tryz.prog 69 #[.func (.yield l) #[] #[], .pointer (some ⟨Bl, 0, none⟩), .pointer (some ⟨Bi, 0, none⟩)] W fun e W' => (∃ v, e = .returned v) ∧
      ((∃ ys, ys = List.range ls.length ∧ J ys W') ∨ (∃ pre, pre <+: List.range ls.length ∧ Jx pre W')) := by
  have hsz : ls.length = s.size := by rw [← hs.out]; simp
  have cl := hBl.cell
  refine callsIn_of_wp Tryz.func69 rfl trivial ?_ rfl
  simp only [Tryz.ntmps69, List.size_toArray, List.length_cons, List.length_nil, Nat.reduceAdd, Nat.reduceSub, Array.replicate_succ, Array.replicate_zero, List.push_toArray, List.append_toArray, List.nil_append, List.cons_append]
  gi_wp2
  gi_loopw [] (fun wr => ∃ k : Nat, k ≤ s.size ∧ wr.heap[W.heap.size]? = some (.stringIter s k) ∧ Boxed wr Bl 9 (.string s) ∧ Ib wr Bi op a b c i ∧ J (List.range k) wr ∧ W.heap.size ≤ wr.heap.size) (fun wr => s.size - wr.iterPos W.heap.size)
  case atStart => exact ⟨0, by omega, World.iter_heap _ _ _, hBl.alloc _, hBi.alloc _, hJ _ W _ none h0 (World.grownBy_alloc W _ none) (fun r e => by cases e), by simp [World.iter]⟩
  case round =>
    obtain ⟨k, hk, hit, bl, bi, hJk, hsz2⟩ := hrel
    have hneL : Bl ≠ W.heap.size := fun e => by have h1 := show wr.heap[Bl]? = _ from bl; rw [e, hit] at h1; cases h1
    have hneI : Bi ≠ W.heap.size := fun e => by have h1 := show wr.heap[Bi]? = _ from bi; rw [e, hit] at h1; cases h1
    by_cases hks : k < s.size
    · have ha : (s[k]'hks).toNat < 128 := hasc.out _ (by rw [← hs.out]; simp [ByteArray.getElem_eq_getElem_data])
      have hnx : ∀ ty, (Instr.next (.pointer (some ⟨W.heap.size, 0, none⟩)) true ty).run Tryz.prog wr = _ := fun ty => Lib.run_next_ascii_at wr W.heap.size s k ty hit hks ha
      have hx : ((s[k]'hks).toNat : Int) = ltr ls k := by rw [← hs.out, ltr_at s hks]
      rw [hx] at hnx
      have hit2 := Lib.iterAt_heap wr W.heap.size s k (k + 1) hit
      have bl2 : Boxed (wr.iterAt W.heap.size s (k + 1)) Bl 9 (.string s) := (Lib.iterAt_other wr W.heap.size Bl s (k + 1) hneL).trans bl
      have bi2 : Ib (wr.iterAt W.heap.size s (k + 1)) Bi op a b c i := (Lib.iterAt_other wr W.heap.size Bi s (k + 1) hneI).trans bi
      have hJ2 := hJ _ wr _ (some W.heap.size) hJk (grown_iterAt wr W.heap.size s (k + 1)) (fun r e => by cases e; exact ⟨Nat.le_refl _, _, hit, rfl⟩)
      have hz2 : W.heap.size ≤ (wr.iterAt W.heap.size s (k + 1)).heap.size := by rw [Lib.iterAt_size]; exact hsz2
      obtain ⟨X, hX⟩ : ∃ X, wr.iterAt W.heap.size s (k + 1) = X := ⟨_, rfl⟩
      rw [hX] at hit2 bl2 bi2 hJ2 hz2 hnx
      have hIP : Hid (wr.iterPos W.heap.size = k) := iterPos_of hit
      clear hX hJk bl bi hit
      obtain ⟨c0, c1, c2, c3, c4⟩ := bi2.cells
      gi_wp2_with (first | (refine ⟨trivial, ?_⟩; gi_at_call 70; (refine (callsIn_wide.2 (part_any op a b c i _ hi0 hi1 _)).mono ?_); rintro e w' ⟨rfl, hb⟩))
      have hJ3 := hJ _ X w' none hJ2 (below_grown hb) (fun r e => by cases e)
      obtain ⟨fn, tmps, assign, body, hyy, hR⟩ := hY (List.range k) k w' hJ3 (by rw [List.length_range, hsz]; exact hks)
      dsimp only [encX] at hyy
      rw [hyy]
      gi_wp2
      refine hR.mono ?_
      have hit3 := (hb.block _ (Array.getElem?_eq_some_iff.1 hit2).1).trans hit2
      rintro e W3 (⟨rfl, hJ4, hk3⟩ | ⟨rfl, hJx3⟩)
      · have hit4 := hk3.1.same _ _ hit3 rfl
        gi_wp2
        go_roundw
        case rel => exact ⟨k + 1, by omega, hit4, (hk3.2 Bl (.inl rfl)).trans (Boxed.next bl2 hb), (hk3.2 Bi (.inr rfl)).trans (bi2.next hb), by rw [List.range_succ]; exact hJ4, Nat.le_trans hz2 (Nat.le_trans hb.size hk3.1.size)⟩
        case measure => rw [iterPos_of hit4, hIP.out]; omega
      · gi_wp2
        refine bodyPost_ret (results_none rfl _ _ _) rfl ?_
        exact ⟨⟨_, rfl⟩, .inr ⟨_, by rw [← List.range_succ]; exact range_pre (by omega), hJx3⟩⟩
    · obtain rfl : k = s.size := by omega
      have hnx : ∀ ty, (Instr.next (.pointer (some ⟨W.heap.size, 0, none⟩)) true ty).run Tryz.prog wr = _ := fun ty => Lib.run_next_end_at wr W.heap.size s s.size ty hit hks
      gi_wp2
      go_end0
      exact ⟨⟨_, rfl⟩, .inl ⟨_, by rw [hsz], hJk⟩⟩
theorem parts_any (op a b c i : Int) (s : ByteArray) (w : World) :
    Calls Tryz.prog 44 #[.agg #[.int .i64 op, .int .i64 a, .int .i64 b, .int .i64 c, .int .i32 i], .string s] w fun e w' => e = .returned (.func (.func 69) #[] #[.pointer (some ⟨w.heap.size + 1, 0, none⟩), .pointer (some ⟨w.heap.size, 0, none⟩)]) ∧
      w' = (w.alloc (.cells #[.int .i64 op, .int .i64 a, .int .i64 b, .int .i64 c, .int .i32 i] 35)).alloc (.cells #[.string s] 9) := by
  go_enter Tryz.func44, Tryz.ntmps44
  go_wp2
  go_ret
  exact ⟨rfl, rfl⟩
theorem parts_stops (N : Nat) (hn : 1 ≤ N) (Bl Bi : Nat) (s : ByteArray) (ls : List UInt8) (hs : Hid (s.data.toList = ls)) (hasc : Hid (∀ x ∈ ls, x.toNat < 128)) (op a b c i : Int) (hi0 : -2147483648 ≤ i) (hi1 : i < 2147483648) (w : World) (hBl : Boxed w Bl 9 (.string s)) (hBi : Ib w Bi op a b c i) :
    SeqStopsK Fence.wide N Tryz.prog 69 #[.pointer (some ⟨Bl, 0, none⟩), .pointer (some ⟨Bi, 0, none⟩)] (encX ls a b c i) (Keeps (fun b => b = Bl ∨ b = Bi)) (fun ys => ys = List.range ls.length) (fun pre => pre <+: List.range ls.length) ls.length w := fun l J Jx W hW hJ _ hY h0 =>
  parts1_in N hn l Bl Bi s ls hs hasc op a b c i hi0 hi1 J Jx hY W hJ (Boxed.next hBl hW) (hBi.next hW) h0
end Go.Proofs.YtnghendglcblkaaGreatDoor
