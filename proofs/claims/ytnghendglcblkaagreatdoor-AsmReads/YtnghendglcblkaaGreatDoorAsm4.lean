/-
  PROVED HERE: what isMark and isInstruction of package asm return when they are called (contracts over this translation). Names of at most 65536 bytes.
-/
import Derived.Test.YtnghendglcblkaaGreatDoorAsm3
namespace Go.Proofs.YtnghendglcblkaaGreatDoor
open Go.RowKit Go.Shelf
set_option linter.unusedVariables false
open Asm

/-- A line in a block. -/
def Lb (W : World) (B : Nat) (m : ByteArray) (op a b c i : Int) (to : ByteArray) : Prop := W.heap[B]? = some (.cells #[.string m, .int .i64 op, .int .i64 a, .int .i64 b, .int .i64 c, .int .i32 i, .string to] 37 (0, 0))
section
variable {W W' : World} {B : Nat} {m : ByteArray} {op a b c i : Int} {to : ByteArray}
theorem Lb.lt (h : Lb W B m op a b c i to) : B < W.heap.size := (Array.getElem?_eq_some_iff.1 h).1
theorem Lb.cells (h : Lb W B m op a b c i to) : W.cell? ⟨B, 0, none⟩ = some (.string m) ∧ W.cell? ⟨B, 1, none⟩ = some (.int .i64 op) ∧ W.cell? ⟨B, 2, none⟩ = some (.int .i64 a) ∧ W.cell? ⟨B, 3, none⟩ = some (.int .i64 b) ∧ W.cell? ⟨B, 4, none⟩ = some (.int .i64 c) ∧ W.cell? ⟨B, 5, none⟩ = some (.int .i32 i) ∧ W.cell? ⟨B, 6, none⟩ = some (.string to) := by
  simp [World.cell?, show W.heap[B]? = _ from h]
theorem Lb.frozen (h : Lb W B m op a b c i to) (j : Nat) : W.frozen? ⟨B, j, none⟩ = false := by simp [World.frozen?, show W.heap[B]? = _ from h]
theorem Lb.new (W : World) (m : ByteArray) (op a b c i : Int) (to : ByteArray) : Lb (W.alloc (.cells #[.string m, .int .i64 op, .int .i64 a, .int .i64 b, .int .i64 c, .int .i32 i, .string to] 37)) W.heap.size m op a b c i to := World.alloc_heap_new W _
theorem Lb.next (h : Lb W B m op a b c i to) (k : Below W.heap.size W W') : Lb W' B m op a b c i to := (k.block B h.lt).trans h
theorem Lb.alloc (h : Lb W B m op a b c i to) (o : Obj) : Lb (W.alloc o) B m op a b c i to := h.next ((Below.refl _ W).alloc (Nat.le_refl _) o)
theorem Lb.other {g j : Nat} {x : Value} (h : Lb W B m op a b c i to) (hne : B ≠ g) : Lb (W.setCell ⟨g, j, none⟩ x) B m op a b c i to := (Below.heap_setCell _ _ _ _ hne).trans h
end
set_option maxRecDepth 100000 in
set_option maxHeartbeats 2000000 in
theorem mark_any (x : Ln) (hs : x.mark.size ≤ 65536) (w : World) :
    Calls Tryz.prog 29 #[.agg (lnV x)] w fun e w' => e = .returned (.bool (markB x)) ∧ Below w.heap.size w w' := by
  obtain ⟨m, op, a, b, c, i, to⟩ := x
  unfold lnV
  have hs : m.size ≤ 65536 := hs
  have hr : Hid (∀ n z, nameB m = n → emB to = z → markB ⟨m, op, a, b, c, i, to⟩ = (n && z && (op == 0 && a == 0 && b == 0 && c == 0 && i == 0))) := by rintro n z rfl rfl; rfl
  have hB : Below w.heap.size w (w.alloc (.cells #[.string m, .int .i64 op, .int .i64 a, .int .i64 b, .int .i64 c, .int .i32 i, .string to] 37)) := (Below.refl _ w).alloc (Nat.le_refl _) _
  have he := em_list to
  go_enter Tryz.func29, Tryz.ntmps29
  cases hn : nameB m with
  | false =>
    go_wp2_with (go_at_call 56; refine (name_any _ (by assumption) _).mono ?_; rintro e w' ⟨rfl, rfl⟩)
    go_ret
    exact ⟨by rw [hr.out false _ hn rfl]; rfl, hB⟩
  | true =>
    cases hz : emB to with
    | false =>
      rw [hz] at he
      go_wp2_with (go_at_call 56; refine (name_any _ (by assumption) _).mono ?_; rintro e w' ⟨rfl, rfl⟩)
      go_ret
      exact ⟨by rw [hr.out true false hn hz]; rfl, hB⟩
    | true =>
      rw [hz] at he
      have hrr : Hid (markB ⟨m, op, a, b, c, i, to⟩ = (op == 0 && a == 0 && b == 0 && c == 0 && i == 0)) := by show _ = _; rw [hr.out true true hn hz]; rfl
      clear hz hr
      go_wp2_with (go_at_call 56; refine (name_any _ (by assumption) _).mono ?_; rintro e w' ⟨rfl, rfl⟩)
      all_goals (go_ret; refine ⟨?_, (Below.refl _ w).alloc (Nat.le_refl _) _⟩; rw [hrr.out]; simp [*])
set_option maxRecDepth 100000 in
set_option maxHeartbeats 2000000 in
theorem ins_any (x : Ln) (hs : x.to.size ≤ 65536) (hi0 : -2147483648 ≤ x.i) (hi1 : x.i < 2147483648) (w : World) :
    Calls Tryz.prog 30 #[.agg (lnV x)] w fun e w' => e = .returned (.bool (insB x)) ∧ Below w.heap.size w w' := by
  obtain ⟨m, op, a, b, c, i, to⟩ := x
  unfold lnV
  have hs : to.size ≤ 65536 := hs
  have hr : Hid (∀ z f y n g, emB m = z → Ins.fitB op a b c i = f → emB to = y → nameB to = n → goB op i = g → insB ⟨m, op, a, b, c, i, to⟩ = (z && f && (y || (n && g)))) := by rintro _ _ _ _ _ rfl rfl rfl rfl rfl; rfl
  have hB : Below w.heap.size w (w.alloc (.cells #[.string m, .int .i64 op, .int .i64 a, .int .i64 b, .int .i64 c, .int .i32 i, .string to] 37)) := (Below.refl _ w).alloc (Nat.le_refl _) _
  have he := em_list to
  have hm := em_list m
  obtain ⟨z, hz⟩ : ∃ z, emB m = z := ⟨_, rfl⟩
  obtain ⟨f, hf⟩ : ∃ f, Ins.fitB op a b c i = f := ⟨_, rfl⟩
  obtain ⟨y, hy⟩ : ∃ y, emB to = y := ⟨_, rfl⟩
  obtain ⟨n, hn⟩ : ∃ n, nameB to = n := ⟨_, rfl⟩
  obtain ⟨g, hg⟩ : ∃ g, goB op i = g := ⟨_, rfl⟩
  have hrr : Hid (insB ⟨m, op, a, b, c, i, to⟩ = (z && f && (y || (n && g)))) := hr.out z f y n g hz hf hy hn hg
  rw [hz] at hm
  rw [hy] at he
  clear hr hz hy
  go_enter Tryz.func30, Tryz.ntmps30
  have hL := Lb.new w m op a b c i to
  cases z with
  | false =>
    go_wp2
    go_ret
    exact ⟨by rw [hrr.out]; rfl, hB⟩
  | true =>
    cases f with
    | false =>
      go_wp2_with (go_at_call 43; refine (fit_any _ _ _ _ _ hi0 hi1 _).mono ?_; rintro e w' ⟨rfl, hb⟩)
      go_ret
      exact ⟨by rw [hrr.out]; rfl, hB.trans (hb.mono (by simp))⟩
    | true =>
      cases y with
      | true =>
        go_wp2_with (go_at_call 43; refine (fit_any _ _ _ _ _ hi0 hi1 _).mono ?_; rintro e w' ⟨rfl, hb⟩)
        go_ret
        exact ⟨by rw [hrr.out]; rfl, hB.trans (hb.mono (by simp))⟩
      | false =>
        cases n with
        | false =>
          go_wp2_with (first | (go_at_call 56; refine (name_any _ (by assumption) _).mono ?_; rintro e w2 ⟨rfl, rfl⟩) | (go_at_call 43; refine (fit_any _ _ _ _ _ hi0 hi1 _).mono ?_; rintro e w' ⟨rfl, hb⟩; obtain ⟨c0, c1, c2, c3, c4, c5, c6⟩ := (hL.next hb).cells))
          go_ret
          exact ⟨by rw [hrr.out]; rfl, hB.trans (hb.mono (by simp))⟩
        | true =>
          go_wp2_with (first | (go_at_call 56; refine (name_any _ (by assumption) _).mono ?_; rintro e w2 ⟨rfl, rfl⟩) | (go_at_call 43; refine (fit_any _ _ _ _ _ hi0 hi1 _).mono ?_; rintro e w' ⟨rfl, hb⟩; obtain ⟨c0, c1, c2, c3, c4, c5, c6⟩ := (hL.next hb).cells) | (go_at_call 57; refine (mayGo_any _ _ _ _ _ _).mono ?_; rintro e w3 ⟨rfl, hb2⟩))
          go_ret
          exact ⟨by rw [hrr.out]; simp, (hB.trans (hb.mono (by simp))).trans (hb2.mono (by have := hb.size; simp at this; omega))⟩
end Go.Proofs.YtnghendglcblkaaGreatDoor
