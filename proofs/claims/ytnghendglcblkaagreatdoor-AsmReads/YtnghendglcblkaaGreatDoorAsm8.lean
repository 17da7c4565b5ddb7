/-
  PROVED HERE: what package asm's iterator over the instructions of lines hands out, for every loop body (a contract over this translation). At most 65536 lines.
-/
import Derived.Test.YtnghendglcblkaaGreatDoorAsm7
namespace Go.Proofs.YtnghendglcblkaaGreatDoor
open Go.RowKit Go.Shelf
set_option linter.unusedVariables false
attribute [local go_sem] Oper.semAt_some
open Asm

/-- The lines that are instructions, among the first k. -/
def insK (l : List Ln) (k : Nat) : List Nat := (List.range k).filter fun i => emB (l.getD i default).mark
theorem insK_hit {l : List Ln} {k : Nat} (h : emB (l.getD k default).mark = true) : insK l (k + 1) = insK l k ++ [k] := by
  unfold insK; rw [List.range_succ, List.filter_append]; simp only [List.filter_cons, h, if_true, List.filter_nil]
theorem insK_miss {l : List Ln} {k : Nat} (h : emB (l.getD k default).mark = false) : insK l (k + 1) = insK l k := by
  unfold insK; rw [List.range_succ, List.filter_append]; simp only [List.filter_cons, h, List.filter_nil, Bool.false_eq_true, if_false, List.append_nil]
theorem insK_len {l : List Ln} : ∀ {k : Nat}, k ≤ l.length → (insK l k).length = cnt (l.take k)
  | 0, _ => rfl
  | k + 1, h => by
    have ih := insK_len (l := l) (k := k) (by omega)
    cases e : emB (l.getD k default).mark with
    | true => rw [insK_hit e, cnt_hit (by omega) e, List.length_append, ih]; rfl
    | false => rw [insK_miss e, cnt_miss (by omega) e, ih]
theorem insK_pre {l : List Ln} {j k : Nat} (h : j ≤ k) : insK l j <+: insK l k := by
  induction k with
  | zero => have : j = 0 := by omega
            subst this; exact List.prefix_refl _
  | succ k ih =>
    by_cases hj : j = k + 1
    · subst hj; exact List.prefix_refl _
    · refine (ih (by omega)).trans ?_
      cases e : emB (l.getD k default).mark with
      | true => rw [insK_hit e]; exact List.prefix_append _ _
      | false => rw [insK_miss e]; exact List.prefix_refl _
def insL (l : List Ln) : List Nat := insK l l.length
theorem insL_len (l : List Ln) : (insL l).length = cnt l := by
  have := insK_len (l := l) (Nat.le_refl _)
  rwa [List.take_length] at this
/-- The line of the j-th instruction. -/
def lineOf (l : List Ln) (j : Nat) : Nat := (insL l).getD j 0
theorem lineOf_at {l : List Ln} {k : Nat} (hk : k < l.length) (h : emB (l.getD k default).mark = true) : lineOf l (cnt (l.take k)) = k := by
  have hp := insK_pre (l := l) (j := k + 1) (k := l.length) (by omega)
  rw [insK_hit h] at hp
  obtain ⟨t, ht⟩ := hp
  unfold lineOf insL
  rw [← ht, ← insK_len (l := l) (by omega), List.getD_eq_getElem?_getD, List.append_assoc, List.getElem?_append_right (Nat.le_refl _)]
  simp
theorem lineOf_lt {l : List Ln} {j : Nat} (h : 0 < l.length) : lineOf l j < l.length := by
  unfold lineOf
  rw [List.getD_eq_getElem?_getD]
  cases hq : (insL l)[j]? with
  | none => exact h
  | some x =>
    have hm := List.mem_of_getElem? hq
    unfold insL insK at hm
    have := List.mem_filter.1 hm
    exact List.mem_range.1 this.1
def plcOf (l : List Ln) (j : Nat) : Nat := min j l.length
def encL (l : List Ln) (j : Nat) : Array Value := #[.int .i64 ((plcOf l j : Nat) : Int), .int .i64 ((lineOf l j : Nat) : Int)]

theorem instr_any (ao : Option Addr) (n cap : Nat) (w : World) :
    Calls Tryz.prog 16 #[.slice ao n cap] w fun e w' => e = .returned (.func (.func 41) #[] #[.pointer (some ⟨w.heap.size, 0, none⟩)]) ∧ w' = w.alloc (.cells #[.slice ao n cap] 23) := by
  go_enter Tryz.func16, Tryz.ntmps16
  go_wp2
  go_ret
  exact ⟨rfl, rfl⟩
set_option maxRecDepth 100000 in
set_option maxHeartbeats 1000000 in
theorem instr1_in (N : Nat) (hn1 : 1 ≤ N) (yl Bl C : Nat) (ao : Option Addr) (n cap : Nat) (hn : n ≤ 65536) (l : List Ln) (J Jx : List Nat → World → Prop)
    (hY : ∀ pre x W, J pre W → pre.length < cnt l → YieldAt Fence.wide (N - 1) Tryz.prog yl (encL l x) W fun e W' =>
      (e = .returned (.bool true) ∧ J (pre ++ [x]) W' ∧ Keeps (fun b => b = Bl ∨ b < C) W W') ∨ (e = .returned (.bool false) ∧ Jx (pre ++ [x]) W'))
    (W : World) (hJ : AbidesFrom W.heap.size J) (hBl : Boxed W Bl 23 (.slice ao n cap)) (hL : Lns C W ao n cap l) (hC : C ≤ W.heap.size) (h0 : J [] W) :
    CallsIn Fence.wide N Tryz.prog 41 #[.func (.yield yl) #[] #[], .pointer (some ⟨Bl, 0, none⟩)] W fun e W' => (∃ v, e = .returned v) ∧
      ((∃ ys, ys = List.range (cnt l) ∧ J ys W') ∨ (∃ pre, pre <+: List.range (cnt l) ∧ Jx pre W')) := by
  have hlen : Hid (l.length = n) := hL.1
  have cl := hBl.cell
  refine callsIn_of_wp Tryz.func41 rfl trivial ?_ rfl
  simp only [Tryz.ntmps41, List.size_toArray, List.length_cons, List.length_nil, Nat.reduceAdd, Nat.reduceSub, Array.replicate_succ, Array.replicate_zero, List.push_toArray, List.append_toArray, List.nil_append, List.cons_append]
  gi_wp2
  gi_loopw [3, 8] (fun vp vi wr => ∃ k c : Nat, k ≤ n ∧ c ≤ k ∧ vi = .int .i64 k ∧ vp = .int .i64 c ∧ Hid (cnt (l.take k) = c) ∧ Boxed wr Bl 23 (.slice ao n cap) ∧ Lns C wr ao n cap l ∧ J (List.range c) wr ∧ W.heap.size ≤ wr.heap.size) (fun _ vi _ => n - (intOf vi).toNat)
  case atStart => exact ⟨0, 0, Nat.zero_le _, Nat.le_refl _, rfl, rfl, rfl, hBl, hL, h0, Nat.le_refl _⟩
  case round =>
    obtain ⟨k, cc, hk, hck, rfl, rfl, hct, bl, hl2, hJk, hsz2⟩ := hrel
    by_cases hks : k < n
    · obtain ⟨b, off, m', op, a, b', c, i', to, rfl, hb, hx, c0, c1, c2, c3, c4, c5, c6⟩ := LnsD.at hl2 hks
      have hkl : Hid (k < l.length) := by show k < l.length; rw [hlen.out]; exact hks
      have he := em_list m'
      have hJ2 := hJ _ wr _ none hJk (World.grownBy_alloc wr (.cells #[.string m', .int .i64 op, .int .i64 a, .int .i64 b', .int .i64 c, .int .i32 i', .string to] 37) none) (fun r e => by cases e)
      have bl2 : Boxed (wr.alloc (.cells #[.string m', .int .i64 op, .int .i64 a, .int .i64 b', .int .i64 c, .int .i32 i', .string to] 37)) Bl 23 (.slice (some ⟨b, off, none⟩) n cap) := bl.alloc _
      have hl3 : Lns C (wr.alloc (.cells #[.string m', .int .i64 op, .int .i64 a, .int .i64 b', .int .i64 c, .int .i32 i', .string to] 37)) (some ⟨b, off, none⟩) n cap l := hl2.later ((Below.refl C wr).alloc (Nat.le_trans hC hsz2) _)
      have hz3 : W.heap.size ≤ (wr.alloc (.cells #[.string m', .int .i64 op, .int .i64 a, .int .i64 b', .int .i64 c, .int .i32 i', .string to] 37)).heap.size := by simp; omega
      cases hem : emB m' with
      | false =>
        rw [hem] at he
        have hc2 : Hid (cnt (l.take (k + 1)) = cc) := by show _ = _; rw [cnt_miss hkl.out (by rw [hx.out]; exact hem), hct.out]
        clear hem
        gi_wp2
        go_roundw
        case rel => exact ⟨k + 1, cc, by omega, by omega, by simp, rfl, hc2, bl2, hl3, hJ2, hz3⟩
        case measure => simp [intOf]; omega
      | true =>
        rw [hem] at he
        have hc2 : Hid (cnt (l.take (k + 1)) = cc + 1) := by show _ = _; rw [cnt_hit hkl.out (by rw [hx.out]; exact hem), hct.out]
        have hli : lineOf l cc = k := by rw [← hct.out]; exact lineOf_at hkl.out (by rw [hx.out]; exact hem)
        have hpl : plcOf l cc = cc := Nat.min_eq_left (by rw [hlen.out]; omega)
        have hcl : cc + 1 ≤ cnt l := by
          have h1 := insK_pre (l := l) (j := k + 1) (k := l.length) hkl.out
          have h2 := h1.length_le
          rw [insK_len hkl.out, hc2.out, insK_len (Nat.le_refl _), List.take_length] at h2
          exact h2
        obtain ⟨fn, tmps, assign, body, hyy, hR⟩ := hY (List.range cc) cc _ hJ2 (by rw [List.length_range]; omega)
        dsimp only [encL] at hyy
        rw [hli, hpl] at hyy
        clear hli hpl hem
        gi_wp2
        refine hR.mono ?_
        rintro e W3 (⟨rfl, hJ4, hk3⟩ | ⟨rfl, hJx3⟩)
        · gi_wp2
          go_roundw
          case rel => exact ⟨k + 1, cc + 1, by omega, by omega, by simp, by simp, hc2, (hk3.2 Bl (.inl rfl)).trans bl2, LnsD.laterK hl3 (fun b hb => hk3.2 b (.inr hb)), by rw [List.range_succ]; exact hJ4, Nat.le_trans hz3 hk3.1.size⟩
          case measure => simp [intOf]; omega
        · gi_wp2
          refine bodyPost_ret (results_none rfl _ _ _) rfl ?_
          exact ⟨⟨_, rfl⟩, .inr ⟨_, by rw [← List.range_succ]; exact range_pre (by omega), hJx3⟩⟩
    · obtain rfl : k = n := by omega
      have hcl : Hid (cnt l = cc) := by show _ = _; have := hct.out; rw [← hlen.out, List.take_length] at this; exact this
      gi_wp2
      go_end0
      exact ⟨⟨_, rfl⟩, .inl ⟨_, by rw [hcl.out], hJk⟩⟩
theorem instr_stops (N : Nat) (hn1 : 1 ≤ N) (Bl C : Nat) (ao : Option Addr) (n cap : Nat) (hn : n ≤ 65536) (l : List Ln) (w : World) (hBl : Boxed w Bl 23 (.slice ao n cap)) (hL : Lns C w ao n cap l) (hC : C ≤ w.heap.size) :
    SeqStopsK Fence.wide N Tryz.prog 41 #[.pointer (some ⟨Bl, 0, none⟩)] (encL l) (Keeps (fun b => b = Bl ∨ b < C)) (fun ys => ys = List.range (cnt l)) (fun pre => pre <+: List.range (cnt l)) (cnt l) w := fun yl J Jx W hW hJ _ hY h0 =>
  instr1_in N hn1 yl Bl C ao n cap hn l J Jx hY W hJ (Boxed.next hBl hW) (hL.later (hW.mono hC)) (Nat.le_trans hC hW.size) h0
end Go.Proofs.YtnghendglcblkaaGreatDoor
