/-
  PROVED HERE: what package asm's iterator over the lines of a text hands out, for every loop body (a contract over this translation). Texts of at most 65536 bytes.
-/
import Derived.Test.YtnghendglcblkaaGreatDoorAsm14
namespace Go.Proofs.YtnghendglcblkaaGreatDoor
open Go.RowKit Go.Shelf
set_option linter.unusedVariables false
attribute [local go_sem] Oper.semAt_some
open Asm

/-- The byte that ends a line. -/
def nlB : ByteArray := ⟨#[10]⟩
def cutsF : Nat → ByteArray → List ByteArray
  | 0, _ => []
  | f + 1, r => if emB r then [] else c1 r nlB :: cutsF f (c2 r nlB)
/-- A text's lines. -/
def lns (s : ByteArray) : List ByteArray := cutsF s.size s
theorem cut_less {r : ByteArray} (h : emB r = false) : (c2 r nlB).size + 1 ≤ r.size ∧ (c1 r nlB).size + (c2 r nlB).size ≤ r.size := by
  have h0 : r.size ≠ 0 := by unfold emB at h; simpa using h
  unfold c1 c2
  rw [sb_size, sb_size]
  have hb := bl_len r
  unfold Lib.cut
  split
  · rw [List.length_drop, List.length_take]
    have : (bl nlB).length = 1 := rfl
    omega
  · show [].length + 1 ≤ _ ∧ _
    rw [List.length_nil]
    show _ ∧ (bl r).length + 0 ≤ _
    omega
theorem cuts_em {f : Nat} {r : ByteArray} (h : emB r = true) : cutsF f r = [] := by
  cases f with
  | zero => rfl
  | succ f => unfold cutsF; rw [if_pos h]
theorem cuts_step {f : Nat} {r : ByteArray} (h : emB r = false) (hf : r.size ≤ f) : ∃ g, cutsF f r = c1 r nlB :: cutsF g (c2 r nlB) ∧ (c2 r nlB).size ≤ g := by
  have h1 := (cut_less h).1
  cases f with
  | zero => omega
  | succ f => exact ⟨f, by conv => lhs; unfold cutsF; rw [if_neg (by rw [h]; simp)], by omega⟩
/-- The lines that are not empty, among the first k. -/
def neK (T : List ByteArray) (k : Nat) : List Nat := (List.range k).filter fun i => !emB (T.getD i ⟨#[]⟩)
theorem neK_hit {T : List ByteArray} {k : Nat} (h : emB (T.getD k ⟨#[]⟩) = false) : neK T (k + 1) = neK T k ++ [k] := by
  unfold neK; rw [List.range_succ, List.filter_append]; simp only [List.filter_cons, h, Bool.not_false, if_true, List.filter_nil]
theorem neK_miss {T : List ByteArray} {k : Nat} (h : emB (T.getD k ⟨#[]⟩) = true) : neK T (k + 1) = neK T k := by
  unfold neK; rw [List.range_succ, List.filter_append]; simp only [List.filter_cons, h, Bool.not_true, List.filter_nil, Bool.false_eq_true, if_false, List.append_nil]
theorem neK_pre {T : List ByteArray} {j k : Nat} (h : j ≤ k) : neK T j <+: neK T k := by
  induction k with
  | zero => have : j = 0 := by omega
            subst this; exact List.prefix_refl _
  | succ k ih =>
    by_cases hj : j = k + 1
    · subst hj; exact List.prefix_refl _
    · refine (ih (by omega)).trans ?_
      cases e : emB (T.getD k ⟨#[]⟩) with
      | false => rw [neK_hit e]; exact List.prefix_append _ _
      | true => rw [neK_miss e]; exact List.prefix_refl _
theorem neK_le (T : List ByteArray) (k : Nat) : (neK T k).length ≤ k := by
  unfold neK; exact Nat.le_trans (List.length_filter_le _ _) (by rw [List.length_range]; exact Nat.le_refl _)
def neN (T : List ByteArray) : Nat := (neK T T.length).length
/-- The place of the j-th line that is not empty, and its text. -/
def plcT (T : List ByteArray) (j : Nat) : Nat := (neK T T.length).getD j 0
def txtT (T : List ByteArray) (j : Nat) : ByteArray := T.getD (plcT T j) ⟨#[]⟩
theorem plcT_at {T : List ByteArray} {k : Nat} (hk : k < T.length) (h : emB (T.getD k ⟨#[]⟩) = false) : plcT T (neK T k).length = k := by
  have hp := neK_pre (T := T) (j := k + 1) (k := T.length) (by omega)
  rw [neK_hit h] at hp
  obtain ⟨t, ht⟩ := hp
  unfold plcT
  rw [← ht, List.getD_eq_getElem?_getD, List.append_assoc, List.getElem?_append_right (Nat.le_refl _)]
  simp
def encT (T : List ByteArray) (j : Nat) : Array Value := #[.int .i64 ((plcT T j : Nat) : Int), .string (txtT T j)]
theorem lines_any (s : ByteArray) (w : World) :
    Calls Tryz.prog 11 #[.string s] w fun e w' => e = .returned (.func (.func 24) #[] #[.pointer (some ⟨w.heap.size, 0, none⟩)]) ∧ w' = w.alloc (.cells #[.string s] 9) := by
  go_enter Tryz.func11, Tryz.ntmps11
  go_wp2
  go_ret
  exact ⟨rfl, rfl⟩
/-- The library's variable that a search asks holds a number. -/
def Mx (w : World) : Prop := ∃ m, w.cell? ⟨0, 0, none⟩ = some (.int .i64 m)
theorem Mx.keep {w w' : World} (h : Mx w) (hb : w'.heap[0]? = w.heap[0]?) : Mx w' := by
  obtain ⟨m, hm⟩ := h
  exact ⟨m, (World.cell?_of_block (w := w) (a := ⟨0, 0, none⟩) hb).trans hm⟩
theorem Mx.next {w w' : World} (h : Mx w) (hb : Below w.heap.size w w') : Mx w' := by
  obtain ⟨m, hm⟩ := h
  exact ⟨m, (hb.cell (World.block_lt_of_cell? _ _ hm)).trans hm⟩
theorem cut_mx (s sep : ByteArray) (w : World) (hs : s.size < 4294967281) (hv : Mx w) :
    Calls Tryz.prog 23 #[.string s, .string sep] w fun e w' => e = .returned (.tuple #[.string (c1 s sep), .string (c2 s sep), .bool (cB s sep)]) ∧ Below w.heap.size w w' := by
  obtain ⟨m, hm⟩ := hv
  refine (Tryz.strings_Cut s sep m w hs hm).mono ?_
  rintro e w' ⟨rfl, n, rfl⟩
  exact ⟨rfl, below_drewN w n⟩
def sizeV : Value → Nat
  | .string s => s.size
  | _ => 0
set_option maxRecDepth 100000 in
set_option maxHeartbeats 1000000 in
theorem lines1_in (N : Nat) (hn1 : 1 ≤ N) (yl Bl : Nat) (s : ByteArray) (hs : s.size ≤ 65536) (J Jx : List Nat → World → Prop)
    (hY : ∀ pre x W, J pre W → pre.length < neN (lns s) → YieldAt Fence.wide (N - 1) Tryz.prog yl (encT (lns s) x) W fun e W' =>
      (e = .returned (.bool true) ∧ J (pre ++ [x]) W' ∧ Keeps (fun b => b = Bl ∨ b = 0) W W') ∨ (e = .returned (.bool false) ∧ Jx (pre ++ [x]) W'))
    (W : World) (hJ : AbidesFrom W.heap.size J) (hMx : Mx W) (hBl : Boxed W Bl 9 (.string s)) (h0 : J [] W) :
    CallsIn Fence.wide N Tryz.prog 24 #[.func (.yield yl) #[] #[], .pointer (some ⟨Bl, 0, none⟩)] W fun e W' => (∃ v, e = .returned v) ∧
      ((∃ ys, ys = List.range (neN (lns s)) ∧ J ys W') ∨ (∃ pre, pre <+: List.range (neN (lns s)) ∧ Jx pre W')) := by
  have cl := hBl.cell
  have hT : Hid (cutsF s.size s = (lns s).drop 0) := rfl
  have hnN : Hid (neN (lns s) = (neK (lns s) (lns s).length).length) := rfl
  have hEn : Hid (∀ k t, k < (lns s).length → (lns s).getD k ⟨#[]⟩ = t → emB t = false → encT (lns s) (neK (lns s) k).length = #[.int .i64 (k : Int), .string t]) := fun k t hk ht he => by
    have h1 : plcT (lns s) (neK (lns s) k).length = k := plcT_at hk (by rw [ht]; exact he)
    unfold encT txtT
    rw [h1, ht]
  revert hT hnN hEn hY
  generalize lns s = T
  intro hY hT hnN hEn
  refine callsIn_of_wp Tryz.func24 rfl trivial ?_ rfl
  simp only [Tryz.ntmps24, List.size_toArray, List.length_cons, List.length_nil, Nat.reduceAdd, Nat.reduceSub, Array.replicate_succ, Array.replicate_zero, List.push_toArray, List.append_toArray, List.nil_append, List.cons_append]
  gi_wp2
  gi_loopw [3, 4] (fun vr vl wr => ∃ (k f : Nat) (r : ByteArray), vr = .string r ∧ vl = .int .i64 k ∧ r.size + k ≤ 65536 ∧ r.size ≤ f ∧ Hid (cutsF f r = T.drop k) ∧ Hid (k ≤ T.length) ∧ Boxed wr Bl 9 (.string s) ∧ Mx wr ∧ J (List.range (neK T k).length) wr ∧ W.heap.size ≤ wr.heap.size) (fun vr _ _ => sizeV vr)
  case atStart => exact ⟨0, s.size, s, rfl, rfl, by omega, Nat.le_refl _, hT, Nat.zero_le _, hBl, hMx, h0, Nat.le_refl _⟩
  case round =>
    obtain ⟨k, f, r, rfl, rfl, hrk, hrf, hdr, hkT, bl, hmx, hJk, hsz2⟩ := hrel
    have he := em_list r
    cases hem : emB r with
    | true =>
      rw [hem] at he
      have hkl : Hid (k = T.length) := by
        show k = T.length
        have h1 := hdr.out
        rw [cuts_em hem] at h1
        have h2 := congrArg List.length h1
        rw [List.length_drop, List.length_nil] at h2
        have := hkT.out
        omega
      clear hem
      gi_wp2
      go_end0
      exact ⟨⟨_, rfl⟩, .inl ⟨_, by rw [hnN.out, ← hkl.out], hJk⟩⟩
    | false =>
      rw [hem] at he
      obtain ⟨g, hg, hgs⟩ := cuts_step hem hrf
      have hcl := cut_less hem
      have hdr2 : Hid (T.drop k = c1 r nlB :: cutsF g (c2 r nlB)) := by show _ = _; rw [← hdr.out, hg]
      have hkl : Hid (k < T.length) := by
        show k < T.length
        have h2 := congrArg List.length hdr2.out
        rw [List.length_drop, List.length_cons] at h2
        omega
      have hd1 : Hid (T.getD k ⟨#[]⟩ = c1 r nlB) := by
        show _ = _
        have h1 := hdr2.out
        rw [List.drop_eq_getElem_cons hkl.out] at h1
        rw [List.getD_eq_getElem?_getD, List.getElem?_eq_getElem hkl.out]
        exact (List.cons.inj h1).1
      have hd2 : Hid (cutsF g (c2 r nlB) = T.drop (k + 1)) := by
        show _ = _
        have h1 := hdr2.out
        rw [List.drop_eq_getElem_cons hkl.out] at h1
        exact (List.cons.inj h1).2.symm
      have hct := cut_mx r ⟨#[10]⟩ wr (by omega) hmx
      have hct : Calls Tryz.prog 23 #[.string r, .string ⟨#[10]⟩] wr fun e w' => e = .returned (.tuple #[.string (c1 r nlB), .string (c2 r nlB), .bool (cB r nlB)]) ∧ Below wr.heap.size wr w' := hct
      obtain ⟨t1, ht1⟩ : ∃ t1, c1 r nlB = t1 := ⟨_, rfl⟩
      obtain ⟨r1, hr1⟩ : ∃ r1, c2 r nlB = r1 := ⟨_, rfl⟩
      rw [ht1, hr1] at hct hcl
      rw [ht1] at hd1
      rw [hr1] at hd2 hgs
      clear ht1 hr1 hg hdr hdr2 hem
      have he1 := em_list t1
      cases hem1 : emB t1 with
      | true =>
        rw [hem1] at he1
        have hne : Hid ((neK T (k + 1)).length = (neK T k).length) := by show _ = _; rw [neK_miss (by rw [hd1.out]; exact hem1)]
        clear hem1
        gi_wp2_with (refine ⟨trivial, ?_⟩; gi_at_call 23; refine (callsIn_wide.2 hct).mono ?_; rintro e w2 ⟨rfl, hb2⟩)
        refine ⟨fun f e => (by cases e), ?_⟩
        gi_wp2
        go_roundw
        case rel => exact ⟨k + 1, g, r1, rfl, by simp, by omega, hgs, hd2, hkl.out, Boxed.next bl hb2, hmx.next hb2, by rw [hne.out]; exact hJ _ wr w2 none hJk (below_grown hb2) (fun r e => by cases e), Nat.le_trans hsz2 hb2.size⟩
        case measure => show r1.size < r.size; omega
      | false =>
        rw [hem1] at he1
        have hne : Hid (neK T (k + 1) = neK T k ++ [k]) := neK_hit (by rw [hd1.out]; exact hem1)
        have hlt : Hid ((neK T k).length + 1 ≤ neN T) := by
          show _ ≤ _
          have h1 := (neK_pre (T := T) (j := k + 1) (k := T.length) hkl.out).length_le
          rw [hne.out, List.length_append] at h1
          rw [hnN.out]; exact h1
        have hen := hEn.out k t1 hkl.out hd1.out hem1
        have hYk := hY (List.range (neK T k).length) (neK T k).length
        rw [hen] at hYk
        clear hem1 hen
        gi_wp2_with (first | (refine ⟨trivial, ?_⟩; gi_at_call 23; refine (callsIn_wide.2 hct).mono ?_; rintro e w2 ⟨rfl, hb2⟩; have hJ2 := hJ _ wr w2 none hJk (below_grown hb2) (fun r e => by cases e); obtain ⟨fn, tmps, assign, body, hyy, hR⟩ := hYk w2 hJ2 (by rw [List.length_range]; exact hlt.out)))
        refine hR.mono ?_
        rintro e W3 (⟨rfl, hJ4, hk3⟩ | ⟨rfl, hJx3⟩)
        · gi_wp2
          go_roundw
          case rel => exact ⟨k + 1, g, r1, rfl, by simp, by omega, hgs, hd2, hkl.out, (hk3.2 Bl (.inl rfl)).trans (Boxed.next bl hb2), (hmx.next hb2).keep (hk3.2 _ (.inr rfl)), by rw [hne.out, List.length_append, List.length_singleton, List.range_succ]; exact hJ4, Nat.le_trans (Nat.le_trans hsz2 hb2.size) hk3.1.size⟩
          case measure => show r1.size < r.size; omega
        · gi_wp2
          refine bodyPost_ret (results_none rfl _ _ _) rfl ?_
          exact ⟨⟨_, rfl⟩, .inr ⟨_, by rw [← List.range_succ]; exact range_pre hlt.out, hJx3⟩⟩
theorem lines_stops (N : Nat) (hn1 : 1 ≤ N) (Bl : Nat) (s : ByteArray) (hs : s.size ≤ 65536) (w : World) (hMx : Mx w) (hBl : Boxed w Bl 9 (.string s)) :
    SeqStopsK Fence.wide N Tryz.prog 24 #[.pointer (some ⟨Bl, 0, none⟩)] (encT (lns s)) (Keeps (fun b => b = Bl ∨ b = 0)) (fun ys => ys = List.range (neN (lns s))) (fun pre => pre <+: List.range (neN (lns s))) (neN (lns s)) w := fun yl J Jx W hW hJ _ hY h0 =>
  lines1_in N hn1 yl Bl s hs J Jx hY W hJ (hMx.next hW) (Boxed.next hBl hW) h0
end Go.Proofs.YtnghendglcblkaaGreatDoor
