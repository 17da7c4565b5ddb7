/-
  PROVED HERE: a row of lines, or of words, that the call has made itself, with lines, or words, appended to it (over this translation). At most 65536 of them.
-/
import Derived.Test.YtnghendglcblkaaGreatDoorAsmFew
import Derived.Laws.AppendOwnNone
namespace Go.Proofs.YtnghendglcblkaaGreatDoor
open Go.RowKit Go.Shelf
set_option linter.unusedVariables false
open Asm

theorem lnV_size (x : Ln) : (lnV x).size = 7 := rfl
theorem lnC_inv {l : List Ln} {j : Nat} {u : Value} (h : (lnC l)[j]? = some u) : j / 7 < l.length ∧ (lnV (l.getD (j / 7) default))[j % 7]? = some u := by
  have hj := (List.getElem?_eq_some_iff.1 h).1
  rw [lnC_len] at hj
  have h1 : j / 7 < l.length := by omega
  refine ⟨h1, ?_⟩
  have h2 : j % 7 < (lnV (l.getD (j / 7) default)).size := by rw [lnV_size]; omega
  have h3 := lnC_at h1 (Array.getElem?_eq_getElem h2)
  rw [show j / 7 * 7 + j % 7 = j by omega, h] at h3
  rw [Array.getElem?_eq_getElem h2]; exact h3.symm
theorem lnC_one (l : List Ln) : ∀ u ∈ lnC l, u.oneCell' = true := by
  intro u hu
  obtain ⟨x, _, hx⟩ := List.mem_flatMap.1 hu
  simp [lnV] at hx
  rcases hx with rfl | rfl | rfl | rfl | rfl | rfl | rfl <;> rfl
theorem lnC_app (l m : List Ln) : lnC (l ++ m) = lnC l ++ lnC m := List.flatMap_append
theorem Lns.cells {B : Nat} {w : World} {a : Addr} {n cap : Nat} {l : List Ln} (h : Lns B w (some a) n cap l) : ∀ (j : Nat) (u : Value), (lnC l)[j]? = some u → w.cell? (a.add j) = some u := by
  intro j u hu
  obtain ⟨h1, h2⟩ := lnC_inv hu
  obtain ⟨hl, _, _, h4⟩ := h
  obtain ⟨b, off, e, _, hc⟩ := h4 (by omega)
  cases e
  have := hc (j / 7) (by omega) (j % 7) u h2
  have e : (⟨b, off, none⟩ : Addr).add j = ⟨b, off + j / 7 * 7 + j % 7, none⟩ := by
    unfold Addr.add
    split
    · rename_i h0; subst h0; rfl
    · have e2 : off + j = off + j / 7 * 7 + j % 7 := by omega
      simp only [e2]
  rw [e]; exact this
theorem Wds.cells {B : Nat} {w : World} {a : Addr} {n cap : Nat} {ws : List Int} (h : Wds B w (some a) n cap ws) : ∀ (j : Nat) (u : Value), (wV ws)[j]? = some u → w.cell? (a.add j) = some u := by
  intro j u hu
  unfold wV at hu
  rw [List.getElem?_map] at hu
  obtain ⟨x, hx, rfl⟩ := Option.map_eq_some_iff.1 hu
  have hj := (List.getElem?_eq_some_iff.1 hx).1
  obtain ⟨hl, _, _, h4⟩ := h
  obtain ⟨b, off, e, _, hc⟩ := h4 (by omega)
  cases e
  have := hc j (by omega)
  rw [List.getD_eq_getElem?_getD, hx] at this
  have e : (⟨b, off, none⟩ : Addr).add j = ⟨b, off + j, none⟩ := by
    unfold Addr.add
    split
    · rename_i h0; subst h0; rfl
    · rfl
  rw [e]; exact this
theorem wV_one (ws : List Int) : ∀ u ∈ wV ws, u.oneCell' = true := by
  intro u hu
  obtain ⟨x, _, rfl⟩ := List.mem_map.1 hu
  rfl
theorem putE_le (l : List Ln) : putE l ≤ 13 := by
  have key : ∀ (f : List Ln → Ln → Nat), (∀ q x, f q x ≤ 13) → ∀ (l pre : List Ln), (scan f pre l).2 ≤ 13 := by
    intro f hf l
    induction l with
    | nil => intro pre; exact Nat.zero_le _
    | cons x l ih =>
      intro pre
      unfold scan
      split
      · exact ih _
      · exact hf _ _
  have h1 : ∀ q x, bad1 q x ≤ 13 := by intro q x; unfold bad1; repeat' split
                                       all_goals omega
  have h2 : ∀ q x, bad2 l q x ≤ 13 := by intro q x; unfold bad2 err2; repeat' split
                                         all_goals omega
  unfold putE put
  split
  · exact key _ h1 _ _
  · split
    · exact key _ h2 _ _
    · exact Nat.zero_le _
theorem word_64 (op a b c i : Int) : 0 ≤ Ins.wordI op a b c i ∧ Ins.wordI op a b c i < 18446744073709551616 := by
  unfold Ins.wordI
  split
  · rename_i h
    obtain ⟨h1, h2, h3, h4⟩ := Ins.fit_bounds h
    exact Ins.enc_bounds h1 h2 h3 h4
  · omega
theorem wds_64 (l : List Ln) : ∀ (r : List Ln) (p : Nat), W64 (wds l r p)
  | [], p => fun x hx => by cases hx
  | y :: r, p => fun x hx => by
    unfold wds at hx
    split at hx
    · rcases List.mem_cons.1 hx with rfl | hx
      · exact word_64 _ _ _ _ _
      · exact wds_64 l r _ x hx
    · exact wds_64 l r _ x hx
theorem putW_64 (l : List Ln) : W64 (putW l) := by
  by_cases h : putE l = 0
  · rw [(put_zero h).2.2.1]; exact wds_64 _ _ _
  · rw [put_err h]; intro x hx; cases hx
theorem putW_len (l : List Ln) : (putW l).length ≤ l.length := by
  by_cases h : putE l = 0
  · rw [(put_zero h).2.2.1, wds_length]; exact cnt_le l
  · rw [put_err h]; exact Nat.zero_le _
theorem lnW_size {x : Int} (h : 0 ≤ x ∧ x < 18446744073709551616) : (lnW x).size ≤ 100 := by
  unfold lnW
  rw [ByteArray.size_append]
  show _ + 1 ≤ _
  split
  · have := txS_size' x h.1 h.2; omega
  · show 1 + 1 ≤ 100; omega
theorem lstL_len : ∀ {ws : List Int}, W64 ws → (lstL ws).length ≤ 100 * ws.length
  | [], _ => Nat.le_refl _
  | x :: ws, h => by
    have h1 := lnW_size (h x (by simp))
    have h2 := lstL_len (ws := ws) (fun y hy => h y (by simp [hy]))
    show ((lnW x).data.toList ++ lstL ws).length ≤ _
    rw [List.length_append, size_list, List.length_cons]
    omega
theorem lst_app (a b : List Int) : lstS (a ++ b) = lstS a ++ lstS b := by
  refine ba_ext ?_
  rw [app_list]
  show lstL (a ++ b) = lstL a ++ lstL b
  unfold lstL
  rw [List.flatMap_append]
theorem lstS_size {ws : List Int} (h : W64 ws) : (lstS ws).size ≤ 100 * ws.length := by rw [← size_list]; exact lstL_len h
theorem okl_app {l m : List Ln} (h : Okl l) (k : Okl m) : Okl (l ++ m) := fun x hx => (List.mem_append.1 hx).elim (h x) (k x)
theorem grownBy_refl (w : World) (r : Option Nat) : w.grownBy w r := ⟨rfl, rfl, rfl, Nat.le_refl _, fun _ _ _ => rfl⟩
theorem row_empty (W : World) : (W.alloc (.cells #[] 37)).ownsRow W.heap.size 37 7 (.slice (some ⟨W.heap.size, 0, none⟩) 0 0) ([] : List Ln).length (lnC []) :=
  ⟨rfl, .inr ⟨W.heap.size, 0, #[], rfl, Nat.le_refl _, World.alloc_heap_new W _, Nat.le_refl _, Nat.zero_le _, rfl, rfl⟩⟩
theorem row_empty8 (W : World) : (W.alloc (.cells #[] 55)).ownsRow W.heap.size 55 1 (.slice (some ⟨W.heap.size, 0, none⟩) 0 0) ([] : List Int).length (wV []) :=
  ⟨rfl, .inr ⟨W.heap.size, 0, #[], rfl, Nat.le_refl _, World.alloc_heap_new W _, Nat.le_refl _, Nat.zero_le _, rfl, rfl⟩⟩
section
variable {ops : Array Oper} {rest : List Oper} {o : Oper} {a : Act} {Q : Exit → Act → World → Prop} {w : World}
theorem wpList_append_lns (hgd : o.guard = none) (s x : Operand) (ho : o.op = .call { callee := .builtin .append, args := #[s, x], argTypes := #[23, 23] })
    (base : Nat) (v : Value) (l' : List Ln) (hs : a.eval s = v) (hown : w.ownsRow base 37 7 v l'.length (lnC l')) (B : Nat) (ao : Option Addr) (n cap : Nat) (l : List Ln) (hx : a.eval x = .slice ao n cap) (hL : Lns B w ao n cap l) (hb : l'.length + n ≤ 65536) (hbase : base ≤ w.heap.size)
    (h : ∀ v' w', w'.ownsRow base 37 7 v' (l' ++ l).length (lnC (l' ++ l)) → w.grownBy w' v.ownBlock → wpList Tryz.prog ops Q rest (a.put o.dst v') w') : wpList Tryz.prog ops Q (o :: rest) a w := by
  obtain ⟨i0, hi, hz0, hz1, hz2⟩ := info_parts infoLine
  have hlen := hL.1
  cases ao with
  | none =>
    have h0 := hL.2.2.1.2 rfl
    have hn0 : n = 0 := by have := hL.2.1; omega
    subst hn0
    have hl : l = [] := List.eq_nil_of_length_eq_zero hlen
    subst hl
    subst h0
    refine wpList_append_own_none hgd s x 23 ho base 37 i0 7 Tryz.underlying23 hi v _ _ hs hown hx ?_
    exact h v w (by simpa using hown) (grownBy_refl _ _)
  | some ad =>
    refine wpList_append_own w hgd s x 23 ho base 37 i0 (.agg #[.string ⟨#[]⟩, .int .i64 0, .int .i64 0, .int .i64 0, .int .i64 0, .int .i32 0, .string ⟨#[]⟩]) 7 72 Tryz.underlying23 hi hz0 hz1 hz2 rfl (by decide) v _ _ hs hown ad n cap (lnC l) hx (by rw [lnC_len, hlen]) hL.cells (lnC_one l) (by unfold maxLen; omega) (by omega) hbase ?_
    intro v' w' h1 h2 _
    exact h v' w' (by rw [List.length_append, lnC_app, hlen]; exact h1) h2
theorem wpList_append_wds (hgd : o.guard = none) (s x : Operand) (ho : o.op = .call { callee := .builtin .append, args := #[s, x], argTypes := #[31, 31] })
    (base : Nat) (v : Value) (l' : List Int) (hs : a.eval s = v) (hown : w.ownsRow base 55 1 v l'.length (wV l')) (B : Nat) (ao : Option Addr) (n cap : Nat) (l : List Int) (hx : a.eval x = .slice ao n cap) (hL : Wds B w ao n cap l) (hb : l'.length + n ≤ 65536) (hbase : base ≤ w.heap.size)
    (h : ∀ v' w', w'.ownsRow base 55 1 v' (l' ++ l).length (wV (l' ++ l)) → w.grownBy w' v.ownBlock → wpList Tryz.prog ops Q rest (a.put o.dst v') w') : wpList Tryz.prog ops Q (o :: rest) a w := by
  obtain ⟨i0, hi, hz0, hz1, hz2⟩ := info_parts infoU64
  have hlen := hL.1
  cases ao with
  | none =>
    have h0 := hL.2.2.1.2 rfl
    have hn0 : n = 0 := by have := hL.2.1; omega
    subst hn0
    have hl : l = [] := List.eq_nil_of_length_eq_zero hlen
    subst hl
    subst h0
    refine wpList_append_own_none hgd s x 31 ho base 55 i0 1 Tryz.underlying31 hi v _ _ hs hown hx ?_
    exact h v w (by simpa using hown) (grownBy_refl _ _)
  | some ad =>
    refine wpList_append_own w hgd s x 31 ho base 55 i0 (.int .u64 0) 1 8 Tryz.underlying31 hi hz0 hz1 hz2 rfl (by decide) v _ _ hs hown ad n cap (wV l) hx (by unfold wV; rw [List.length_map, hlen]; omega) hL.cells (wV_one l) (by unfold maxLen; omega) (by omega) hbase ?_
    intro v' w' h1 h2 _
    exact h v' w' (by rw [List.length_append, hlen]; unfold wV at *; rw [List.map_append]; exact h1) h2
theorem wpList_append_wdsG (hw : Region.wanted o (yielded ops a.tmps) = true) (s x : Operand) (ho : o.op = .call { callee := .builtin .append, args := #[s, x], argTypes := #[31, 31] })
    (base : Nat) (v : Value) (l' : List Int) (hs : a.eval s = v) (hown : w.ownsRow base 55 1 v l'.length (wV l')) (B : Nat) (ao : Option Addr) (n cap : Nat) (l : List Int) (hx : a.eval x = .slice ao n cap) (hL : Wds B w ao n cap l) (hb : l'.length + n ≤ 65536) (hbase : base ≤ w.heap.size)
    (h : ∀ v' w', w'.ownsRow base 55 1 v' (l' ++ l).length (wV (l' ++ l)) → w.grownBy w' v.ownBlock → wpList Tryz.prog ops Q rest (a.put o.dst v') w') : wpList Tryz.prog ops Q (o :: rest) a w := by
  obtain ⟨i0, hi, hz0, hz1, hz2⟩ := info_parts infoU64
  have hlen := hL.1
  refine wpList_step fun K hK => ?_
  rw [if_pos hw]
  cases ao with
  | none =>
    have h0 := hL.2.2.1.2 rfl
    have hn0 : n = 0 := by have := hL.2.1; omega
    subst hn0
    have hl : l = [] := List.eq_nil_of_length_eq_zero hlen
    subst hl
    subst h0
    have hrun := run_append_owned_none (P := Tryz.prog) (w := w) base 31 o.type 55 i0 1 Tryz.underlying31 hi v _ _ hown
    unfold Oper.wp
    simp [execOp, ho, resolve, invoke, builtin, hs, hx, hrun, Result.andThen]
    exact hK _ _ (h v w (by simpa using hown) (grownBy_refl _ _))
  | some ad =>
    refine wp_append_own w s x 31 ho base 55 i0 (.int .u64 0) 1 8 Tryz.underlying31 hi hz0 hz1 hz2 rfl (by decide) v _ _ hs hown ad n cap (wV l) hx (by unfold wV; rw [List.length_map, hlen]; omega) hL.cells (wV_one l) (by unfold maxLen; omega) (by omega) hbase ?_
    intro v' w' h1 h2 _
    exact hK _ _ (h v' w' (by rw [List.length_append, hlen]; unfold wV at *; rw [List.map_append]; exact h1) h2)
end
end Go.Proofs.YtnghendglcblkaaGreatDoor
