/-
  PROVED HERE: a map from texts to numbers that the call makes (what is put in is found, by equations over this translation), rows of lines in memory, and what Find of package asm returns. Marks of at most 65536 bytes.
-/
import Derived.Test.YtnghendglcblkaaGreatDoorAsm4
import Derived.MapKept
import Derived.Carry
namespace Go.Proofs.YtnghendglcblkaaGreatDoor
open Go.RowKit Go.Shelf
set_option linter.unusedVariables false
open Asm

theorem ba_beq (a b : ByteArray) : (a == b) = decide (a = b) := by
  cases a; cases b
  rename_i x y
  show (x == y) = _
  by_cases h : x = y
  · subst h; simp
  · simp [h]
theorem list_beq (a b : ByteArray) : (a.toList == b.toList) = decide (a = b) := by
  rw [ByteArray.toList_eq, ByteArray.toList_eq]
  by_cases h : a = b
  · subst h; simp
  · rw [decide_eq_false h, beq_eq_false_iff_ne]
    exact fun e => h (ba_ext e)
/-- The entries of a map of pairs, the first born at n. -/
def ents : Nat → List (ByteArray × Nat) → List MapEntry
  | _, [] => []
  | n, p :: l => { key := .string p.1, val := .int .i64 (p.2 : Int), born := n } :: ents (n + 1) l
theorem ents_snoc (n : Nat) (l : List (ByteArray × Nat)) (k : ByteArray) (v : Nat) : ents n (l ++ [(k, v)]) = ents n l ++ [{ key := .string k, val := .int .i64 (v : Int), born := n + l.length }] := by
  induction l generalizing n with
  | nil => rfl
  | cons d l ih => simp only [List.cons_append, ents, ih, List.length_cons]; rw [show n + 1 + l.length = n + (l.length + 1) by omega]
/-- Block M is the map of the pairs l. -/
def MapAt (W : World) (M : Nat) (l : List (ByteArray × Nat)) : Prop := W.heap[M]? = some (.map (ents 0 l).toArray l.length)
theorem find_ents (k : ByteArray) : ∀ (l : List (ByteArray × Nat)) (n i : Nat), (lkp k l = none → Instr.findNow .string (.string k) (ents n l) i = some none) ∧ (∀ v, lkp k l = some v → ∃ j, Instr.findNow .string (.string k) (ents n l) i = some (some (j, .int .i64 (v : Int))))
  | [], n, i => ⟨fun _ => rfl, fun v h => by cases h⟩
  | p :: l, n, i => by
    by_cases h : p.1 = k
    · refine ⟨fun e => by simp [lkp, h] at e, fun v e => ⟨i, ?_⟩⟩
      simp only [lkp, h, if_true, Option.some.injEq] at e
      simp only [ents, Instr.findNow, Instr.sameNow, ba_beq, h, decide_true, e]
    · have e : Instr.findNow .string (.string k) (ents n (p :: l)) i = Instr.findNow .string (.string k) (ents (n + 1) l) (i + 1) := by
        simp only [ents, Instr.findNow, Instr.sameNow, ba_beq, decide_eq_false (fun e : k = p.1 => h e.symm)]
      rw [e]
      obtain ⟨h1, h2⟩ := find_ents k l (n + 1) (i + 1)
      exact ⟨fun e => h1 (by simpa [lkp, h] using e), fun v e => h2 v (by simpa [lkp, h] using e)⟩
theorem str_ok (e : Bool) (k : ByteArray) (W : World) : (Instr.checkKey e 10000 9 (.string k)).run Tryz.prog W = .ok () W := by
  show (Instr.checkKey e (9999 + 1) 9 (.string k)).run Tryz.prog W = .ok () W
  generalize 9999 = n
  unfold Instr.checkKey
  simp [run_underlying Tryz.underlying9, Result.andThen]
section
variable {W W' : World} {M : Nat} {l : List (ByteArray × Nat)}
theorem map_obj (h : MapAt W M l) : (getObj M).run Tryz.prog W = .ok (.map (ents 0 l).toArray l.length) W := by
  simp [getObj, Sem.run, show W.heap[M]? = _ from h]
theorem map_find {k : ByteArray} {es : List MapEntry} {r : Option (Nat × Value)} (h : Instr.findNow .string (.string k) es 0 = some r) : (Instr.findKey 9 (.string k) es).run Tryz.prog W = .ok r W := by
  simp [Instr.findKey, run_underlying Tryz.underlying9, Result.andThen, h]
/-- The value, or 0, and whether it is there. -/
theorem map_get2 (h : MapAt W M l) (k : ByteArray) : (Instr.lookup 39 (.map (some M)) (.string k) true).run Tryz.prog W = .ok (.tuple #[.int .i64 (((lkp k l).getD 0 : Nat) : Int), .bool (lkp k l).isSome]) W := by
  have hz : (zeroValue 3).run Tryz.prog W = .ok (.int .i64 0) W := Tryz.zeroValue3 _
  obtain ⟨h1, h2⟩ := find_ents k l 0 0
  unfold Instr.lookup
  cases hc : lkp k l with
  | none => simp [run_underlying Tryz.underlying39, Result.andThen, map_obj h, str_ok, map_find (h1 hc), hz]
  | some v =>
    obtain ⟨j, hj⟩ := h2 v hc
    simp [run_underlying Tryz.underlying39, Result.andThen, map_obj h, str_ok, map_find hj]
theorem map_get1 (h : MapAt W M l) (k : ByteArray) : (Instr.lookup 39 (.map (some M)) (.string k) false).run Tryz.prog W = .ok (.int .i64 (((lkp k l).getD 0 : Nat) : Int)) W := by
  have hz : (zeroValue 3).run Tryz.prog W = .ok (.int .i64 0) W := Tryz.zeroValue3 _
  obtain ⟨h1, h2⟩ := find_ents k l 0 0
  unfold Instr.lookup
  cases hc : lkp k l with
  | none => simp [run_underlying Tryz.underlying39, Result.andThen, map_obj h, str_ok, map_find (h1 hc), hz]
  | some v =>
    obtain ⟨j, hj⟩ := h2 v hc
    simp [run_underlying Tryz.underlying39, Result.andThen, map_obj h, str_ok, map_find hj]
theorem map_put (h : MapAt W M l) (k : ByteArray) (v : Nat) (hc : lkp k l = none) : (Instr.mapUpdate 39 (.map (some M)) (.string k) (.int .i64 (v : Int))).run Tryz.prog W = .ok () (W.putObj M (.map (ents 0 (l ++ [(k, v)])).toArray (l ++ [(k, v)]).length)) := by
  obtain ⟨h1, _⟩ := find_ents k l 0 0
  have hs : ∀ o, (setObj M o).run Tryz.prog W = .ok () (W.putObj M o) := fun o => by simp [setObj, Sem.run, show W.heap[M]? = _ from h, World.putObj]
  unfold Instr.mapUpdate
  simp [run_underlying Tryz.underlying39, Result.andThen, map_obj h, str_ok, map_find (h1 hc), hs, ents_snoc]
theorem MapAt.put (h : MapAt W M l) (l' : List (ByteArray × Nat)) : MapAt (W.putObj M (.map (ents 0 l').toArray l'.length)) M l' := World.putObj_heap_same (Array.getElem?_eq_some_iff.1 h).1
theorem MapAt.next (h : MapAt W M l) (hb : Below W.heap.size W W') : MapAt W' M l := (hb.block M (Array.getElem?_eq_some_iff.1 h).1).trans h
theorem MapAt.lt (h : MapAt W M l) : M < W.heap.size := (Array.getElem?_eq_some_iff.1 h).1
end
theorem below_putObj {B M : Nat} {w W : World} (h : Below B w W) (hM : B ≤ M) (o : Obj) : Below B w (W.putObj M o) :=
  h.trans ⟨rfl, rfl, rfl, by simp [World.putObj], fun k hk => World.putObj_heap_other (by omega)⟩

/-- The slice of n lines at ao holds l in w, in a block of which D holds. -/
def LnsD (D : Nat → Prop) (w : World) (ao : Option Addr) (n cap : Nat) (l : List Ln) : Prop :=
  l.length = n ∧ n ≤ cap ∧ (cap ≤ 9223372036854775807 ∧ (ao = none → cap = 0)) ∧
  (0 < n → ∃ b off, ao = some ⟨b, off, none⟩ ∧ D b ∧ ∀ i, i < n → ∀ j v, (lnV (l.getD i default))[j]? = some v → w.cell? ⟨b, off + i * 7 + j, none⟩ = some v)
def Lns (B : Nat) (w : World) (ao : Option Addr) (n cap : Nat) (l : List Ln) : Prop := LnsD (fun b => b < B) w ao n cap l
section
variable {D : Nat → Prop} {w w' : World} {ao : Option Addr} {n cap B B' : Nat} {l : List Ln}
theorem LnsD.laterK (h : LnsD D w ao n cap l) (k : ∀ b, D b → w'.heap[b]? = w.heap[b]?) : LnsD D w' ao n cap l := by
  obtain ⟨h1, h2, h3, h4⟩ := h
  refine ⟨h1, h2, h3, fun hn => ?_⟩
  obtain ⟨b, off, e, hb, hc⟩ := h4 hn
  exact ⟨b, off, e, hb, fun i hi j v hv => (World.cell?_of_block (w := w) (a := ⟨b, off + i * 7 + j, none⟩) (k b hb)).trans (hc i hi j v hv)⟩
theorem Lns.later (h : Lns B w ao n cap l) (k : Below B w w') : Lns B w' ao n cap l := LnsD.laterK h fun b hb => k.block b hb
theorem LnsD.wide {D' : Nat → Prop} (h : LnsD D w ao n cap l) (k : ∀ b, D b → D' b) : LnsD D' w ao n cap l := by
  obtain ⟨h1, h2, h3, h4⟩ := h
  refine ⟨h1, h2, h3, fun hn => ?_⟩
  obtain ⟨b, off, e, hb, hc⟩ := h4 hn
  exact ⟨b, off, e, k b hb, hc⟩
theorem Lns.wide (h : Lns B w ao n cap l) (k : B ≤ B') : Lns B' w ao n cap l := LnsD.wide h fun b hb => Nat.lt_of_lt_of_le hb k
theorem Lns.next (h : Lns w.heap.size w ao n cap l) (k : Below w.heap.size w w') : Lns w'.heap.size w' ao n cap l := (h.later k).wide k.size
theorem Lns.nil (B : Nat) (w : World) : Lns B w none 0 0 [] := ⟨rfl, Nat.le_refl _, ⟨by omega, fun _ => rfl⟩, fun h => absurd h (by omega)⟩
/-- The k-th line's cells. -/
theorem LnsD.at (h : LnsD D w ao n cap l) {i : Nat} (hi : i < n) : ∃ (b off : Nat) (m : ByteArray) (op a b' c i' : Int) (to : ByteArray), ao = some ⟨b, off, none⟩ ∧ D b ∧ Hid (l.getD i default = ⟨m, op, a, b', c, i', to⟩) ∧
    w.cell? ⟨b, off + i * 7, none⟩ = some (.string m) ∧ w.cell? ⟨b, off + i * 7 + 1, none⟩ = some (.int .i64 op) ∧ w.cell? ⟨b, off + i * 7 + 2, none⟩ = some (.int .i64 a) ∧ w.cell? ⟨b, off + i * 7 + 3, none⟩ = some (.int .i64 b') ∧ w.cell? ⟨b, off + i * 7 + 4, none⟩ = some (.int .i64 c) ∧ w.cell? ⟨b, off + i * 7 + 5, none⟩ = some (.int .i32 i') ∧ w.cell? ⟨b, off + i * 7 + 6, none⟩ = some (.string to) := by
  obtain ⟨h1, h2, h3, h4⟩ := h
  obtain ⟨b, off, e, hb, hc⟩ := h4 (by omega)
  obtain ⟨x, hx⟩ : ∃ x, l.getD i default = x := ⟨_, rfl⟩
  obtain ⟨m, op, a, b', c, i', to⟩ := x
  have hc' := hc i hi
  rw [hx] at hc'
  exact ⟨b, off, m, op, a, b', c, i', to, e, hb, hx, hc' 0 _ rfl, hc' 1 _ rfl, hc' 2 _ rfl, hc' 3 _ rfl, hc' 4 _ rfl, hc' 5 _ rfl, hc' 6 _ rfl⟩
end
theorem take_snoc {l : List Ln} {k : Nat} (h : k < l.length) : l.take (k + 1) = l.take k ++ [l.getD k default] := by
  rw [List.take_succ_eq_append_getElem h, List.getD_eq_getElem?_getD, List.getElem?_eq_getElem h]; rfl
theorem split_at {l : List Ln} {k : Nat} (h : k < l.length) : l = l.take k ++ l.getD k default :: l.drop (k + 1) := by
  rw [List.getD_eq_getElem?_getD, List.getElem?_eq_getElem h]
  simp
theorem cnt_hit {l : List Ln} {k : Nat} (h : k < l.length) (e : emB (l.getD k default).mark = true) : cnt (l.take (k + 1)) = cnt (l.take k) + 1 := by
  rw [take_snoc h, cnt_app]; generalize l.getD k default = x at *; simp [cnt, e]
theorem cnt_miss {l : List Ln} {k : Nat} (h : k < l.length) (e : emB (l.getD k default).mark = false) : cnt (l.take (k + 1)) = cnt (l.take k) := by
  rw [take_snoc h, cnt_app]; generalize l.getD k default = x at *; simp [cnt, e]
theorem fnd_hit {l : List Ln} {k : Nat} {m : ByteArray} (h : k < l.length) (h0 : fnd m (l.take k) 0 = none) (e : emB (l.getD k default).mark = false) (hm : (l.getD k default).mark = m) : fnd m l 0 = some (cnt (l.take k)) := by
  conv => lhs; rw [split_at h]
  rw [fnd_app, h0]
  generalize l.getD k default = x at *
  subst hm
  simp [fnd, e]
theorem fnd_step {l : List Ln} {k : Nat} {m : ByteArray} (h : k < l.length) (h0 : fnd m (l.take k) 0 = none) (e : emB (l.getD k default).mark = true ∨ (l.getD k default).mark ≠ m) : fnd m (l.take (k + 1)) 0 = none := by
  rw [take_snoc h, fnd_app, h0]
  generalize l.getD k default = x at *
  rcases e with e | e
  · simp [fnd, e]
  · simp [fnd, e]
theorem cntK_le (l : List Ln) (k : Nat) : cnt (l.take k) ≤ k := Nat.le_trans (cnt_le _) (by simp; omega)
end Go.Proofs.YtnghendglcblkaaGreatDoor
