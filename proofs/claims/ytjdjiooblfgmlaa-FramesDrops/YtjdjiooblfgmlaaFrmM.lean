/-
  PROVED HERE: a map from frames to places that the call makes: what is put in is found (equations over this translation). No condition.
-/
import Derived.Test.YtjdjiooblfgmlaaFrm8
namespace Go.Proofs.Ytjdjiooblfgmlaa
open Go.RowKit Go.Shelf
set_option linter.unusedVariables false

theorem frame_eq (x y x' y' : Int) (W : World) : (Op.equal 51 (.agg #[.int .u64 x, .int .i64 y]) (.agg #[.int .u64 x', .int .i64 y'])).run Try.prog W = .ok (decide ((x, y) = (x', y'))) W := by
  have e : (Op.equal 51 (.agg #[.int .u64 x, .int .i64 y]) (.agg #[.int .u64 x', .int .i64 y'])).run Try.prog W = (Op.equalIn 10000 51 (.agg #[.int .u64 x, .int .i64 y]) (.agg #[.int .u64 x', .int .i64 y'])).run Try.prog W := rfl
  rw [e]
  by_cases hx : x = x'
  · subst hx
    by_cases hy : y = y'
    · subst hy
      go_simp
    · have hy' : (y == y') = false := by simpa using hy
      go_simp
  · have hx' : (x == x') = false := by simpa using hx
    go_simp
theorem frame_ok (e : Bool) (x y : Int) (W : World) : (Instr.checkKey e 10000 51 (.agg #[.int .u64 x, .int .i64 y])).run Try.prog W = .ok () W := by
  have p0 : ∀ W, (part 23 #[.int .u64 x, .int .i64 y] 0).run Try.prog W = .ok (.int .u64 x) W := fun W => by go_simp
  have p1 : ∀ W, (part 3 #[.int .u64 x, .int .i64 y] 1).run Try.prog W = .ok (.int .i64 y) W := fun W => by go_simp
  show (Instr.checkKey e (9998 + 1 + 1) 51 (.agg #[.int .u64 x, .int .i64 y])).run Try.prog W = .ok () W
  generalize 9998 = n
  have k0 : ∀ W, (Instr.checkKey e (n + 1) 23 (.int .u64 x)).run Try.prog W = .ok () W := fun W => by
    unfold Instr.checkKey
    simp [run_underlying Try.underlying23, Result.andThen]
  have k1 : ∀ W, (Instr.checkKey e (n + 1) 3 (.int .i64 y)).run Try.prog W = .ok () W := fun W => by
    unfold Instr.checkKey
    simp [run_underlying Try.underlying3, Result.andThen]
  rw [Instr.checkKey]
  simp [run_underlying Try.underlying51, Result.andThen, p0, p1, k0, k1]
/-- The entries of a map of frames, the first born at n. -/
def ents : Nat → List (Frm.Fr × Nat) → List MapEntry
  | _, [] => []
  | n, p :: l => { key := .agg #[.int .u64 p.1.1, .int .i64 p.1.2], val := .int .i64 (p.2 : Int), born := n } :: ents (n + 1) l
theorem ents_snoc (n : Nat) (l : List (Frm.Fr × Nat)) (k : Frm.Fr) (v : Nat) : ents n (l ++ [(k, v)]) = ents n l ++ [{ key := .agg #[.int .u64 k.1, .int .i64 k.2], val := .int .i64 (v : Int), born := n + l.length }] := by
  induction l generalizing n with
  | nil => rfl
  | cons d l ih => simp only [List.cons_append, ents, ih, List.length_cons]; rw [show n + 1 + l.length = n + (l.length + 1) by omega]
def MapAt (W : World) (M : Nat) (l : List (Frm.Fr × Nat)) : Prop := W.heap[M]? = some (.map (ents 0 l).toArray l.length)
def lkp (f : Frm.Fr) : List (Frm.Fr × Nat) → Option Nat
  | [] => none
  | p :: l => if f = p.1 then some p.2 else lkp f l
theorem lkp_none {f : Frm.Fr} {l : List (Frm.Fr × Nat)} : lkp f l = none ↔ f ∉ l.map (·.1) := by
  induction l with
  | nil => simp [lkp]
  | cons p l ih =>
    by_cases h : f = p.1
    · simp [lkp, h]
    · simp [lkp, h, ih]
theorem ask_ents (x y : Int) (W : World) : ∀ (l : List (Frm.Fr × Nat)) (n i : Nat), (lkp (x, y) l = none → (Instr.findAsking 51 (.agg #[.int .u64 x, .int .i64 y]) (ents n l) i).run Try.prog W = .ok none W) ∧
      (∀ v, lkp (x, y) l = some v → ∃ j, (Instr.findAsking 51 (.agg #[.int .u64 x, .int .i64 y]) (ents n l) i).run Try.prog W = .ok (some (j, .int .i64 (v : Int))) W)
  | [], n, i => ⟨fun _ => by simp [ents, Instr.findAsking], fun v h => by cases h⟩
  | p :: l, n, i => by
    have e := frame_eq x y p.1.1 p.1.2 W
    by_cases h : (x, y) = p.1
    · refine ⟨fun k => by simp [lkp, h] at k, fun v k => ⟨i, ?_⟩⟩
      rw [decide_eq_true (by exact h)] at e
      have hv : p.2 = v := by simpa [lkp, h] using k
      simp [ents, Instr.findAsking, e, Result.andThen, hv]
    · rw [decide_eq_false (by exact h)] at e
      obtain ⟨h1, h2⟩ := ask_ents x y W l (n + 1) (i + 1)
      refine ⟨fun k => ?_, fun v k => ?_⟩
      · have := h1 (by simpa [lkp, h] using k)
        simp [ents, Instr.findAsking, e, Result.andThen, this]
      · obtain ⟨j, hj⟩ := h2 v (by simpa [lkp, h] using k)
        exact ⟨j, by simp [ents, Instr.findAsking, e, Result.andThen, hj]⟩
section
variable {W W' : World} {M : Nat} {l : List (Frm.Fr × Nat)}
theorem find_ents (x y : Int) (l : List (Frm.Fr × Nat)) : (lkp (x, y) l = none → (Instr.findKey 51 (.agg #[.int .u64 x, .int .i64 y]) (ents 0 l)).run Try.prog W = .ok none W) ∧
      (∀ v, lkp (x, y) l = some v → ∃ j, (Instr.findKey 51 (.agg #[.int .u64 x, .int .i64 y]) (ents 0 l)).run Try.prog W = .ok (some (j, .int .i64 (v : Int))) W) := by
  cases l with
  | nil => exact ⟨fun _ => by simp [Instr.findKey, run_underlying Try.underlying51, Result.andThen, ents, Instr.findNow], fun v h => by cases h⟩
  | cons p l =>
    have e : (Instr.findKey 51 (.agg #[.int .u64 x, .int .i64 y]) (ents 0 (p :: l))).run Try.prog W = (Instr.findAsking 51 (.agg #[.int .u64 x, .int .i64 y]) (ents 0 (p :: l)) 0).run Try.prog W := by
      simp [Instr.findKey, run_underlying Try.underlying51, Result.andThen, ents, Instr.findNow, Instr.sameNow]
    rw [e]
    exact ask_ents x y W (p :: l) 0 0
theorem map_obj (h : MapAt W M l) : (getObj M).run Try.prog W = .ok (.map (ents 0 l).toArray l.length) W := by
  simp [getObj, Sem.run, show W.heap[M]? = _ from h]
theorem map_get2 (h : MapAt W M l) (x y : Int) : (Instr.lookup 64 (.map (some M)) (.agg #[.int .u64 x, .int .i64 y]) true).run Try.prog W = .ok (.tuple #[.int .i64 (((lkp (x, y) l).getD 0 : Nat) : Int), .bool (lkp (x, y) l).isSome]) W := by
  have hz : (zeroValue 3).run Try.prog W = .ok (.int .i64 0) W := Try.zeroValue3 _
  obtain ⟨h1, h2⟩ := find_ents (W := W) x y l
  unfold Instr.lookup
  cases hc : lkp (x, y) l with
  | none => simp [run_underlying Try.underlying64, Result.andThen, map_obj h, frame_ok, h1 hc, hz]
  | some v =>
    obtain ⟨j, hj⟩ := h2 v hc
    simp [run_underlying Try.underlying64, Result.andThen, map_obj h, frame_ok, hj]
theorem map_put (h : MapAt W M l) (x y : Int) (v : Nat) (hc : lkp (x, y) l = none) : (Instr.mapUpdate 64 (.map (some M)) (.agg #[.int .u64 x, .int .i64 y]) (.int .i64 (v : Int))).run Try.prog W = .ok () (W.putObj M (.map (ents 0 (l ++ [((x, y), v)])).toArray (l ++ [((x, y), v)]).length)) := by
  obtain ⟨h1, _⟩ := find_ents (W := W) x y l
  have hs : ∀ o, (setObj M o).run Try.prog W = .ok () (W.putObj M o) := fun o => by simp [setObj, Sem.run, show W.heap[M]? = _ from h, World.putObj]
  unfold Instr.mapUpdate
  simp [run_underlying Try.underlying64, Result.andThen, map_obj h, frame_ok, h1 hc, hs, ents_snoc]
theorem MapAt.put (h : MapAt W M l) (l' : List (Frm.Fr × Nat)) : MapAt (W.putObj M (.map (ents 0 l').toArray l'.length)) M l' := World.putObj_heap_same (Array.getElem?_eq_some_iff.1 h).1
theorem MapAt.next (h : MapAt W M l) (hb : Below W.heap.size W W') : MapAt W' M l := (hb.block M (Array.getElem?_eq_some_iff.1 h).1).trans h
theorem MapAt.lt (h : MapAt W M l) : M < W.heap.size := (Array.getElem?_eq_some_iff.1 h).1
end
theorem below_putObj {B M : Nat} {w W : World} (h : Below B w W) (hM : B ≤ M) (o : Obj) : Below B w (W.putObj M o) :=
  h.trans ⟨rfl, rfl, rfl, by simp [World.putObj], fun k hk => World.putObj_heap_other (by omega)⟩
end Go.Proofs.Ytjdjiooblfgmlaa
