/-
  PROVED HERE: a set of letters that the call makes (a map from bytes to bools, all true): a letter that is new is put into it, and asked for it is there or not (equations over this translation). No condition.
-/
import Derived.Test.YtdacepaebmcfbaaDoorIns15
import Derived.MapKept
import Derived.Carry
namespace Go.Proofs.YtdacepaebmcfbaaDoor
open Go.RowKit Go.Shelf
set_option linter.unusedVariables false

/-- The entries of a set of letters, the first born at n. -/
def ents : Nat → List UInt8 → List MapEntry
  | _, [] => []
  | n, c :: l => { key := .int .u8 (c.toNat : Int), val := .bool true, born := n } :: ents (n + 1) l
theorem ents_snoc (n : Nat) (l : List UInt8) (c : UInt8) : ents n (l ++ [c]) = ents n l ++ [{ key := .int .u8 (c.toNat : Int), val := .bool true, born := n + l.length }] := by
  induction l generalizing n with
  | nil => rfl
  | cons d l ih => simp only [List.cons_append, ents, ih, List.length_cons]; rw [show n + 1 + l.length = n + (l.length + 1) by omega]
/-- Block M is the set of the letters l. -/
def SetAt (W : World) (M : Nat) (l : List UInt8) : Prop := W.heap[M]? = some (.map (ents 0 l).toArray l.length)
theorem find_ents (c : UInt8) : ∀ (l : List UInt8) (n i : Nat), (l.contains c = false → Instr.findNow (.int .u8) (.int .u8 (c.toNat : Int)) (ents n l) i = some none) ∧ (l.contains c = true → ∃ j, Instr.findNow (.int .u8) (.int .u8 (c.toNat : Int)) (ents n l) i = some (some (j, .bool true)))
  | [], n, i => ⟨fun _ => rfl, fun h => by cases h⟩
  | d :: l, n, i => by
    by_cases h : c = d
    · subst h
      exact ⟨fun k => by simp at k, fun _ => ⟨i, by simp [ents, Instr.findNow, Instr.sameNow]⟩⟩
    · have hn : ((c.toNat : Int) == (d.toNat : Int)) = false := by
        rw [beq_eq_false_iff_ne]
        intro e
        exact h (UInt8.toNat_inj.1 (by omega))
      have hb : (c == d) = false := by simpa using h
      have e : Instr.findNow (.int .u8) (.int .u8 (c.toNat : Int)) (ents n (d :: l)) i = Instr.findNow (.int .u8) (.int .u8 (c.toNat : Int)) (ents (n + 1) l) (i + 1) := by
        simp only [ents, Instr.findNow, Instr.sameNow, hn, if_true]
      rw [e]
      obtain ⟨h1, h2⟩ := find_ents c l (n + 1) (i + 1)
      refine ⟨fun k => h1 ?_, fun k => h2 ?_⟩
      · rw [List.contains_cons, hb, Bool.false_or] at k; exact k
      · rw [List.contains_cons, hb, Bool.false_or] at k; exact k
theorem byte_key (c : UInt8) : Instr.findNow (.int .u8) (.int .u8 (c.toNat : Int)) (ents 0 []) 0 = some none := rfl
theorem byte_ok (e : Bool) (c : UInt8) (W : World) : (Instr.checkKey e 10000 5 (.int .u8 (c.toNat : Int))).run Tryd.prog W = .ok () W := by
  show (Instr.checkKey e (9999 + 1) 5 (.int .u8 (c.toNat : Int))).run Tryd.prog W = .ok () W
  generalize 9999 = n
  unfold Instr.checkKey
  simp [run_underlying Tryd.underlying5, Result.andThen]
theorem set_obj {W : World} {M : Nat} {l : List UInt8} (h : SetAt W M l) : (getObj M).run Tryd.prog W = .ok (.map (ents 0 l).toArray l.length) W := by
  simp [getObj, Sem.run, show W.heap[M]? = _ from h]
theorem set_find {W : World} {c : UInt8} {l : List MapEntry} {r : Option (Nat × Value)} (h : Instr.findNow (.int .u8) (.int .u8 (c.toNat : Int)) l 0 = some r) : (Instr.findKey 5 (.int .u8 (c.toNat : Int)) l).run Tryd.prog W = .ok r W := by
  simp [Instr.findKey, run_underlying Tryd.underlying5, Result.andThen, h]
theorem set_get {W : World} {M : Nat} {l : List UInt8} (h : SetAt W M l) (c : UInt8) : (Instr.lookup 36 (.map (some M)) (.int .u8 (c.toNat : Int)) false).run Tryd.prog W = .ok (.bool (l.contains c)) W := by
  have hz : (zeroValue 4).run Tryd.prog W = .ok (.bool false) W := Tryd.zeroValue4 _
  obtain ⟨h1, h2⟩ := find_ents c l 0 0
  unfold Instr.lookup
  cases hc : l.contains c with
  | false => simp [run_underlying Tryd.underlying36, Result.andThen, set_obj h, byte_ok, set_find (h1 hc), hz]
  | true =>
    obtain ⟨j, hj⟩ := h2 hc
    simp [run_underlying Tryd.underlying36, Result.andThen, set_obj h, byte_ok, set_find hj]
theorem set_put {W : World} {M : Nat} {l : List UInt8} (h : SetAt W M l) (c : UInt8) (hc : l.contains c = false) : (Instr.mapUpdate 36 (.map (some M)) (.int .u8 (c.toNat : Int)) (.bool true)).run Tryd.prog W = .ok () (W.putObj M (.map (ents 0 (l ++ [c])).toArray (l ++ [c]).length)) := by
  obtain ⟨h1, _⟩ := find_ents c l 0 0
  have hs : ∀ o, (setObj M o).run Tryd.prog W = .ok () (W.putObj M o) := fun o => by simp [setObj, Sem.run, show W.heap[M]? = _ from h, World.putObj]
  unfold Instr.mapUpdate
  simp [run_underlying Tryd.underlying36, Result.andThen, set_obj h, byte_ok, set_find (h1 hc), hs, ents_snoc]
theorem SetAt.put {W : World} {M : Nat} {l : List UInt8} (h : SetAt W M l) (l' : List UInt8) : SetAt (W.putObj M (.map (ents 0 l').toArray l'.length)) M l' := World.putObj_heap_same (Array.getElem?_eq_some_iff.1 h).1
theorem SetAt.next {W W' : World} {M : Nat} {l : List UInt8} (h : SetAt W M l) (hb : Below W.heap.size W W') : SetAt W' M l := (hb.block M (Array.getElem?_eq_some_iff.1 h).1).trans h
theorem below_putObj {B M : Nat} {w W : World} (h : Below B w W) (hM : B ≤ M) (o : Obj) : Below B w (W.putObj M o) :=
  h.trans ⟨rfl, rfl, rfl, by simp [World.putObj], fun k hk => World.putObj_heap_other (by omega)⟩
end Go.Proofs.YtdacepaebmcfbaaDoor
