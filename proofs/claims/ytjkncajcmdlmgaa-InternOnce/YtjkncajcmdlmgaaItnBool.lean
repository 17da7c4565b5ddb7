/-
  PROVED HERE: a row of truths that is handed in lies in memory as a list (over this translation). No condition.
-/
import Derived.Test.YtjkncajcmdlmgaaItnOpen
import Derived.Deep.Grids
namespace Go.Proofs.Ytjkncajcmdlmgaa
open Go.ChangeShapes Go.WideShapes Go.ChangeAt Go.RowKit
set_option linter.unusedVariables false

/-- A row of truths. -/
def BoolD (w : World) (ao : Option Addr) (n cap : Nat) (C : List Bool) : Prop :=
  C.length = n ∧ n ≤ cap ∧ cap ≤ 9223372036854775807 ∧ ∀ i, i < n → ∃ b off, ao = some ⟨b, off, none⟩ ∧ b < w.heap.size ∧ w.cell? ⟨b, off + i, none⟩ = some (.bool (C.getD i false))
theorem boolD_of_trod {H : Type} {enc : TypeId × Value → H} {w : World} {ao : Option Addr} {n cap : Nat} {d : DataW H} {ps : List MemPlace}
    (h : DataW.Trod enc Try.prog w 0 (fun _ => true) true 23 (.slice ao n cap) d ps) : ∃ C, BoolD w ao n cap C := by
  obtain ⟨fuel, hf⟩ := h
  rcases Go.Deep.open_bools Try.underlying23 Try.underlying4 (by kernel_rfl) hf with ⟨e, _⟩ | ⟨a, len, cap', B, e, hb, hl, hm, _, hc⟩
  · simp [Value.cells] at e
    obtain ⟨rfl, rfl, rfl⟩ := e
    exact ⟨[], rfl, Nat.le_refl _, by omega, fun i hi => by omega⟩
  · simp [Value.cells] at e
    obtain ⟨rfl, rfl, rfl⟩ := e
    refine ⟨(List.range n).map B, by simp, hl, by unfold maxLen at hm; omega, fun i hi => ?_⟩
    have z := hc i (by omega)
    have z0 := hc 0 (by omega)
    have ha0 : a.add 0 = a := by simp [Addr.add]
    rw [ha0] at z0
    obtain ⟨hea, hadd⟩ := spotK z0
    rw [hadd] at z
    refine ⟨a.block, a.off, by rw [← hea], World.block_lt_of_cell? w _ z0, ?_⟩
    rw [z]
    simp [List.getD_eq_getElem?_getD, hi]
end Go.Proofs.Ytjkncajcmdlmgaa
