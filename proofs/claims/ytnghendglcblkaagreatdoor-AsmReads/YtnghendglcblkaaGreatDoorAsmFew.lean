/-
  PROVED HERE: what few lines are (plain facts), and what Decode of the document returns at a program's word (a contract over this translation). No condition.
-/
import Derived.Test.YtnghendglcblkaaGreatDoorAsmAwk
namespace Go.Proofs.YtnghendglcblkaaGreatDoor
open Go.RowKit Go.Shelf
set_option linter.unusedVariables false
open Asm

theorem few_facts {l : List Ln} (h : fewB l = true) (ha : ∀ x ∈ l, x.ok ∧ x.mark.size ≤ reachBytes ∧ x.to.size ≤ reachBytes) : l.length ≤ 60 ∧ Okl l := by
  unfold fewB at h
  rw [Bool.and_eq_true] at h
  refine ⟨of_decide_eq_true h.1, fun x hx => ?_⟩
  have h1 := of_decide_eq_true (List.all_eq_true.1 h.2 x hx)
  exact ⟨(ha x hx).1, by omega, by omega⟩
theorem few_sizes {l : List Ln} (h : fewB l = true) : ∀ x ∈ l, x.mark.size + x.to.size ≤ 100 := fun x hx => by
  unfold fewB at h
  rw [Bool.and_eq_true] at h
  exact of_decide_eq_true (List.all_eq_true.1 h.2 x hx)
theorem Ib.set4 {W : World} {B : Nat} {op a b c i : Int} (h : Ib W B op a b c i) (x : Int) : Ib (W.setCell ⟨B, 4, none⟩ (.int .i32 x)) B op a b c x := (heap_setCell_same W B 4 _ 35 (.int .i32 x) h).trans (by simp)
end Go.Proofs.YtnghendglcblkaaGreatDoor
