/-
  PROVED HERE: what Text of package asm returns when it is called: lines as a text (a contract over this translation). At most 65536 lines.
-/
import Derived.Test.YtnghendglcblkaaGreatDoorAsmQ1
namespace Go.Proofs.YtnghendglcblkaaGreatDoor
open Go.RowKit Go.Shelf
set_option linter.unusedVariables false
open Asm

theorem txL_take {l : List Ln} {k : Nat} (h : k < l.length) : txL (l.take (k + 1)) = txL (l.take k) ++ (bl (lineT (l.getD k default)) ++ [10]) := by
  unfold txL
  rw [take_snoc h, List.flatMap_append]
  simp
theorem prg_yes {l : List Ln} (h : ∀ x ∈ l, goodB x = true) : prg l = sb (txL l) := by unfold prg; rw [if_pos (List.all_eq_true.2 h)]
theorem prg_no {l : List Ln} {k : Nat} (h : k < l.length) (hg : goodB (l.getD k default) = false) : prg l = ⟨#[]⟩ := by
  unfold prg
  rw [if_neg]
  intro ha
  have := List.all_eq_true.1 ha (l.getD k default) (by rw [List.getD_eq_getElem?_getD, List.getElem?_eq_getElem h]; exact List.getElem_mem h)
  rw [hg] at this
  cases this
end Go.Proofs.YtnghendglcblkaaGreatDoor
