/-
  PROVED HERE: the document's own SameWords, Words and Parse of layer 4 (contracts over this translation).
-/
import Derived.Test.YtbmfehkahjeobaaDoorCod13
import Derived.BigQuiet
import Derived.Deep.QuietTactic
namespace Go.Proofs.YtbmfehkahjeobaaDoor
open Go.RowKit Go.Shelf
set_option linter.unusedVariables false

def sameI (A C : List Int) : Bool := decide (A = C)
theorem sameI_at {A C : List Int} {k : Nat} (h : A.getD k 0 ≠ C.getD k 0) : sameI A C = false := by unfold sameI; rw [decide_eq_false_iff_not]; intro e; exact h (by rw [e])
theorem sameI_all {A C : List Int} (hl : A.length = C.length) (h : ∀ k, k < A.length → A.getD k 0 = C.getD k 0) : sameI A C = true := by
  unfold sameI
  rw [decide_eq_true_iff]
  refine List.ext_getElem hl (fun i h1 h2 => ?_)
  have := h i h1
  simpa [List.getD_eq_getElem?_getD, List.getElem?_eq_getElem h1, List.getElem?_eq_getElem h2] using this

end Go.Proofs.YtbmfehkahjeobaaDoor
