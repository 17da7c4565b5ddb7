/-
  PROVED HERE: what the document's answers to check (all but Hides) return when they are called (contracts over this translation). The labels are fit, and have fewer than 2^20 pairs.
-/
import Derived.Test.YtkhnlgbebbhmbabChk11
namespace Go.Proofs.Ytkhnlgbebbhmbab
open Go.ChangeShapes Go.WideShapes Go.ChangeAt Go.RowKit
set_option linter.unusedVariables false

theorem own_beq {L : List (Int × Int)} {n : Nat} (h : (owned L).length = n) : ((n : Int) == 0) = ownsNo L := by
  unfold ownsNo
  rw [h, Bool.eq_iff_iff]
  simp

end Go.Proofs.Ytkhnlgbebbhmbab
