/-
 PROVED HERE: what the document's Find and Drop return when they are called (contracts over this translation). What is asked stands at each.
-/
import Derived.Test.YtdeddhojjolihaaGreatZ8
namespace Go.Proofs.YtdeddhojjolihaaGreat
set_option maxRecDepth 100000
set_option maxHeartbeats 8000000
set_option linter.unusedVariables false
namespace PgM
open Go.RowKit Go.Shelf
attribute [local go_sem] Oper.semAt_some
open Pg
theorem It.other6 {X : World} {b o g : Nat} {v0 v1 v2 v3 v4 : Int} {v5 : Bool} {y : Mp} (hne : b ≠ g) (h : It X b o v0 v1 v2 v3 v4 v5) : It (set6 X g y) b o v0 v1 v2 v3 v4 v5 := by
 have f : ∀ {j : Nat} {v : Value}, X.cell? ⟨b, j, none⟩ = some v → (set6 X g y).cell? ⟨b, j, none⟩ = some v := fun h => by
  unfold set6
  rw [wqz hne, wqz hne, wqz hne, wqz hne, wqz hne, wqz hne]
  exact h
 obtain ⟨a0, a1, a2, a3, a4, a5⟩ := h
 exact ⟨f a0, f a1, f a2, f a3, f a4, f a5⟩
namespace Pg
end Pg
end PgM
end Go.Proofs.YtdeddhojjolihaaGreat
