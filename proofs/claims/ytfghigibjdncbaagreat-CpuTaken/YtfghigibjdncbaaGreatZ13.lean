/-
 PROVED HERE: maps that are handed in lie in memory as lists of six fields each, and one map is its six fields (over this tr. What is asked stands at each.
-/
import Derived.Test.YtfghigibjdncbaaGreatRows
import Derived.WalkKit
import Derived.ProofKit
import Derived.OpenShut
import Derived.Below
import Derived.Deep.SlicePairs
import Derived.Test.YtfghigibjdncbaaGreatZ8
namespace Go.Proofs.YtfghigibjdncbaaGreat.PgM
set_option maxRecDepth 100000
set_option maxHeartbeats 8000000
open Go.ChangeShapes Go.WideShapes Go.ChangeAt Go.RowKit
set_option linter.unusedVariables false
open Pg

theorem spotK {w : World} {a : Addr} {v : Value} (h : w.cell? a = some v) : a = ⟨a.block, a.off, none⟩ ∧ ∀ j, a.add j = ⟨a.block, a.off + j, none⟩ := by
 have hs : a.spot = none := by
  unfold World.cell? at h
  cases hsp : a.spot with
  | none => rfl
  | some s => split at h <;> simp [hsp] at h
 have hea : a = ⟨a.block, a.off, none⟩ := by cases a; simp at hs; simp [hs]
 refine ⟨hea, fun j => ?_⟩
 unfold Addr.add
 split
 ·rename_i hj; subst hj; rw [Nat.add_zero]; exact hea
 ·rfl
end Go.Proofs.YtfghigibjdncbaaGreat.PgM
