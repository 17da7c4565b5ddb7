/-
  PROVED HERE: the codec's Words and Parse, and the document's own, in one wording each (contracts over this translation).
-/
import Derived.Test.YtbmfehkahjeobaaDoorCod14
import Derived.Test.YtbmfehkahjeobaaDoorCod15
import Derived.Test.YtbmfehkahjeobaaDoorCod16
import Derived.Test.YtbmfehkahjeobaaDoorCod17
namespace Go.Proofs.YtbmfehkahjeobaaDoor
open Go.RowKit Go.Shelf
set_option linter.unusedVariables false

theorem wordsOf_no {L : List (Int × Int)} (h : fitB L = false) : wordsOf L = [] := by unfold wordsOf; rw [h]; rfl
theorem Cts.none (B : Nat) (w : World) : Cts B w none 0 0 [] := ⟨rfl, Nat.le_refl _, by omega, fun h => absurd h (by omega)⟩
def WordsR (w : World) (L : List (Int × Int)) (e : Ending) (w' : World) : Prop := ∃ ao1 n1 cap1, e = .returned (.slice ao1 n1 cap1) ∧ Cts w'.heap.size w' ao1 n1 cap1 (wordsOf L) ∧ Below w.heap.size w w'
def pL (W : List Int) : List (Int × Int) := (parseW W).getD []
def pN (W : List Int) : Int := match parseW W with | some L => 1 + 2 * (L.length : Int) | none => 0
def pE (W : List Int) : Int := match parseW W with | some _ => 0 | none => 11
def ParseR (w : World) (W : List Int) (e : Ending) (w' : World) : Prop := ∃ ao1 cap1, e = .returned (.tuple #[.slice ao1 (pL W).length cap1, .int .i64 (pN W), .int .i64 (pE W)]) ∧ Lab w'.heap.size w' ao1 (pL W).length cap1 (pL W) ∧ Below w.heap.size w w'
theorem parseW_len {W : List Int} {L : List (Int × Int)} (h : parseW W = some L) : L.length ≤ 16 := by
  unfold parseW at h
  split at h
  · rename_i hh
    cases h
    rw [pairsK_len]
    have := hh.2.1
    unfold wcount
    omega
  · cases h
end Go.Proofs.YtbmfehkahjeobaaDoor
