/-
  PROVED HERE: the document's own Parse of layer 4 (a contract over this translation).
-/
import Derived.Test.YtbmfehkahjeobaaDoorCod13
import Derived.Test.YtbmfehkahjeobaaDoorLabCon2
import Derived.Deep.AppendLies
namespace Go.Proofs.YtbmfehkahjeobaaDoor
open Go.RowKit Go.Shelf
set_option linter.unusedVariables false

/-- What the document's reader tells. -/
def ToldR (w : World) (o : Option (List (Int × Int))) (e : Ending) (w' : World) : Prop :=
  (∀ L, o = some L → ∃ ao cap, e = .returned (.tuple #[.slice ao L.length cap, .int .i64 (1 + 2 * (L.length : Int)), .int .i64 0]) ∧ Lab w'.heap.size w' ao L.length cap L) ∧ (o = none → e = .returned (.tuple #[.slice none 0 0, .int .i64 0, .int .i64 11])) ∧ Below w.heap.size w w'
theorem ToldR.no {w w' : World} {o : Option (List (Int × Int))} (h : o = none) (hb : Below w.heap.size w w') : ToldR w o (.returned (.tuple #[.slice none 0 0, .int .i64 0, .int .i64 11])) w' := ⟨fun L e => (by rw [h] at e; cases e), fun _ => rfl, hb⟩

end Go.Proofs.YtbmfehkahjeobaaDoor
