/-
  PROVED HERE: what codec's Read returns when it is called, in the words in which the document's is told (a contract over this translation). Texts of at most 800 bytes.
-/
import Derived.Test.YtbmfehkahjeobaaDoorCod34
import Derived.Test.YtbmfehkahjeobaaDoorCod20
namespace Go.Proofs.YtbmfehkahjeobaaDoor
open Go.RowKit Go.Shelf
set_option linter.unusedVariables false

theorem cread4_any (s : ByteArray) (hs : s.size ≤ 800) {w : World} (hv : Vars w) : Calls Tryd.prog 5 #[.string s] w (Read4 w s) := by
  cases hO : readO s with
  | none =>
    refine (read_none s (by omega) hv hO).mono ?_
    rintro e w' ⟨rfl, hb⟩
    exact ⟨none, 0, 0, rfl, by rw [hO]; exact Lab.nil _ _, hb⟩
  | some L =>
    have hE : readE s = 0 := by
      unfold readO at hO
      split at hO
      · assumption
      · cases hO
    refine (read_some s (by omega) hv hO).mono ?_
    rintro e w' ⟨ao1, cap1, rfl, hl, hb⟩
    exact ⟨ao1, _, cap1, by rw [hE], by rw [hO]; exact hl, hb⟩
end Go.Proofs.YtbmfehkahjeobaaDoor
