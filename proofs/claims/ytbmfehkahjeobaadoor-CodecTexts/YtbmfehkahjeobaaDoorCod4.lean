/-
  PROVED HERE: codec.Parse (a contract over this translation): the label that words begin with, and how many they are, or ErrForm.
-/
import Derived.Test.YtbmfehkahjeobaaDoorCod3
namespace Go.Proofs.YtbmfehkahjeobaaDoor
open Go.RowKit Go.Shelf
set_option linter.unusedVariables false

theorem OwnL.labD {base : Nat} {w : World} {ao : Option Addr} {n cap : Nat} {L : List (Int × Int)} (h : OwnL base w ao n cap L) : LabD (fun b => base ≤ b ∧ b < w.heap.size) w ao n cap L := by
  obtain ⟨h1, h2, h3, h4⟩ := h.lab
  refine ⟨h1, h2, h3, fun hn => ?_⟩
  obtain ⟨b, off, e, hb, hc⟩ := h4 hn
  refine ⟨b, off, e, ⟨?_, hb⟩, hc⟩
  rcases h.2.2 with ⟨hv, h0⟩ | ⟨g, cap', cur, hv, hg, _⟩
  · omega
  · simp only [Value.slice.injEq] at hv
    rw [hv.1] at e
    simp only [Option.some.injEq, Addr.mk.injEq] at e
    omega
/-- A label in a row of one's own stays where a cell below is written. -/
theorem OwnL.set {base : Nat} {w : World} {ao : Option Addr} {n cap : Nat} {L : List (Int × Int)} (h : OwnL base w ao n cap L) (p : Addr) (v : Value) (hp : p.block < base) : Lab (w.setCell p v).heap.size (w.setCell p v) ao n cap L := by
  have hs : (w.setCell p v).heap.size = w.heap.size := by simp [World.setCell]
  exact (h.labD.later ⟨by rw [hs]; exact Nat.le_refl _, fun b hb => Below.heap_setCell w p v b (fun e => by have := hb.1; omega)⟩).lab (fun b hb => by rw [hs]; exact hb.2)

end Go.Proofs.YtbmfehkahjeobaaDoor
