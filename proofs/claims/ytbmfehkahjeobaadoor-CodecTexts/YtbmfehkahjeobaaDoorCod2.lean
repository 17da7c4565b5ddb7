/-
  PROVED HERE: codec's fromWords and the document's answer to it (contracts over this translation): the label that words begin with, as a function of lists of integers.
-/
import Derived.Test.YtbmfehkahjeobaaDoorCod1
import Derived.Test.YtbmfehkahjeobaaDoorLabOwned
import Derived.Test.YtbmfehkahjeobaaDoorLabRef1
import Derived.Test.YtbmfehkahjeobaaDoorLabFold
import Derived.Deep.AppendLies
import Derived.Deep.RegionHeld3
namespace Go.Proofs.YtbmfehkahjeobaaDoor
open Go.RowKit Go.Shelf
set_option linter.unusedVariables false

def pairAt (W : List Int) (i : Nat) : Int × Int := (W.getD (1 + 2 * i) 0, W.getD (2 + 2 * i) 0)
def pairsK (W : List Int) (k : Nat) : List (Int × Int) := (List.range k).map (pairAt W)
def levsOk (W : List Int) (n : Nat) : Bool := (List.range n).all fun i => decide ((pairAt W i).2 ≤ 5)
def wcount (W : List Int) : Nat := (W.getD 0 0).toNat
def parseW (W : List Int) : Option (List (Int × Int)) :=
  if 0 < W.length ∧ W.getD 0 0 ≤ 16 ∧ 1 + 2 * wcount W ≤ W.length ∧ levsOk W (wcount W) = true ∧ fitB (pairsK W (wcount W)) = true then some (pairsK W (wcount W)) else none
theorem pairsK_len (W : List Int) (k : Nat) : (pairsK W k).length = k := by simp [pairsK]
theorem pairsK_succ (W : List Int) (k : Nat) : pairsK W (k + 1) = pairsK W k ++ [pairAt W k] := by simp [pairsK, List.range_succ]
theorem levsOk_no {W : List Int} {n k : Nat} (h : k < n) (e : ¬ (pairAt W k).2 ≤ 5) : levsOk W n = false := by
  unfold levsOk
  rw [List.all_eq_false]
  exact ⟨k, List.mem_range.2 h, by simpa using e⟩
theorem levsOk_yes {W : List Int} {n : Nat} (h : ∀ i, i < n → (pairAt W i).2 ≤ 5) : levsOk W n = true := by
  unfold levsOk
  rw [List.all_eq_true]
  intro i hi
  simpa using h i (List.mem_range.1 hi)
theorem parseW_none {W : List Int} (h : ¬ (0 < W.length ∧ W.getD 0 0 ≤ 16 ∧ 1 + 2 * wcount W ≤ W.length ∧ levsOk W (wcount W) = true ∧ fitB (pairsK W (wcount W)) = true)) : parseW W = none := by unfold parseW; rw [if_neg h]
theorem parseW_some {W : List Int} (h : 0 < W.length ∧ W.getD 0 0 ≤ 16 ∧ 1 + 2 * wcount W ≤ W.length ∧ levsOk W (wcount W) = true ∧ fitB (pairsK W (wcount W)) = true) : parseW W = some (pairsK W (wcount W)) := by unfold parseW; rw [if_pos h]
/-- Words: numbers of 64 bits. -/
def U64s (W : List Int) : Prop := ∀ i, 0 ≤ W.getD i 0 ∧ W.getD i 0 < 18446744073709551616

/-- What a reader tells: a label in a row of its own, or what it throws. -/
def Told (k : Int) (w : World) (o : Option (List (Int × Int))) (e : Ending) (w' : World) : Prop :=
  (∀ L, o = some L → ∃ ao n cap, e = .returned (.slice ao n cap) ∧ OwnL w.heap.size w' ao n cap L) ∧ (o = none → e = .panicked (thrown k)) ∧ Below w.heap.size w w'
theorem Told.no {k : Int} {w w' : World} {o : Option (List (Int × Int))} (h : o = none) (hb : Below w.heap.size w w') : Told k w o (.panicked (thrown k)) w' := ⟨fun L e => (by rw [h] at e; cases e), fun _ => rfl, hb⟩
theorem Told.yes {k : Int} {w w' : World} {o : Option (List (Int × Int))} {L : List (Int × Int)} {ao : Option Addr} {n cap : Nat} (h : o = some L) (ho : OwnL w.heap.size w' ao n cap L) (hb : Below w.heap.size w w') : Told k w o (.returned (.slice ao n cap)) w' :=
  ⟨fun L' e => (by rw [h] at e; cases e; exact ⟨_, _, _, rfl, ho⟩), fun e => (by rw [h] at e; cases e), hb⟩

theorem Cts.at' {w wr : World} {ao : Option Addr} {n cap : Nat} {C : List Int} {B : Nat} (h : Cts B w ao n cap C) (k : Below B w wr) {i : Nat} (hi : i < n) :
    ∃ (b off : Nat), ao = some ⟨b, off, none⟩ ∧ b < B ∧ wr.cell? ⟨b, off + i, none⟩ = some (.int .u64 (C.getD i 0)) := by
  obtain ⟨h1, h2, h3, h4⟩ := h.later k
  obtain ⟨b, off, e, hb, hc⟩ := h4 (by omega)
  exact ⟨b, off, e, hb, hc i hi⟩

end Go.Proofs.YtbmfehkahjeobaaDoor
