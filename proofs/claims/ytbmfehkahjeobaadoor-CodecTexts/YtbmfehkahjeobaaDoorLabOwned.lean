/-
  PROVED HERE: what label.Owned and the document's answer to it return when they are called (contracts over this translation). The label has fewer than 2^38 pairs.
-/
import Derived.Test.YtbmfehkahjeobaaDoorLabCon1
import Derived.Test.YtbmfehkahjeobaaDoorLabOwn
import Derived.WalkKit
import Derived.ProofKit
import Derived.OpenShut
import Derived.Below
import Derived.WalkSmall
import Derived.Deep.QuietTactic
import Derived.BigQuiet
import Derived.OwnWalk
import Derived.Maps.AppendAt
namespace Go.Proofs.YtbmfehkahjeobaaDoor
open Go.ChangeShapes Go.WideShapes Go.ChangeAt Go.RowKit
set_option linter.unusedVariables false

theorem infoU64 : (Tryd.prog.info? 33).map (fun i => (i.zero, i.size, i.bytes)) = some (some (.int .u64 0), 1, 8) := by kernel_rfl

/-- The slice of n categories at ao holds the list C in w, below block B. -/
def Cts (B : Nat) (w : World) (ao : Option Addr) (n cap : Nat) (C : List Int) : Prop :=
  C.length = n ∧ n ≤ cap ∧ cap ≤ 9223372036854775807 ∧
  (0 < n → ∃ b off, ao = some ⟨b, off, none⟩ ∧ b < B ∧ ∀ i, i < n → w.cell? ⟨b, off + i, none⟩ = some (.int .u64 (C.getD i 0)))
theorem Cts.later {w w' : World} {ao : Option Addr} {n cap : Nat} {L : List Int} {B : Nat} (h : Cts B w ao n cap L) (k : Below B w w') : Cts B w' ao n cap L := by
  obtain ⟨h1, h2, h3, h4⟩ := h
  refine ⟨h1, h2, h3, fun hn => ?_⟩
  obtain ⟨b, off, e, hb, hc⟩ := h4 hn
  exact ⟨b, off, e, hb, fun i hi => (k.cell (p := ⟨b, off + i, none⟩) hb).trans (hc i hi)⟩
theorem Cts.next {w w' : World} {ao : Option Addr} {n cap : Nat} {L : List Int} (h : Cts w.heap.size w ao n cap L) (k : Below w.heap.size w w') : Cts w'.heap.size w' ao n cap L := by
  obtain ⟨h1, h2, h3, h4⟩ := h.later k
  refine ⟨h1, h2, h3, fun hn => ?_⟩
  obtain ⟨b, off, e, hb, hc⟩ := h4 hn
  exact ⟨b, off, e, Nat.lt_of_lt_of_le hb k.size, hc⟩
theorem Cts.of_row {base : Nat} {w : World} {v : Value} {C : List Int} (h : w.ownsRow base 33 1 v C.length (C.map (Value.int .u64))) : ∃ ao cap, v = .slice ao C.length cap ∧ Cts w.heap.size w ao C.length cap C := by
  have h' := h
  rcases h.2 with ⟨rfl, h0⟩ | ⟨g, cap, cur, rfl, hb, hh, hnc, hm, hs, ht⟩
  · exact ⟨none, 0, by rw [h0], rfl, by omega, by omega, fun hn => absurd hn (by omega)⟩
  · refine ⟨_, _, rfl, rfl, hnc, by unfold maxLen at hm; omega, fun _ => ⟨g, 0, rfl, (Array.getElem?_eq_some_iff.1 hh).1, fun i hi => ?_⟩⟩
    rw [Nat.zero_add, h'.cellAt i (by omega)]
    simp [List.getD_eq_getElem?_getD, List.getElem?_eq_getElem hi]

/-- The categories of which the first k pairs say that they are owned. -/
def ownK (L : List (Int × Int)) (k : Nat) : List Int := ((L.take k).filter fun p => decide (p.2 = 0)).map Prod.fst
def owned (L : List (Int × Int)) : List Int := (L.filter fun p => decide (p.2 = 0)).map Prod.fst
theorem ownK_all {L : List (Int × Int)} {k : Nat} (h : L.length ≤ k) : ownK L k = owned L := by unfold ownK owned; rw [List.take_of_length_le h]
theorem ownK_succ {L : List (Int × Int)} {k : Nat} {x y : Int} (h : k < L.length) (e : L.getD k (0, 0) = (x, y)) : ownK L (k + 1) = ownK L k ++ (if y = 0 then [x] else []) := by
  have e' : L[k] = (x, y) := by simpa [List.getD_eq_getElem?_getD, List.getElem?_eq_getElem h] using e
  unfold ownK
  rw [List.take_succ_eq_append_getElem h, e', List.filter_append, List.map_append]
  by_cases hy : y = 0 <;> simp [hy]
theorem ownK_hit {L : List (Int × Int)} {k : Nat} {x y : Int} (h : k < L.length) (e : L.getD k (0, 0) = (x, y)) (hy : y = 0) : ownK L (k + 1) = ownK L k ++ [x] := by rw [ownK_succ h e, if_pos hy]
theorem ownK_miss {L : List (Int × Int)} {k : Nat} {x y : Int} (h : k < L.length) (e : L.getD k (0, 0) = (x, y)) (hy : ¬ y = 0) : ownK L (k + 1) = ownK L k := by rw [ownK_succ h e, if_neg hy]; simp
theorem ownK_len (L : List (Int × Int)) (k : Nat) : (ownK L k).length ≤ k := by
  unfold ownK
  rw [List.length_map]
  exact Nat.le_trans (List.length_filter_le _ _) (by rw [List.length_take]; omega)

end Go.Proofs.YtbmfehkahjeobaaDoor
