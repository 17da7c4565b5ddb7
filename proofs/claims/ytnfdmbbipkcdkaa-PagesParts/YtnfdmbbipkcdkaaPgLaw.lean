/-
  PROVED HERE: what the laws of layer 12 need of the contracts: each at every world in which all lies as it lay (over this translation). No condition but the maps' fitness where it is written.
-/
import Derived.Test.YtnfdmbbipkcdkaaPgOpen
import Derived.Test.YtnfdmbbipkcdkaaPgAwk
namespace Go.Proofs.Ytnfdmbbipkcdkaa
open Go.RowKit Go.Shelf
set_option linter.unusedVariables false
open Pg

theorem bel_next {w X Y : World} (h : Below w.heap.size w X) (hb : Below X.heap.size X Y) : Below w.heap.size w Y := h.trans (hb.mono h.size)
theorem bel_mps {w X : World} {ao : Option Addr} {n cap : Nat} {L : List Mp} (hL : Mps w.heap.size w ao n cap L) (h : Below w.heap.size w X) : Mps X.heap.size X ao n cap L := hL.next h
/-- Put, with a slice told. -/
theorem put_sl {w : World} {ao : Option Addr} {n cap : Nat} {L : List Mp} (hL : Mps w.heap.size w ao n cap L) (hF : Fit L) (va nn cont seg of : Int) (wr : Bool) :
    Calls Try.prog 13 #[.slice ao n cap, .agg #[.int .i64 va, .int .i64 nn, .int .u64 cont, .int .u64 seg, .int .i64 of, .bool wr]] w fun e w' => ∃ ao1 cap1, e = .returned (.tuple #[.slice ao1 (putL L ⟨va, nn, cont, seg, of, wr⟩).length cap1, .int .i64 (putE L ⟨va, nn, cont, seg, of, wr⟩)]) ∧ Mps w'.heap.size w' ao1 (putL L ⟨va, nn, cont, seg, of, wr⟩).length cap1 (putL L ⟨va, nn, cont, seg, of, wr⟩) ∧ Below w.heap.size w w' :=
  (put_any hL hF va nn cont seg of wr).mono fun e w' ⟨u, h1, h2, h3⟩ => by
    obtain ⟨a, c, rfl, hm⟩ := mps_of_row h2
    exact ⟨a, c, h1, hm, h3⟩
theorem drop_sl {w : World} {ao : Option Addr} {n cap : Nat} {L : List Mp} (hL : Mps w.heap.size w ao n cap L) (hF : Fit L) (v : Int) :
    Calls Try.prog 15 #[.slice ao n cap, .int .i64 v] w fun e w' => ∃ ao1 cap1, e = .returned (.tuple #[.slice ao1 (drL L v).length cap1, .int .i64 (drE L v)]) ∧ Mps w'.heap.size w' ao1 (drL L v).length cap1 (drL L v) ∧ Below w.heap.size w w' :=
  (drop_any hL hF v).mono fun e w' ⟨u, h1, h2, h3⟩ => by
    obtain ⟨a, c, rfl, hm⟩ := mps_of_row h2
    exact ⟨a, c, h1, hm, h3⟩
section
variable {W : World} {B : Nat} {x0 x1 x2 x3 x4 : Int} {x5 : Bool}
theorem Mb.setV (h : Mb W B ⟨x0, x1, x2, x3, x4, x5⟩) (v : Int) : Mb (W.setCell ⟨B, 0, none⟩ (.int .i64 v)) B ⟨v, x1, x2, x3, x4, x5⟩ := (heap_setCell_same W B 0 _ 25 (.int .i64 v) h).trans (by simp)
theorem Mb.setN (h : Mb W B ⟨x0, x1, x2, x3, x4, x5⟩) (v : Int) : Mb (W.setCell ⟨B, 1, none⟩ (.int .i64 v)) B ⟨x0, v, x2, x3, x4, x5⟩ := (heap_setCell_same W B 1 _ 25 (.int .i64 v) h).trans (by simp)
theorem Mb.setO (h : Mb W B ⟨x0, x1, x2, x3, x4, x5⟩) (v : Int) : Mb (W.setCell ⟨B, 4, none⟩ (.int .i64 v)) B ⟨x0, x1, x2, x3, v, x5⟩ := (heap_setCell_same W B 4 _ 25 (.int .i64 v) h).trans (by simp)
end
theorem cnt_succ {L : List Mp} {k : Nat} {p : Int} (h : k < L.length) : cnt (L.take (k + 1)) p = cnt (L.take k) p + if hasB (mat L k) p = true then 1 else 0 := by
  unfold cnt
  rw [take_snoc h, List.countP_append]
  by_cases e : hasB (mat L k) p = true
  · simp [e]
  · simp [e]
end Go.Proofs.Ytnfdmbbipkcdkaa
