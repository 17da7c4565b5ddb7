/-
 PROVED HERE: what the document's sees, changes, Dir, Look, See and Change return when they are called (contracts over this . What is asked stands at each.
-/
import Derived.Test.YtblklhgojdbfeaaGreatY19
import Derived.Test.YtblklhgojdbfeaaGreatY32
import Derived.Test.YtblklhgojdbfeaaGreatY33
import Derived.Test.YtblklhgojdbfeaaGreatY37
import Derived.Test.YtblklhgojdbfeaaGreatY39
namespace Go.Proofs.YtblklhgojdbfeaaGreat
set_option maxRecDepth 100000
set_option maxHeartbeats 8000000
open Go.RowKit Go.Shelf
set_option linter.unusedVariables false
attribute [local go_sem] Oper.semAt_some

theorem sho_fit {y : Ob} (h : Fit y.label) : Fit (shoC y) := by
 unfold shoC
 split
 ·exact raiseL_fit h
 ·exact h
end Go.Proofs.YtblklhgojdbfeaaGreat
namespace Go.Proofs.YtblklhgojdbfeaaGreat
set_option maxRecDepth 100000
set_option maxHeartbeats 8000000
open Go.RowKit Go.Shelf
set_option linter.unusedVariables false

theorem tellX {k : Int} {x : Ob} {w W w' : World} {e : Ending} (hk : Below w.heap.size w W) (h : ∃ C, e = .returned (.tuple #[.agg C, .int .i64 k]) ∧ ObD (New W w') w' C (resO k x) ∧ Below W.heap.size W w') : ∃ C, e = .returned (.tuple #[.agg C, .int .i64 k]) ∧ ObD (LtN w') w' C (resO k x) ∧ Below W.heap.size W w' := by
 obtain ⟨C, e1, o, hb⟩ := h
 exact ⟨C, e1, o.wide fun _ q => q.2, hb⟩
theorem laidX {w W2 w3 W4 V4 : World} {P : Nat} {C : Array Value} {x : Ob} (hk : Below w.heap.size w W2) (hb3 : Below W2.heap.size W2 w3) (oF : ObD (LtN w3) w3 C x) (hN4 : Hid (w3.heap.size = P ∧ W4.heap.size = P + 1)) (hk4 : Below w3.heap.size w3 W4) (q4 : Oth P W4 V4) : Below W2.heap.size W2 V4 ∧ ObD (LtN V4) V4 C x := by
 have h1 := hN4.out
 have h2 := hb3.size
 have h3 := q4.size
 refine ⟨q4.below _ _ (by omega) (hb3.trans (hk4.mono h2)), (oF.laterK fun b hb => ?_).wide fun b hb => ?_⟩
 ·have h5 : b < w3.heap.size := hb
  rw [q4.block b (by omega), hk4.block b h5]
 ·have h5 : b < w3.heap.size := hb
  show b < V4.heap.size
  omega
end Go.Proofs.YtblklhgojdbfeaaGreat
