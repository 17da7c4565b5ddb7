/-
  PROVED HERE: what with, Set and Leq of the document's answer to label return when they are called (contracts over this translation). A label has fewer than 2^39 pairs where one is put to it.
-/
import Derived.Test.YtfpmkihlfhpgdaaLabCon2
import Derived.Test.YtfpmkihlfhpgdaaLabOwn
import Derived.WalkKit
import Derived.ProofKit
import Derived.OpenShut
import Derived.Below
import Derived.WalkSmall
import Derived.Deep.QuietTactic
import Derived.BigQuiet
import Derived.OwnWalk
import Derived.Maps.AppendAt
import Derived.Test.YtfpmkihlfhpgdaaLabCon3
namespace Go.Proofs.Ytfpmkihlfhpgdaa
open Go.ChangeShapes Go.WideShapes Go.ChangeAt Go.RowKit
set_option linter.unusedVariables false

/-- What is still to be written of a label with a category's level; d: the level has been written. -/
def wl (c l : Int) : Bool → List (Int × Int) → List (Int × Int)
  | d, [] => if d then [] else [(c, l)]
  | d, p :: r => (if !d && decide (c < p.1) then [(c, l)] else []) ++ ((if p.1 = c then [] else [p]) ++ wl c l (d || decide (c < p.1)) r)
def rwithL (L : List (Int × Int)) (c l : Int) : List (Int × Int) := wl c l (l == 2) L
theorem wl_drop {L : List (Int × Int)} {k : Nat} {x y : Int} (h : k < L.length) (e : L.getD k (0, 0) = (x, y)) (c l : Int) (d : Bool) :
    wl c l d (L.drop k) = (if !d && decide (c < x) then [(c, l)] else []) ++ ((if x = c then [] else [(x, y)]) ++ wl c l (d || decide (c < x)) (L.drop (k + 1))) := by
  have e' : L[k] = (x, y) := by simpa [List.getD_eq_getElem?_getD, List.getElem?_eq_getElem h] using e
  rw [List.drop_eq_getElem_cons h, e']
  rfl
theorem wl_len (c l : Int) : ∀ (L : List (Int × Int)) (d : Bool), (wl c l d L).length ≤ L.length + (if d then 0 else 1) := by
  intro L
  induction L with
  | nil => intro d; cases d <;> simp [wl]
  | cons p r ih =>
    intro d
    have h := ih (d || decide (c < p.1))
    simp only [wl, List.length_append, List.length_cons]
    cases d <;> by_cases h1 : c < p.1 <;> by_cases h2 : p.1 = c <;> simp [h1, h2] at h ⊢ <;> omega
theorem rwithL_len (L : List (Int × Int)) (c l : Int) : (rwithL L c l).length ≤ L.length + 1 := by
  have h := wl_len c l L (l == 2)
  unfold rwithL
  split at h <;> omega

theorem app_below {s : Nat} {w wr w1 : World} {e : TypeId} {size n : Nat} {v : Value} {xs : List Value} {o : Obj} (hb : Below s w wr) (hrow : wr.ownsRow s e size v n xs) (hg : (wr.alloc o).grownBy w1 v.ownBlock) (hs : s ≤ wr.heap.size) : Below s w w1 :=
  (hb.alloc hs o).grown hg (by simp; omega) (fun j e => (hrow.lt j e).1)

end Go.Proofs.Ytfpmkihlfhpgdaa
