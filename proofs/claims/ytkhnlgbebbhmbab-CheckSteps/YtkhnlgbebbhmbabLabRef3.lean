/-
  PROVED HERE: what Join, Meet, Raise and Lower of the document's answer to label return when they are called (contracts over this translation). The labels have fewer than 2^36 pairs.
-/
import Derived.Test.YtkhnlgbebbhmbabLabRef1
import Derived.Deep.RegionHeld3
import Derived.Deep.AppendLies
import Derived.WalkSpells
namespace Go.Proofs.Ytkhnlgbebbhmbab
open Go.ChangeShapes Go.WideShapes Go.ChangeAt Go.RowKit
set_option linter.unusedVariables false

/-- Two labels, the levels of the first's categories put into the first, one by one; then those of the second's. -/
def rj1 (op : Int → Int → Int) (A C : List (Int × Int)) (k : Nat) : List (Int × Int) := (A.take k).foldl (fun O p => rwithL O p.1 (op p.2 (get C p.1))) A
def rj2 (op : Int → Int → Int) (A C : List (Int × Int)) (k : Nat) : List (Int × Int) := (C.take k).foldl (fun O q => rwithL O q.1 (op (get A q.1) q.2)) (rj1 op A C A.length)
def rfoldL (op : Int → Int → Int) (A C : List (Int × Int)) : List (Int × Int) := rj2 op A C C.length
theorem rj1_succ {op : Int → Int → Int} {A C : List (Int × Int)} {k : Nat} {x y : Int} (h : k < A.length) (e : A.getD k (0, 0) = (x, y)) : rj1 op A C (k + 1) = rwithL (rj1 op A C k) x (op y (get C x)) := by
  have e' : A[k] = (x, y) := by simpa [List.getD_eq_getElem?_getD, List.getElem?_eq_getElem h] using e
  unfold rj1
  rw [List.take_succ_eq_append_getElem h, e', List.foldl_append]
  rfl
theorem rj2_succ {op : Int → Int → Int} {A C : List (Int × Int)} {k : Nat} {x y : Int} (h : k < C.length) (e : C.getD k (0, 0) = (x, y)) : rj2 op A C (k + 1) = rwithL (rj2 op A C k) x (op (get A x) y) := by
  have e' : C[k] = (x, y) := by simpa [List.getD_eq_getElem?_getD, List.getElem?_eq_getElem h] using e
  unfold rj2
  rw [List.take_succ_eq_append_getElem h, e', List.foldl_append]
  rfl
def rmapL (op : Int → Int) (A : List (Int × Int)) : List (Int × Int) := A.map fun p => (p.1, op p.2)
theorem rmap_succ {op : Int → Int} {A : List (Int × Int)} {k : Nat} {x y : Int} (h : k < A.length) (e : A.getD k (0, 0) = (x, y)) : rmapL op (A.take (k + 1)) = rmapL op (A.take k) ++ [(x, op y)] := by
  have e' : A[k] = (x, y) := by simpa [List.getD_eq_getElem?_getD, List.getElem?_eq_getElem h] using e
  unfold rmapL
  rw [List.take_succ_eq_append_getElem h, e', List.map_append]
  rfl

end Go.Proofs.Ytkhnlgbebbhmbab
