/-
  PROVED HERE: codec.Text and codec.Words, whole (contracts over this translation).
-/
import Derived.Test.YtbmfehkahjeobaaDoorCod4
import Derived.Test.YtbmfehkahjeobaaDoorCod11
import Derived.Test.YtbmfehkahjeobaaDoorCod12
import Derived.Test.YtbmfehkahjeobaaDoorLabMath
namespace Go.Proofs.YtbmfehkahjeobaaDoor
open Go.RowKit Go.Shelf
set_option linter.unusedVariables false

def textOf (L : List (Int × Int)) : ByteArray := if fitB L = true then (if L.length = 0 then ⟨#[45]⟩ else joined L) else ⟨#[]⟩
set_option maxRecDepth 100000 in
theorem ctext_any {w : World} {ao : Option Addr} {n cap : Nat} {L : List (Int × Int)} (hL : Lab w.heap.size w ao n cap L) (hU : U64p L) (hv : Vars w) (hn2 : n ≤ 65536) :
    Calls Tryd.prog 7 #[.slice ao n cap] w fun e w' => e = .returned (.string (textOf L)) ∧ Below w.heap.size w w' := by
  have hll := hL.1
  cases hf : fitB L with
  | false =>
    have ht : textOf L = ⟨#[]⟩ := by unfold textOf; rw [hf]; rfl
    rw [ht]
    clear ht
    go_enter Tryd.func7, Tryd.ntmps7
    go_wp2_with (go_at_call 15; refine (lfit_any hL (Nat.le_refl _)).mono ?_; rintro e w1 ⟨rfl, hb1⟩; rw [hf])
    go_ret
    exact ⟨rfl, hb1⟩
  | true =>
    by_cases h0 : n = 0
    · have ht : textOf L = ⟨#[45]⟩ := by unfold textOf; rw [hf, if_pos rfl, if_pos (by omega)]
      rw [ht]
      clear ht
      subst h0
      go_enter Tryd.func7, Tryd.ntmps7
      go_wp2_with (go_at_call 15; refine (lfit_any hL (Nat.le_refl _)).mono ?_; rintro e w1 ⟨rfl, hb1⟩; rw [hf])
      go_ret
      exact ⟨rfl, hb1⟩
    · have ht : textOf L = joined L := by unfold textOf; rw [hf, if_pos rfl, if_neg (by omega)]
      rw [ht]
      exact text_main hL hU hv hf (Nat.pos_of_ne_zero h0) hn2

/-- A label's words. -/
def flatW : List (Int × Int) → List Int
  | [] => []
  | p :: r => p.1 :: p.2 :: flatW r
def wordsOf (L : List (Int × Int)) : List Int := if fitB L = true then (L.length : Int) :: flatW L else []
theorem flatW_append (A C : List (Int × Int)) : flatW (A ++ C) = flatW A ++ flatW C := by
  induction A with
  | nil => rfl
  | cons p r ih => simp [flatW, ih]
theorem flatW_len (A : List (Int × Int)) : (flatW A).length = 2 * A.length := by
  induction A with
  | nil => rfl
  | cons p r ih => simp [flatW, ih]; omega
def wordsK (L : List (Int × Int)) (k : Nat) : List Int := (L.length : Int) :: flatW (L.take k)
theorem wordsK_len {L : List (Int × Int)} {k : Nat} (h : k ≤ L.length) : (wordsK L k).length = 1 + 2 * k := by simp [wordsK, flatW_len]; omega
theorem wordsK_succ {L : List (Int × Int)} {k : Nat} {x y : Int} (h : k < L.length) (e : L.getD k (0, 0) = (x, y)) : wordsK L (k + 1) = wordsK L k ++ [x, y] := by
  have e' : L[k] = (x, y) := by simpa [List.getD_eq_getElem?_getD, List.getElem?_eq_getElem h] using e
  unfold wordsK
  rw [List.take_succ_eq_append_getElem h, e', flatW_append]
  rfl

end Go.Proofs.YtbmfehkahjeobaaDoor
