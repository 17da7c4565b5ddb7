/-
  PROVED HERE: the contracts of package label in the form in which the statements' walks take them (over this translation). The labels have fewer than 2^38 pairs where one is made.
-/
import Derived.Test.YtfpmkihlfhpgdaaLabMath
import Derived.Test.YtfpmkihlfhpgdaaLabMake
import Derived.Test.YtfpmkihlfhpgdaaLabCon2
import Derived.Test.YtfpmkihlfhpgdaaLabOpen
namespace Go.Proofs.Ytfpmkihlfhpgdaa
open Go.ChangeShapes Go.WideShapes Go.ChangeAt Go.RowKit
set_option linter.unusedVariables false

/-- All these labels lie in w. -/
def Labs (w : World) (ls : List (Option Addr × Nat × Nat × List (Int × Int))) : Prop := ∀ x ∈ ls, Lab w.heap.size w x.1 x.2.1 x.2.2.1 x.2.2.2
theorem Labs.nil (w : World) : Labs w [] := fun x hx => by cases hx
theorem Labs.push {w : World} {ls : List (Option Addr × Nat × Nat × List (Int × Int))} (h : Labs w ls) {ao : Option Addr} {n cap : Nat} {L : List (Int × Int)} (l : Lab w.heap.size w ao n cap L) : Labs w ((ao, n, cap, L) :: ls) := fun x hx => by
  rcases List.mem_cons.1 hx with rfl | hx
  · exact l
  · exact h x hx
theorem Labs.next {w w' : World} {ls : List (Option Addr × Nat × Nat × List (Int × Int))} (h : Labs w ls) (k : Below w.heap.size w w') : Labs w' ls := fun x hx => (h x hx).next k
theorem Labs.get {w : World} {ls : List (Option Addr × Nat × Nat × List (Int × Int))} (h : Labs w ls) {ao : Option Addr} {n cap : Nat} {L : List (Int × Int)} (hm : (ao, n, cap, L) ∈ ls) : Lab w.heap.size w ao n cap L := h _ hm

theorem lraise_b {w : World} {ao : Option Addr} {k cap : Nat} {A : List (Int × Int)} (hA : Lab w.heap.size w ao k cap A) (hk : k < 274877906944) :
    Calls Try.prog 57 #[.slice ao k cap] w fun e w' => ∃ ao1 n1 cap1, e = .returned (.slice ao1 n1 cap1) ∧ Lab w'.heap.size w' ao1 n1 cap1 (raiseL A) ∧ n1 ≤ k ∧ Below w.heap.size w w' := by
  refine (lraise_any hA hk).mono ?_
  rintro e w' ⟨ao1, n1, cap1, rfl, ho, hb⟩
  refine ⟨ao1, n1, cap1, rfl, ho.lab, ?_, hb⟩
  have h1 := ho.1
  have h2 := foldP_len (fun x _ => Lv.raise x) (both A [])
  have h3 := both_len A []
  have h4 := hA.1
  simp at h3
  omega
/- What the walks make of 'few'. -/

/-! The order and the lattice, as the statements ask for them. -/
theorem leqB_no {A C : List (Int × Int)} (h : ¬ leqB A C = true) : leqB A C = false := by simpa using h
theorem leqB_refl {A : List (Int × Int)} (hA : Fit A) : leqB A A = true := (leqB_iff hA hA).2 fun k => Int.le_refl _
theorem leqB_trans {A B C : List (Int × Int)} (hA : Fit A) (hB : Fit B) (hC : Fit C) (h : leqB A B = true) (k : leqB B C = true) : leqB A C = true :=
  (leqB_iff hA hC).2 fun c => Int.le_trans ((leqB_iff hA hB).1 h c) ((leqB_iff hB hC).1 k c)
theorem leqB_same {A B : List (Int × Int)} (hA : Fit A) (hB : Fit B) (h : leqB A B = true) (k : leqB B A = true) : A = B :=
  ext hA hB fun c => Int.le_antisymm ((leqB_iff hA hB).1 h c) ((leqB_iff hB hA).1 k c)
theorem sameB_eq {A B : List (Int × Int)} : sameB A B = true ↔ A = B := by unfold sameB; simp
theorem leq_j1 {A B : List (Int × Int)} (hA : Fit A) (hB : Fit B) : leqB A (joinL A B) = true := (leqB_iff hA (joinL_fit hA hB)).2 fun c => by rw [joinL_get hA hB]; omega
theorem leq_j2 {A B : List (Int × Int)} (hA : Fit A) (hB : Fit B) : leqB B (joinL A B) = true := (leqB_iff hB (joinL_fit hA hB)).2 fun c => by rw [joinL_get hA hB]; omega
theorem m1_leq {A B : List (Int × Int)} (hA : Fit A) (hB : Fit B) : leqB (meetL A B) A = true := (leqB_iff (meetL_fit hA hB) hA).2 fun c => by rw [meetL_get hA hB]; omega
theorem m2_leq {A B : List (Int × Int)} (hA : Fit A) (hB : Fit B) : leqB (meetL A B) B = true := (leqB_iff (meetL_fit hA hB) hB).2 fun c => by rw [meetL_get hA hB]; omega
theorem j_leq {A B C : List (Int × Int)} (hA : Fit A) (hB : Fit B) (hC : Fit C) (h : leqB A C = true) (k : leqB B C = true) : leqB (joinL A B) C = true :=
  (leqB_iff (joinL_fit hA hB) hC).2 fun c => by rw [joinL_get hA hB]; have := (leqB_iff hA hC).1 h c; have := (leqB_iff hB hC).1 k c; omega
theorem leq_m {A B C : List (Int × Int)} (hA : Fit A) (hB : Fit B) (hC : Fit C) (h : leqB C A = true) (k : leqB C B = true) : leqB C (meetL A B) = true :=
  (leqB_iff hC (meetL_fit hA hB)).2 fun c => by rw [meetL_get hA hB]; have := (leqB_iff hC hA).1 h c; have := (leqB_iff hC hB).1 k c; omega
theorem same_of {A B : List (Int × Int)} (hA : Fit A) (hB : Fit B) (h : ∀ c, get A c = get B c) : sameB A B = true := sameB_eq.2 (ext hA hB h)
theorem jcomm {A B : List (Int × Int)} (hA : Fit A) (hB : Fit B) : sameB (joinL A B) (joinL B A) = true := same_of (joinL_fit hA hB) (joinL_fit hB hA) fun c => by rw [joinL_get hA hB, joinL_get hB hA]; omega
theorem mcomm {A B : List (Int × Int)} (hA : Fit A) (hB : Fit B) : sameB (meetL A B) (meetL B A) = true := same_of (meetL_fit hA hB) (meetL_fit hB hA) fun c => by rw [meetL_get hA hB, meetL_get hB hA]; omega
theorem jself {A : List (Int × Int)} (hA : Fit A) : sameB (joinL A A) A = true := same_of (joinL_fit hA hA) hA fun c => by rw [joinL_get hA hA]; omega
theorem mself {A : List (Int × Int)} (hA : Fit A) : sameB (meetL A A) A = true := same_of (meetL_fit hA hA) hA fun c => by rw [meetL_get hA hA]; omega
theorem jassoc {A B C : List (Int × Int)} (hA : Fit A) (hB : Fit B) (hC : Fit C) : sameB (joinL A (joinL B C)) (joinL (joinL A B) C) = true := same_of (joinL_fit hA (joinL_fit hB hC)) (joinL_fit (joinL_fit hA hB) hC) fun c => by
  rw [joinL_get hA (joinL_fit hB hC), joinL_get hB hC, joinL_get (joinL_fit hA hB) hC, joinL_get hA hB]; omega
theorem massoc {A B C : List (Int × Int)} (hA : Fit A) (hB : Fit B) (hC : Fit C) : sameB (meetL A (meetL B C)) (meetL (meetL A B) C) = true := same_of (meetL_fit hA (meetL_fit hB hC)) (meetL_fit (meetL_fit hA hB) hC) fun c => by
  rw [meetL_get hA (meetL_fit hB hC), meetL_get hB hC, meetL_get (meetL_fit hA hB) hC, meetL_get hA hB]; omega
theorem spread {A B C : List (Int × Int)} (hA : Fit A) (hB : Fit B) (hC : Fit C) : sameB (meetL A (joinL B C)) (joinL (meetL A B) (meetL A C)) = true :=
  same_of (meetL_fit hA (joinL_fit hB hC)) (joinL_fit (meetL_fit hA hB) (meetL_fit hA hC)) fun c => by
  rw [meetL_get hA (joinL_fit hB hC), joinL_get hB hC, joinL_get (meetL_fit hA hB) (meetL_fit hA hC), meetL_get hA hB, meetL_get hA hC]; omega
theorem absorb {A B : List (Int × Int)} (hA : Fit A) (hB : Fit B) : sameB (joinL A (meetL A B)) A = true := same_of (joinL_fit hA (meetL_fit hA hB)) hA fun c => by
  rw [joinL_get hA (meetL_fit hA hB), meetL_get hA hB]; omega
end Go.Proofs.Ytfpmkihlfhpgdaa
