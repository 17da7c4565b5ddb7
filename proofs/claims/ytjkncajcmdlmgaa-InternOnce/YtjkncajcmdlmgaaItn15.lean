/-
  PROVED HERE: what few and awake of the statements of layer 5 return when they are called (contracts over this translation). No condition.
-/
import Derived.Test.YtjkncajcmdlmgaaItn13
namespace Go.Proofs.Ytjkncajcmdlmgaa
open Go.ChangeShapes Go.WideShapes Go.ChangeAt Go.RowKit
set_option linter.unusedVariables false

/-- A table's box is written over. -/
theorem box_over {w : World} {B : Nat} {u v x y : Value} (h : Two w B 27 u v) : Two ((w.setCell ⟨B, 0, none⟩ x).setCell ⟨B, 1, none⟩ y) B 27 x y ∧ ∀ t, t ≠ 27 → KTy t w ((w.setCell ⟨B, 0, none⟩ x).setCell ⟨B, 1, none⟩ y) :=
  ⟨(h.set0 x).set1 y, fun t ht => (KTy.set h _ ht).trans (KTy.set (h.set0 x) _ ht)⟩
theorem over_below {w w2 : World} {B base : Nat} {x y : Value} (h : Below base w w2) (hB : base ≤ B) : Below base w ((w2.setCell ⟨B, 0, none⟩ x).setCell ⟨B, 1, none⟩ y) := (h.setCell (p := ⟨B, 0, none⟩) hB _).setCell (p := ⟨B, 1, none⟩) hB _
/-- A table of few labels of few pairs. -/
def fewB (LL : List (List (Int × Int))) (CC : List Int) : Bool := decide (LL.length ≤ 70) && (decide (CC.length ≤ 70) && LL.all fun l => decide (l.length ≤ 20))
theorem fewB_no {LL : List (List (Int × Int))} {CC : List Int} {i : Nat} (hi : i < LL.length) (h : 20 < (LL.getD i []).length) : fewB LL CC = false := by
  have : (LL.all fun l => decide (l.length ≤ 20)) = false := by
    rw [List.all_eq_false]
    refine ⟨LL.getD i [], ?_, by rw [decide_eq_false (by omega)]; simp⟩
    rw [List.getD_eq_getElem?_getD, List.getElem?_eq_getElem hi]
    exact List.getElem_mem hi
  unfold fewB; simp [this]
theorem fewB_yes {LL : List (List (Int × Int))} {CC : List Int} (h1 : LL.length ≤ 70) (h2 : CC.length ≤ 70) (h : ∀ i, i < LL.length → (LL.getD i []).length ≤ 20) : fewB LL CC = true := by
  have : (LL.all fun l => decide (l.length ≤ 20)) = true := by
    rw [List.all_eq_true]
    intro l hl
    obtain ⟨i, hi, e⟩ := List.getElem_of_mem hl
    have := h i hi
    rw [List.getD_eq_getElem?_getD, List.getElem?_eq_getElem hi] at this
    simp at this
    rw [← e]; simpa using this
  unfold fewB; simp [this, h1, h2]
theorem tab_nil (w : World) : Tab w none 0 0 none 0 [] := ⟨⟨rfl, Nat.le_refl _, ⟨by omega, fun _ => rfl⟩, fun h => absurd h (by omega)⟩, ⟨rfl, Nat.le_refl _, ⟨by omega, fun _ => rfl⟩, fun h => absurd h (by omega)⟩⟩
theorem fit_nil : FitP [] := ⟨by simp, fun h => absurd h (by simp), fun i hi => absurd hi (by simp), fun i j hi => absurd hi (by simp)⟩
theorem keepB_nil : keepB [] = true := by rfl
theorem add_nil1 : addR [] [] = ([([], 1)], 0, 0) := by decide
theorem add_nil2 : addR [([], 1)] [] = ([([], 2)], 0, 0) := by decide
theorem drop_nil2 : dropR [([], 2)] 1 = ([([], 2)], 1) := by decide
set_option maxRecDepth 100000 in
set_option maxHeartbeats 1000000 in
theorem awake_any (w : World) : Calls Try.prog 4 #[] w fun e w' => e = .returned (.bool true) ∧ Below w.heap.size w w' := by
  have hf2 : FitP [([], 1)] := by have := fit_add (Z := []) (l := []) fit_nil; rw [add_nil1] at this; exact this
  have hf3 : FitP [([], 2)] := by have := fit_add (Z := [([], 1)]) (l := []) hf2; rw [add_nil2] at this; exact this
  go_enter Try.func4, Try.ntmps4
  go_upto_region 2 with (go_at_call 6; refine (tadd_any (tab_nil w) fit_nil (Lab.nil _ _) (by omega)).mono ?_; rintro e w1 ⟨a1, n1, c1, a1', c1', rfl, hT1, hb1⟩; rw [add_nil1] at hT1 ⊢; obtain rfl := hT1.len)
  have hB1 : Below w1.heap.size w1 (w1.alloc (.cells #[.slice a1 1 c1, .slice a1' 1 c1'] 27)) := (Below.refl _ _).alloc (Nat.le_refl _) _
  have t1 : Two (w1.alloc (.cells #[.slice a1 1 c1, .slice a1' 1 c1'] 27)) w1.heap.size 27 (.slice a1 1 c1) (.slice a1' 1 c1') := Two.new _ _ _ _
  have hT1' : Tab (w1.alloc (.cells #[.slice a1 1 c1, .slice a1' 1 c1'] 27)) a1 1 c1 a1' c1' [([], 1)] := (hT1.next hB1).tab
  have hb1s := hb1.size
  have hw1 : Below w.heap.size w (w1.alloc (.cells #[.slice a1 1 c1, .slice a1' 1 c1'] 27)) := hb1.trans (hB1.mono hb1s)
  clear hT1 hB1 hb1
  go_upto_region 3 with (go_at_call 6; refine (tadd_any hT1' hf2 (Lab.nil _ _) (by omega)).mono ?_; rintro e w2 ⟨a2, n2, c2, a2', c2', rfl, hT2, hb2⟩; rw [add_nil2] at hT2 ⊢; obtain rfl := hT2.len; have T2 : Two w2 w1.heap.size 27 (.slice a1 1 c1) (.slice a1' 1 c1') := (hb2.block _ t1.lt).trans t1; have x0 := T2.cell0; have x1 := T2.cell1; have y0 := T2.frozen0 0; have y1 := T2.frozen0 1; have hw2 : Below w.heap.size w w2 := hw1.trans (hb2.mono hw1.size))
  obtain ⟨t3, k3⟩ := box_over (x := .slice a2 1 c2) (y := .slice a2' 1 c2') T2
  have hT3 := (hT2.kty k3)
  have hw3 := over_below (x := .slice a2 1 c2) (y := .slice a2' 1 c2') hw2 hb1s
  obtain ⟨W3, hW3⟩ : ∃ W3, Hid ((w2.setCell ⟨w1.heap.size, 0, none⟩ (.slice a2 1 c2)).setCell ⟨w1.heap.size, 1, none⟩ (.slice a2' 1 c2') = W3) := ⟨_, rfl⟩
  change TabN _ a2 1 c2 a2' c2' _ at hT3
  rw [hW3.out] at t3 hT3 hw3 ⊢
  obtain ⟨b, off, b', off', ai, ki, ci, rfl, rfl, hNb, hNb', q1, q3, q2⟩ := TabD.at hT3 (i := 0) (by omega)
  have q3 : W3.cell? ⟨b', off' + 0, none⟩ = some (.int .i64 2) := q3
  rw [Nat.add_zero] at q3
  have z1 := t3.cell1
  have z0 := t3.cell0
  have hT3' := hT3.tab
  have hnc := hT3'.2.2.1
  have hcm := hT3'.2.2.2.1.1
  clear x0 x1 y0 y1 hW3 T2 hT2 hb2 hT1' t1
  go_wp2_with (go_at_call 7; refine (tdrop_any 1 hT3' hf3).mono ?_; rintro e w4 ⟨a4, n4, c4, a4', c4', rfl, hT4, hb4⟩; rw [drop_nil2]; have u3 := (hb4.cell (p := ⟨b', off', none⟩) hNb'.lt).trans q3; have u1 := (hb4.cell (p := ⟨w1.heap.size, 1, none⟩) t3.lt).trans z1; have U3 := cellLater u3 (.cells #[.slice a4 n4 c4, .slice a4' n4 c4'] 27); have U1 := cellLater u1 (.cells #[.slice a4 n4 c4, .slice a4' n4 c4'] 27); have hw4 : Below w.heap.size w (w4.alloc (.cells #[.slice a4 n4 c4, .slice a4' n4 c4'] 27)) := (hw3.trans (hb4.mono hw3.size)).alloc (Nat.le_trans hw3.size hb4.size) _)
  go_ret
  exact ⟨rfl, hw4⟩
end Go.Proofs.Ytjkncajcmdlmgaa
