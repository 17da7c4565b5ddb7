/-
  PROVED HERE: what few lines are (plain facts), and what Decode of the document returns at a program's word (a contract over this translation). No condition.
-/
import Derived.Test.YtagljcgfmdahhaaGreatDoorAsmAwk
namespace Go.Proofs.YtagljcgfmdahhaaGreatDoor
open Go.RowKit Go.Shelf
set_option linter.unusedVariables false
open Asm

theorem few_facts {l : List Ln} (h : fewB l = true) (ha : ∀ x ∈ l, x.ok ∧ x.mark.size ≤ reachBytes ∧ x.to.size ≤ reachBytes) : l.length ≤ 60 ∧ Okl l := by
  unfold fewB at h
  rw [Bool.and_eq_true] at h
  refine ⟨of_decide_eq_true h.1, fun x hx => ?_⟩
  have h1 := of_decide_eq_true (List.all_eq_true.1 h.2 x hx)
  exact ⟨(ha x hx).1, by omega, by omega⟩
theorem few_sizes {l : List Ln} (h : fewB l = true) : ∀ x ∈ l, x.mark.size + x.to.size ≤ 100 := fun x hx => by
  unfold fewB at h
  rw [Bool.and_eq_true] at h
  exact of_decide_eq_true (List.all_eq_true.1 h.2 x hx)
theorem Ib.set4 {W : World} {B : Nat} {op a b c i : Int} (h : Ib W B op a b c i) (x : Int) : Ib (W.setCell ⟨B, 4, none⟩ (.int .i32 x)) B op a b c x := (heap_setCell_same W B 4 _ 45 (.int .i32 x) h).trans (by simp)
theorem rdecode_word {op a b c i : Int} (hf : Ins.fitB op a b c i = true) (hi0 : -2147483648 ≤ i) (hi1 : i < 2147483648) (w : World) :
    Calls Tryz.prog 23 #[.int .u64 (Ins.wordI op a b c i)] w fun e w' => e = .returned (.tuple #[.agg #[.int .i64 op, .int .i64 a, .int .i64 b, .int .i64 c, .int .i32 i], .bool true]) ∧ Below w.heap.size w w' := by
  obtain ⟨h0, h1, hd, e1, e2, e3, e4, e5⟩ := dec_word hf hi0 hi1
  have := rdecode_ok _ h0 h1 hd w
  rw [e1, e2, e3, e4, e5] at this
  exact this
end Go.Proofs.YtagljcgfmdahhaaGreatDoor
