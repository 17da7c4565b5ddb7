/-
  PROVED HERE: what is dropped is all of an owner's, and nothing else (plain facts). No condition.
-/
import Derived.Test.YtjdjiooblfgmlaaFrm13
namespace Go.Proofs.Ytjdjiooblfgmlaa
open Go.RowKit
set_option linter.unusedVariables false
namespace Frm
theorem drop_len (o : Int) (L : List Fr) : (dropL o L).length = L.length := by unfold dropL; simp
theorem drop_at {o : Int} {L : List Fr} {i : Nat} (h : i < L.length) : fat (dropL o L) i = if hdB o (fat L i) then (0, 0) else fat L i := by unfold dropL; exact fat_map h
theorem drop_none (o : Int) (L : List Fr) : cnt (hdB o) (dropL o L) = 0 := by
  unfold cnt dropL
  rw [List.countP_eq_zero]
  intro f hf
  obtain ⟨g, _, rfl⟩ := List.mem_map.1 hf
  by_cases h : hdB o g = true
  · rw [if_pos h]; simp [hdB, isF]
  · rw [if_neg h]; exact h
theorem hd_nf {o : Int} {f : Fr} (h : hdB o f = true) : isF f = false := by
  unfold hdB at h; simp at h; exact h.1
theorem drop_free (o : Int) (L : List Fr) : cnt isF (dropL o L) = cnt isF L + cnt (hdB o) L := by
  unfold cnt dropL
  induction L with
  | nil => rfl
  | cons f r ih =>
    rw [List.map_cons, List.countP_cons, List.countP_cons, List.countP_cons, ih]
    by_cases h : hdB o f = true
    · rw [if_pos h]
      have : isF f = false := hd_nf h
      simp [h, this]
      rw [show isF (0, 0) = true from rfl]; simp; omega
    · rw [if_neg h]
      have : hdB o f = false := by simpa using h
      simp [this]; omega
end Frm
end Go.Proofs.Ytjdjiooblfgmlaa
