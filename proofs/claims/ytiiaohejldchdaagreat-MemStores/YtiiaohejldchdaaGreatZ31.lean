/-
 PROVED HERE: plain facts on what a thread may name, see and change (no Go text). What is asked stands at each.
-/
import Derived.Test.YtiiaohejldchdaaGreatZ21
import Derived.Test.YtiiaohejldchdaaGreatZ23
namespace Go.Proofs.YtiiaohejldchdaaGreat
set_option maxRecDepth 100000
set_option maxHeartbeats 8000000
set_option linter.unusedVariables false

def seeB (L : Lb) (x : Ob) : Bool := leqB (shoC x) (raiseL L)
def chgB (L : Lb) (x : Ob) : Bool := seeB L x && leqB L x.label
def dirE (X : List Ob) (L : Lb) (i : Int) (wr : Bool) : Int := if (fnd X i).isSome = true ∧ (fO X i).kind = 2 ∧ seeB L (fO X i) = true then (if wr = true ∧ chgB L (fO X i) = false then 2 else 0) else 1
def lokE (X : List Ob) (L : Lb) (c i : Int) : Int := if dirE X L c false = 0 then (if i ∈ (fO X c).links ∧ (fnd X i).isSome = true then 0 else 1) else dirE X L c false
def allE (X : List Ob) (L : Lb) (c i kd : Int) (may : Ob → Bool) : Int := if lokE X L c i = 0 then (if kd = 0 ∨ kd = (fO X i).kind then (if may (fO X i) = true then 0 else 2) else 3) else lokE X L c i
def seeE (X : List Ob) (L : Lb) (c i kd : Int) : Int := allE X L c i kd (seeB L)
def resO (k : Int) (x : Ob) : Ob := if k = 0 then x else zOb
theorem dir_hid {X : List Ob} {L : Lb} {i : Int} {wr : Bool} (h : ¬ ((fnd X i).isSome = true ∧ (fO X i).kind = 2 ∧ seeB L (fO X i) = true)) : dirE X L i wr = 1 := by unfold dirE; rw [if_neg h]
theorem dir_two {X : List Ob} {L : Lb} {i : Int} {wr : Bool} (h : (fnd X i).isSome = true ∧ (fO X i).kind = 2 ∧ seeB L (fO X i) = true) (k : wr = true ∧ chgB L (fO X i) = false) : dirE X L i wr = 2 := by unfold dirE; rw [if_pos h, if_pos k]
theorem dir_ok {X : List Ob} {L : Lb} {i : Int} {wr : Bool} (h : (fnd X i).isSome = true ∧ (fO X i).kind = 2 ∧ seeB L (fO X i) = true) (k : ¬ (wr = true ∧ chgB L (fO X i) = false)) : dirE X L i wr = 0 := by unfold dirE; rw [if_pos h, if_neg k]
theorem dir_cases (X : List Ob) (L : Lb) (i : Int) (wr : Bool) : (dirE X L i wr = 0 ∧ (fnd X i).isSome = true ∧ (fO X i).kind = 2 ∧ seeB L (fO X i) = true ∧ (wr = true → chgB L (fO X i) = true)) ∨ dirE X L i wr = 1 ∨ (dirE X L i wr = 2 ∧ wr = true) := by
 by_cases h : (fnd X i).isSome = true ∧ (fO X i).kind = 2 ∧ seeB L (fO X i) = true
 ·by_cases k : wr = true ∧ chgB L (fO X i) = false
  ·exact .inr (.inr ⟨dir_two h k, k.1⟩)
  ·exact .inl ⟨dir_ok h k, h.1, h.2.1, h.2.2, fun e => by cases q : chgB L (fO X i) with | true => rfl | false => exact absurd ⟨e, q⟩ k⟩
 ·exact .inr (.inl (dir_hid h))
theorem lok_err {X : List Ob} {L : Lb} {c i : Int} (h : dirE X L c false ≠ 0) : lokE X L c i = dirE X L c false := by unfold lokE; rw [if_neg h]
theorem lok_no {X : List Ob} {L : Lb} {c i : Int} (h : dirE X L c false = 0) (k : ¬ (i ∈ (fO X c).links ∧ (fnd X i).isSome = true)) : lokE X L c i = 1 := by unfold lokE; rw [if_pos h, if_neg k]
theorem lok_ok {X : List Ob} {L : Lb} {c i : Int} (h : dirE X L c false = 0) (k : i ∈ (fO X c).links ∧ (fnd X i).isSome = true) : lokE X L c i = 0 := by unfold lokE; rw [if_pos h, if_pos k]
theorem lok_cases (X : List Ob) (L : Lb) (c i : Int) : (lokE X L c i = 0 ∧ dirE X L c false = 0 ∧ i ∈ (fO X c).links ∧ (fnd X i).isSome = true) ∨ lokE X L c i = 1 := by
 rcases dir_cases X L c false with h | h | h
 ·by_cases k : i ∈ (fO X c).links ∧ (fnd X i).isSome = true
  ·exact .inl ⟨lok_ok h.1 k, h.1, k⟩
  ·exact .inr (lok_no h.1 k)
 ·exact .inr ((lok_err (by rw [h]; decide)).trans h)
 ·exact absurd h.2 (by decide)
theorem all_err {X : List Ob} {L : Lb} {c i kd : Int} {may : Ob → Bool} (h : lokE X L c i ≠ 0) : allE X L c i kd may = lokE X L c i := by unfold allE; rw [if_neg h]
theorem all_kind {X : List Ob} {L : Lb} {c i kd : Int} {may : Ob → Bool} (h : lokE X L c i = 0) (k : ¬ (kd = 0 ∨ kd = (fO X i).kind)) : allE X L c i kd may = 3 := by unfold allE; rw [if_pos h, if_neg k]
theorem all_lab {X : List Ob} {L : Lb} {c i kd : Int} {may : Ob → Bool} (h : lokE X L c i = 0) (k : kd = 0 ∨ kd = (fO X i).kind) (m : may (fO X i) = false) : allE X L c i kd may = 2 := by unfold allE; rw [if_pos h, if_pos k, m]; rfl
theorem all_ok {X : List Ob} {L : Lb} {c i kd : Int} {may : Ob → Bool} (h : lokE X L c i = 0) (k : kd = 0 ∨ kd = (fO X i).kind) (m : may (fO X i) = true) : allE X L c i kd may = 0 := by unfold allE; rw [if_pos h, if_pos k, m]; rfl
theorem all_cases (X : List Ob) (L : Lb) (c i kd : Int) (may : Ob → Bool) : (allE X L c i kd may = 0 ∧ lokE X L c i = 0 ∧ (kd = 0 ∨ kd = (fO X i).kind) ∧ may (fO X i) = true) ∨ (allE X L c i kd may = 1 ∧ lokE X L c i = 1) ∨ (allE X L c i kd may = 3 ∧ lokE X L c i = 0 ∧ ¬ (kd = 0 ∨ kd = (fO X i).kind)) ∨ (allE X L c i kd may = 2 ∧ lokE X L c i = 0 ∧ (kd = 0 ∨ kd = (fO X i).kind) ∧ may (fO X i) = false) := by
 rcases lok_cases X L c i with h | h
 ·by_cases k : kd = 0 ∨ kd = (fO X i).kind
  ·cases m : may (fO X i) with
   | true => exact .inl ⟨all_ok h.1 k m, h.1, k, rfl⟩
   | false => exact .inr (.inr (.inr ⟨all_lab h.1 k m, h.1, k, rfl⟩))
  ·exact .inr (.inr (.inl ⟨all_kind h.1 k, h.1, k⟩))
 ·exact .inr (.inl ⟨(all_err (by rw [h]; decide)).trans h, h⟩)
end Go.Proofs.YtiiaohejldchdaaGreat
