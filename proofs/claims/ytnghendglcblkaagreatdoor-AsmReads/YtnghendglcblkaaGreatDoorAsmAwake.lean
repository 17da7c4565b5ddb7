/-
  PROVED HERE: what few and same of the statements of layer 10 return when they are called (contracts over this translation). At most 65536 words.
-/
import Derived.Test.YtnghendglcblkaaGreatDoorAsmOpen
import Derived.Deep.QuietTactic
namespace Go.Proofs.YtnghendglcblkaaGreatDoor
open Go.RowKit Go.Shelf
set_option linter.unusedVariables false
open Asm

/-- Few lines of short names. -/
def fewB (l : List Ln) : Bool := decide (l.length ≤ 60) && l.all fun x => decide (x.mark.size + x.to.size ≤ 100)
theorem put_ex1 : putW [⟨⟨#[97]⟩, 0, 0, 0, 0, 0, ⟨#[]⟩⟩, ⟨⟨#[]⟩, 18, 0, 0, 0, 0, ⟨#[97]⟩⟩] = [18446744069414584338] ∧ putK [⟨⟨#[97]⟩, 0, 0, 0, 0, 0, ⟨#[]⟩⟩, ⟨⟨#[]⟩, 18, 0, 0, 0, 0, ⟨#[97]⟩⟩] = 0 ∧ putE [⟨⟨#[97]⟩, 0, 0, 0, 0, 0, ⟨#[]⟩⟩, ⟨⟨#[]⟩, 18, 0, 0, 0, 0, ⟨#[97]⟩⟩] = 0 := by decide +kernel
theorem put_ex2 : putW [⟨⟨#[]⟩, 18, 0, 0, 0, 0, ⟨#[98]⟩⟩] = [] ∧ putK [⟨⟨#[]⟩, 18, 0, 0, 0, 0, ⟨#[98]⟩⟩] = 0 ∧ putE [⟨⟨#[]⟩, 18, 0, 0, 0, 0, ⟨#[98]⟩⟩] = 1 := by decide +kernel
theorem read_ex : rdW ⟨#[97, 58]⟩ = [⟨⟨#[97]⟩, 0, 0, 0, 0, 0, ⟨#[]⟩⟩] ∧ rdK ⟨#[97, 58]⟩ = 0 ∧ rdE ⟨#[97, 58]⟩ = 0 := by
  have hT : lns ⟨#[97, 58]⟩ = [⟨#[97, 58]⟩] := by decide +kernel
  have hl : lkl ⟨#[97, 58]⟩ = ⟨⟨#[97]⟩, 0, 0, 0, 0, 0, ⟨#[]⟩⟩ := by
    unfold lkl
    rw [if_pos (by decide +kernel)]
    rw [show tS ⟨#[97, 58]⟩ ⟨#[58]⟩ = ⟨#[97]⟩ by decide +kernel]
  have ht : txtT [⟨#[97, 58]⟩] 0 = ⟨#[97, 58]⟩ := by decide +kernel
  have hn : neN [⟨#[97, 58]⟩] = 1 := by decide +kernel
  have hx : xT [⟨#[97, 58]⟩] 0 = ⟨⟨#[97]⟩, 0, 0, 0, 0, 0, ⟨#[]⟩⟩ := by unfold xT; rw [ht, hl]
  have ho : okT [⟨#[97, 58]⟩] 0 = true := by
    unfold okT
    rw [hx, ht]
    refine decide_eq_true ?_
    unfold lineT
    rw [if_pos (by decide +kernel)]
    decide +kernel
  have h := rd_ok (s := ⟨#[97, 58]⟩) (by
    rw [hT, hn]
    intro j hj
    have : j = 0 := by simpa using hj
    subst this
    exact ho)
  rw [hT, hn] at h
  refine ⟨?_, h.2⟩
  rw [h.1]
  show [xT [⟨#[97, 58]⟩] 0] = _
  rw [hx]
end Go.Proofs.YtnghendglcblkaaGreatDoor
