/-
  PROVED HERE: what reading a text again brings, in the form in which the law's walk takes it. No condition.
-/
import Derived.Test.YtnghendglcblkaaGreatDoorAsm19
import Derived.Test.YtnghendglcblkaaGreatDoorAsm20
import Derived.Test.YtnghendglcblkaaGreatDoorAsmFew
namespace Go.Proofs.YtnghendglcblkaaGreatDoor
open Go.RowKit Go.Shelf
set_option linter.unusedVariables false
open Asm

theorem good_ok {x : Ln} (h : goodB x = true) (h0 : -2147483648 ≤ x.i) (h1 : x.i < 2147483648) : x.ok := by
  unfold goodB at h
  cases hm : markB x with
  | true =>
    obtain ⟨_, e, _⟩ := mark_line hm
    rw [e]
    exact ⟨⟨by show _ ≤ (0 : Int); omega, by show (0 : Int) ≤ _; omega⟩, ⟨by show _ ≤ (0 : Int); omega, by show (0 : Int) ≤ _; omega⟩, ⟨by show _ ≤ (0 : Int); omega, by show (0 : Int) ≤ _; omega⟩, ⟨by show _ ≤ (0 : Int); omega, by show (0 : Int) ≤ _; omega⟩, by show _ ≤ (0 : Int); omega, by show (0 : Int) < _; omega⟩
  | false =>
    rw [hm] at h
    obtain ⟨_, h2, _⟩ := ins_parts (x := x) (by simpa using h)
    obtain ⟨⟨o0, o1⟩, _, _, _⟩ := Ins.fit_bounds h2
    obtain ⟨ha, hb, hc⟩ := fit_64 h2
    exact ⟨⟨by omega, by omega⟩, ha, hb, hc, h0, h1⟩
theorem rd_okl {s : ByteArray} (h : rdE s = 0) (hs : s.size ≤ 65536) : Okl (rdW s) := fun x hx => by
  obtain ⟨hg, ⟨h0, h1⟩, h2, h3⟩ := rd_good h x hx
  exact ⟨good_ok hg h0 h1, by omega, by omega⟩
theorem rdE_cases (s : ByteArray) : rdE s = 0 ∨ rdE s = 11 := by
  unfold rdE rd
  split
  · exact .inl rfl
  · exact .inr rfl
/-- What is read, as a text, and read again. -/
theorem rd_again {s : ByteArray} (h : rdE s = 0) (hs : s.size ≤ 600) : ∃ T, prg (rdW s) = T ∧ T.size ≤ 65536 ∧ rdW T = rdW s ∧ rdK T = 0 ∧ rdE T = 0 := by
  have hg := rd_good h
  have hl := rd_len h
  refine ⟨sb (txL (rdW s)), prg_yes (fun x hx => (hg x hx).1), by rw [sb_size]; omega, rd_prg (fun x hx => (hg x hx).1) (fun x hx => (hg x hx).2.1)⟩
theorem prg_again {l : List Ln} (h : l.all goodB = true) (hok : Okl l) (hl : l.length ≤ 60) : ∃ T, prg l = T ∧ T.size ≤ 65536 ∧ rdW T = l ∧ rdK T = 0 ∧ rdE T = 0 := by
  have hi : ∀ x ∈ l, -2147483648 ≤ x.i ∧ x.i < 2147483648 := fun x hx => (hok x hx).1.2.2.2.2
  have hle := txL_le hi
  exact ⟨sb (txL l), prg_yes (List.all_eq_true.1 h), by rw [sb_size]; omega, rd_prg (List.all_eq_true.1 h) hi⟩
end Go.Proofs.YtnghendglcblkaaGreatDoor
