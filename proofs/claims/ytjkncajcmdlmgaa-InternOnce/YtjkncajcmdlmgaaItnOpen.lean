/-
  PROVED HERE: a table, a row of labels, a row of integers or of truths that is handed in lies in memory as lists (over this translation). No condition.
-/
import Derived.Test.YtjkncajcmdlmgaaLabOpen
import Derived.Test.YtjkncajcmdlmgaaItn2
import Derived.ChangeSame
import Derived.Laws.Slices
import Derived.ChangeShapes
namespace Go.Proofs.Ytjkncajcmdlmgaa
open Go.ChangeShapes Go.WideShapes Go.ChangeAt Go.RowKit
set_option linter.unusedVariables false

theorem spotK {w : World} {a : Addr} {v : Value} (h : w.cell? a = some v) : a = ⟨a.block, a.off, none⟩ ∧ ∀ j, a.add j = ⟨a.block, a.off + j, none⟩ := by
  have hs : a.spot = none := by
    unfold World.cell? at h
    cases hsp : a.spot with
    | none => rfl
    | some s => split at h <;> simp [hsp] at h
  have hea : a = ⟨a.block, a.off, none⟩ := by cases a; simp at hs; simp [hs]
  refine ⟨hea, fun j => ?_⟩
  unfold Addr.add
  split
  · rename_i hj; subst hj; rw [Nat.add_zero]; exact hea
  · rfl
theorem rowD_of_trod {H : Type} {enc : TypeId × Value → H} {w : World} {ao : Option Addr} {n cap : Nat} {d : DataW H} {ps : List MemPlace}
    (h : DataW.Trod enc Try.prog w 0 (fun _ => true) true 22 (.slice ao n cap) d ps) : ∃ R, RowD (fun b => b < w.heap.size) w ao n cap R := by
  obtain ⟨fuel, hf⟩ := h
  rcases DataW.trod_slice Try.underlying22 hf with ⟨e, _⟩ | ⟨a, len, cap', elems, rest, m, _, e, _, hb, hl, hm, hel, hcell, _, _⟩
  · simp [Value.cells] at e
    obtain ⟨rfl, rfl, rfl⟩ := e
    exact ⟨[], rfl, Nat.le_refl _, ⟨by omega, fun _ => rfl⟩, fun h => absurd h (by omega)⟩
  · simp [Value.cells] at e
    obtain ⟨rfl, rfl, rfl⟩ := e
    have c1 : Try.prog.cellsOf 29 = 1 := by kernel_rfl
    rw [c1] at hcell
    have key : ∀ i, ∃ L, i < n → ∃ a' k c, w.cell? (a.add i) = some (.slice a' k c) ∧ Lab w.heap.size w a' k c L := by
      intro i
      by_cases hi : i < n
      · have hc := hcell i hi
        rw [List.getElem?_eq_getElem (by omega), Nat.mul_one] at hc
        obtain ⟨cs, h1, h2⟩ := Option.bind_eq_some_iff.1 hc
        rcases DataW.trod_slice Try.underlying29 h2 with ⟨rfl, _⟩ | ⟨a2, len2, cap2, _, _, _, _, rfl, _⟩
        · have hv := cell_of_cells?_one h1
          obtain ⟨L, hL⟩ := lab_of_trod (ao := none) (n := 0) (cap := 0) ⟨m, h2⟩
          exact ⟨L, fun _ => ⟨_, _, _, hv, hL⟩⟩
        · have hv := cell_of_cells?_one h1
          obtain ⟨L, hL⟩ := lab_of_trod (ao := some a2) (n := len2) (cap := cap2) ⟨m, h2⟩
          exact ⟨L, fun _ => ⟨_, _, _, hv, hL⟩⟩
      · exact ⟨[], fun h => absurd h hi⟩
    refine ⟨(List.range n).map fun i => Classical.choose (key i), by simp, hl, ⟨by unfold maxLen at hm; omega, fun e => by cases e⟩, fun hn => ?_⟩
    obtain ⟨a0, k0, c0, z, _⟩ := Classical.choose_spec (key 0) hn
    have ha0 : a.add 0 = a := by simp [Addr.add]
    rw [ha0] at z
    obtain ⟨hea, hadd⟩ := spotK z
    refine ⟨a.block, a.off, by rw [← hea], World.block_lt_of_cell? w _ z, fun i hi => ?_⟩
    obtain ⟨a1, k1, c1, q1, q2⟩ := Classical.choose_spec (key i) hi
    rw [hadd] at q1
    refine ⟨a1, k1, c1, q1, ?_⟩
    have hg : ((List.range n).map fun i => Classical.choose (key i)).getD i [] = Classical.choose (key i) := by
      rw [List.getD_eq_getElem?_getD, List.getElem?_eq_getElem (by simpa using hi)]; simp
    rw [hg]; exact q2
theorem intD_of_trod {H : Type} {enc : TypeId × Value → H} {w : World} {ao : Option Addr} {n cap : Nat} {d : DataW H} {ps : List MemPlace}
    (h : DataW.Trod enc Try.prog w 0 (fun _ => true) true 25 (.slice ao n cap) d ps) : ∃ C, IntD (fun b => b < w.heap.size) w ao n cap C := by
  obtain ⟨fuel, hf⟩ := h
  rcases open_ints Try.underlying25 Try.underlying3 (by kernel_rfl) hf with ⟨e, _⟩ | ⟨a, len, cap', zs, e, hb, hl, hm, hzl, _, hc, hw⟩
  · simp [Value.cells] at e
    obtain ⟨rfl, rfl, rfl⟩ := e
    exact ⟨[], rfl, Nat.le_refl _, ⟨by omega, fun _ => rfl⟩, fun h => absurd h (by omega)⟩
  · simp [Value.cells] at e
    obtain ⟨rfl, rfl, rfl⟩ := e
    simp only [if_true] at hzl
    refine ⟨zs.take n, by rw [List.length_take]; omega, hl, ⟨by unfold maxLen at hm; omega, fun e => by cases e⟩, fun hn => ?_⟩
    have z := hc 0 (by omega)
    have ha0 : a.add 0 = a := by simp [Addr.add]
    rw [ha0] at z
    obtain ⟨hea, hadd⟩ := spotK z
    refine ⟨a.block, a.off, by rw [← hea], World.block_lt_of_cell? w _ z, fun i hi => ?_⟩
    have hk := hc i (by omega)
    rw [hadd] at hk
    rw [hk]
    simp [List.getD_eq_getElem?_getD, hi]
theorem tab_of_trod {H : Type} {enc : TypeId × Value → H} {w : World} {base : Nat} {v : Value} {d : DataW H} {ps : List MemPlace} (hv : Value.okWide Try.prog w .any base 27 v)
    (h : DataW.Trod enc Try.prog w 0 (fun _ => true) true 27 v d ps) : ∃ a n c a' n' c' LL CC, v = .agg #[.slice a n c, .slice a' n' c'] ∧ TabD (fun b => b < w.heap.size) w a n c a' n' c' LL CC := by
  have c2 : Try.prog.cellsOf 27 = 2 := by kernel_rfl
  have cl : Try.prog.cellsOf 22 = 1 := by kernel_rfl
  have ci : Try.prog.cellsOf 25 = 1 := by kernel_rfl
  unfold Value.okWide at hv
  rw [Try.underlying27] at hv
  obtain ⟨cs, rfl, hs, _⟩ := hv
  rw [c2] at hs
  obtain ⟨x, y, rfl⟩ : ∃ x y, cs = #[x, y] := by
    match cs, hs with
    | ⟨[x, y]⟩, _ => exact ⟨x, y, rfl⟩
  obtain ⟨fuel, hf⟩ := h
  obtain ⟨y0, y1, m, e, _, t0, t1⟩ := trod_struct2 Try.underlying27 hf
  rw [cl] at t0
  rw [ci] at t1
  have t0' : DataW.trod enc Try.prog w 0 (fun _ => true) true m 22 [x] = some y0 := t0
  have t1' : DataW.trod enc Try.prog w 0 (fun _ => true) true m 25 [y] = some y1 := t1
  have hx : ∃ a n c, x = .slice a n c := by
    rcases DataW.trod_slice Try.underlying22 t0' with ⟨e, _⟩ | ⟨a, len, cap', _, _, _, _, e, _⟩
    · simp at e; exact ⟨_, _, _, e⟩
    · simp at e; exact ⟨_, _, _, e⟩
  have hy : ∃ a n c, y = .slice a n c := by
    rcases DataW.trod_slice Try.underlying25 t1' with ⟨e, _⟩ | ⟨a, len, cap', _, _, _, _, e, _⟩
    · simp at e; exact ⟨_, _, _, e⟩
    · simp at e; exact ⟨_, _, _, e⟩
  obtain ⟨a, n, c, rfl⟩ := hx
  obtain ⟨a', n', c', rfl⟩ := hy
  obtain ⟨LL, hL⟩ := rowD_of_trod (ps := y0.2) (d := y0.1) ⟨m, t0'⟩
  obtain ⟨CC, hC⟩ := intD_of_trod (ps := y1.2) (d := y1.1) ⟨m, t1'⟩
  exact ⟨a, n, c, a', n', c', LL, CC, rfl, hL, hC⟩
end Go.Proofs.Ytjkncajcmdlmgaa
