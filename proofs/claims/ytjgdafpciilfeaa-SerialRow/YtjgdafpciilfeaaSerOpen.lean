/-
  PROVED HERE: a span that is handed in is two words; a row of bytes that is handed in lies in memory as a list (over this translation). No condition.
-/
import Derived.Test.YtjgdafpciilfeaaRows
import Derived.WalkKit
import Derived.ProofKit
import Derived.OpenShut
import Derived.ChangeSame
import Derived.Laws.Slices
import Derived.ChangeShapes
import Derived.ChangeSlices
namespace Go.Proofs.Ytjgdafpciilfeaa
open Go.ChangeShapes Go.WideShapes Go.ChangeAt Go.RowKit
set_option linter.unusedVariables false

theorem laidOut : laidOutB Try.prog = true := by kernel_rfl
theorem spotS {w : World} {a : Addr} {v : Value} (h : w.cell? a = some v) : a = ⟨a.block, a.off, none⟩ ∧ ∀ j, a.add j = ⟨a.block, a.off + j, none⟩ := by
  have hs : a.spot = none := by
    unfold World.cell? at h
    cases hsp : a.spot with
    | none => rfl
    | some s => split at h <;> simp [hsp] at h
  have hea : a = ⟨a.block, a.off, none⟩ := by cases a; simp at hs; simp [hs]
  refine ⟨hea, fun j => ?_⟩
  unfold Addr.add
  split
  · rename_i hj; subst hj; rw [Nat.add_zero]; exact hea
  · rfl
theorem span_of_trod {H : Type} {enc : TypeId × Value → H} {w : World} {base : Nat} {v : Value} {d : DataW H} {ps : List MemPlace} (hv : Value.okWide Try.prog w .any base 24 v)
    (h : DataW.Trod enc Try.prog w 0 (fun _ => true) true 24 v d ps) : ∃ a b : Nat, v = .agg #[.int .u64 (a : Int), .int .u64 (b : Int)] ∧ a < 18446744073709551616 ∧ b < 18446744073709551616 := by
  have c2 : Try.prog.cellsOf 24 = 2 := by kernel_rfl
  have ci : Try.prog.cellsOf 22 = 1 := by kernel_rfl
  unfold Value.okWide at hv
  rw [Try.underlying24] at hv
  obtain ⟨cs, rfl, hs, _⟩ := hv
  rw [c2] at hs
  obtain ⟨x, y, rfl⟩ : ∃ x y, cs = #[x, y] := by
    match cs, hs with
    | ⟨[x, y]⟩, _ => exact ⟨x, y, rfl⟩
  obtain ⟨fuel, hf⟩ := h
  obtain ⟨y0, y1, m, e, _, t0, t1⟩ := trod_struct2 Try.underlying24 hf
  rw [ci] at t0 t1
  have t0' : DataW.trod enc Try.prog w 0 (fun _ => true) true m 22 [x] = some y0 := t0
  have t1' : DataW.trod enc Try.prog w 0 (fun _ => true) true m 22 [y] = some y1 := t1
  have key : ∀ {v : Value} {y : DataW H × List MemPlace}, DataW.trod enc Try.prog w 0 (fun _ => true) true m 22 [v] = some y → ∃ a : Nat, v = .int .u64 (a : Int) ∧ a < 18446744073709551616 := by
    intro v y h
    obtain ⟨n, e, _, hw⟩ := DataW.trod_int Try.underlying22 h
    simp at e
    have h' : 0 ≤ n ∧ n ≤ 18446744073709551615 := by simpa [Lit.wf, IntKind.min, IntKind.max, IntKind.bits, IntKind.signed] using hw
    exact ⟨n.toNat, by rw [e]; congr 1; omega, by omega⟩
  obtain ⟨a, rfl, ha⟩ := key t0'
  obtain ⟨b, rfl, hb⟩ := key t1'
  exact ⟨a, b, rfl, ha, hb⟩
/-- A row of bytes. -/
def ByteD (w : World) (ao : Option Addr) (n cap : Nat) (C : List Nat) : Prop :=
  C.length = n ∧ n ≤ cap ∧ cap ≤ 9223372036854775807 ∧ ∀ i, i < n → C.getD i 0 < 256 ∧ ∃ b off, ao = some ⟨b, off, none⟩ ∧ b < w.heap.size ∧ w.cell? ⟨b, off + i, none⟩ = some (.int .u8 ((C.getD i 0 : Nat) : Int))
theorem byteD_of_trod {H : Type} {enc : TypeId × Value → H} {w : World} {ao : Option Addr} {n cap : Nat} {d : DataW H} {ps : List MemPlace}
    (h : DataW.Trod enc Try.prog w 0 (fun _ => true) true 25 (.slice ao n cap) d ps) : ∃ C, ByteD w ao n cap C := by
  obtain ⟨fuel, hf⟩ := h
  rcases open_ints Try.underlying25 Try.underlying5 (by kernel_rfl) hf with ⟨e, _⟩ | ⟨a, len, cap', zs, e, hb, hl, hm, hzl, _, hc, hw⟩
  · simp [Value.cells] at e
    obtain ⟨rfl, rfl, rfl⟩ := e
    exact ⟨[], rfl, Nat.le_refl _, by omega, fun i hi => by omega⟩
  · simp [Value.cells] at e
    obtain ⟨rfl, rfl, rfl⟩ := e
    simp only [if_true] at hzl
    refine ⟨(zs.take n).map Int.toNat, by simp; omega, hl, by unfold maxLen at hm; omega, fun i hi => ?_⟩
    have z := hc i (by omega)
    have z0 := hc 0 (by omega)
    have ha0 : a.add 0 = a := by simp [Addr.add]
    rw [ha0] at z0
    obtain ⟨hea, hadd⟩ := spotS z0
    rw [hadd] at z
    have hi' : i < zs.length := by omega
    have hwi := hw zs[i] (List.getElem_mem hi')
    have h' : 0 ≤ zs[i] ∧ zs[i] ≤ 255 := by simpa [Lit.wf, IntKind.min, IntKind.max, IntKind.bits, IntKind.signed] using hwi
    have hg : ((zs.take n).map Int.toNat).getD i 0 = zs[i].toNat := by
      simp [List.getD_eq_getElem?_getD, hi, hi']
    rw [hg]
    refine ⟨by omega, a.block, a.off, by rw [← hea], World.block_lt_of_cell? w _ z0, ?_⟩
    rw [z, List.getD_eq_getElem?_getD, List.getElem?_eq_getElem hi']
    simp only [Option.getD_some, Option.some.injEq, Value.int.injEq, true_and]
    omega
end Go.Proofs.Ytjgdafpciilfeaa
