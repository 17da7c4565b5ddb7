/-
 PROVED HERE: a name (two words) that is handed in is two words (over this translation). What is asked stands at each.
-/
import Derived.Test.YtblklhgojdbfeaaGreatRows
import Derived.WalkKit
import Derived.ProofKit
import Derived.OpenShut
import Derived.ChangeSame
import Derived.Laws.Slices
import Derived.ChangeShapes
import Derived.ChangeSlices
namespace Go.Proofs.YtblklhgojdbfeaaGreat
set_option maxRecDepth 100000
set_option maxHeartbeats 8000000
open Go.ChangeShapes Go.WideShapes Go.ChangeAt Go.RowKit
set_option linter.unusedVariables false

theorem ref_of_trod {H : Type} {enc : TypeId × Value → H} {w : World} {base : Nat} {v : Value} {d : DataW H} {ps : List MemPlace} (hv : Value.okWide Tryz.prog w .any base 32 v)
  (h : DataW.Trod enc Tryz.prog w 0 (fun _ => true) true 32 v d ps) : ∃ a b : Nat, v = .agg #[.int .u64 (a : Int), .int .u64 (b : Int)] ∧ a < 18446744073709551616 ∧ b < 18446744073709551616 := by
 have c2 : Tryz.prog.cellsOf 32 = 2 := by kernel_rfl
 have ci : Tryz.prog.cellsOf 22 = 1 := by kernel_rfl
 unfold Value.okWide at hv
 rw [Tryz.underlying32] at hv
 obtain ⟨cs, rfl, hs, _⟩ := hv
 rw [c2] at hs
 obtain ⟨x, y, rfl⟩ : ∃ x y, cs = #[x, y] := by
  match cs, hs with
  | ⟨[x, y]⟩, _ => exact ⟨x, y, rfl⟩
 obtain ⟨fuel, hf⟩ := h
 obtain ⟨y0, y1, m, e, _, t0, t1⟩ := trod_struct2 Tryz.underlying32 hf
 rw [ci] at t0 t1
 have t0' : DataW.trod enc Tryz.prog w 0 (fun _ => true) true m 22 [x] = some y0 := t0
 have t1' : DataW.trod enc Tryz.prog w 0 (fun _ => true) true m 22 [y] = some y1 := t1
 have key : ∀ {v : Value} {y : DataW H × List MemPlace}, DataW.trod enc Tryz.prog w 0 (fun _ => true) true m 22 [v] = some y → ∃ a : Nat, v = .int .u64 (a : Int) ∧ a < 18446744073709551616 := by
  intro v y h
  obtain ⟨n, e, _, hw⟩ := DataW.trod_int Tryz.underlying22 h
  simp at e
  have h' : 0 ≤ n ∧ n ≤ 18446744073709551615 := by simpa [Lit.wf, IntKind.min, IntKind.max, IntKind.bits, IntKind.signed] using hw
  exact ⟨n.toNat, by rw [e]; congr 1; omega, by omega⟩
 obtain ⟨a, rfl, ha⟩ := key t0'
 obtain ⟨b, rfl, hb⟩ := key t1'
 exact ⟨a, b, rfl, ha, hb⟩
end Go.Proofs.YtblklhgojdbfeaaGreat
