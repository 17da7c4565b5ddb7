/-
  PROVED HERE: an instruction that is handed in is five numbers; what the library's variables hold where the statements' condition on them is met, and the frame of a statement under that condition (over this translation). No condition.
-/
import Derived.Test.YtdacepaebmcfbaaDoorRows
import Derived.Test.YtdacepaebmcfbaaDoorIns12
import Derived.WalkKit
import Derived.ProofKit
import Derived.OpenShut
import Derived.ChangeSame
import Derived.LaidMore
import Derived.HandedShaped
import Derived.Stop.LaidErr
import Derived.Stop.Joined
namespace Go.Proofs.YtdacepaebmcfbaaDoor
open Go.ChangeShapes Go.WideShapes Go.ChangeAt Go.RowKit
set_option linter.unusedVariables false

theorem laidOut : laidOutB Tryd.prog = true := by kernel_rfl
def InstOk (op a b c i : Int) : Prop := I64 op ∧ I64 a ∧ I64 b ∧ I64 c ∧ -2147483648 ≤ i ∧ i < 2147483648
theorem inst_of_trod {H : Type} {enc : TypeId × Value → H} {w : World} {base : Nat} {v : Value} {d : DataW H} {ps : List MemPlace} (hv : Value.okWide Tryd.prog w .any base 23 v)
    (h : DataW.Trod enc Tryd.prog w 0 (fun _ => true) true 23 v d ps) : ∃ op a b c i : Int, v = .agg #[.int .i64 op, .int .i64 a, .int .i64 b, .int .i64 c, .int .i32 i] ∧ InstOk op a b c i := by
  have c5 : Tryd.prog.cellsOf 23 = 5 := by kernel_rfl
  have ci : Tryd.prog.cellsOf 3 = 1 := by kernel_rfl
  have cj : Tryd.prog.cellsOf 21 = 1 := by kernel_rfl
  unfold Value.okWide at hv
  rw [Tryd.underlying23] at hv
  obtain ⟨cs, rfl, hs, _⟩ := hv
  rw [c5] at hs
  obtain ⟨x0, x1, x2, x3, x4, rfl⟩ : ∃ x0 x1 x2 x3 x4, cs = #[x0, x1, x2, x3, x4] := by
    match cs, hs with
    | ⟨[x0, x1, x2, x3, x4]⟩, _ => exact ⟨x0, x1, x2, x3, x4, rfl⟩
  obtain ⟨fuel, hf⟩ := h
  obtain ⟨xs, m, _, _, _, hlen, hg⟩ := DataW.trod_struct Tryd.underlying23 hf
  obtain ⟨y0, y1, y2, y3, y4, rfl⟩ : ∃ y0 y1 y2 y3 y4, xs = [y0, y1, y2, y3, y4] := by
    match xs, hlen with
    | [y0, y1, y2, y3, y4], _ => exact ⟨y0, y1, y2, y3, y4, rfl⟩
  have t0 : DataW.trod enc Tryd.prog w 0 (fun _ => true) true m 3 (([x0, x1, x2, x3, x4].drop 0).take (Tryd.prog.cellsOf 3)) = some y0 := hg 0 _ rfl
  have t1 : DataW.trod enc Tryd.prog w 0 (fun _ => true) true m 3 (([x0, x1, x2, x3, x4].drop 1).take (Tryd.prog.cellsOf 3)) = some y1 := hg 1 _ rfl
  have t2 : DataW.trod enc Tryd.prog w 0 (fun _ => true) true m 3 (([x0, x1, x2, x3, x4].drop 2).take (Tryd.prog.cellsOf 3)) = some y2 := hg 2 _ rfl
  have t3 : DataW.trod enc Tryd.prog w 0 (fun _ => true) true m 3 (([x0, x1, x2, x3, x4].drop 3).take (Tryd.prog.cellsOf 3)) = some y3 := hg 3 _ rfl
  have t4 : DataW.trod enc Tryd.prog w 0 (fun _ => true) true m 21 (([x0, x1, x2, x3, x4].drop 4).take (Tryd.prog.cellsOf 21)) = some y4 := hg 4 _ rfl
  rw [ci] at t0 t1 t2 t3
  rw [cj] at t4
  have t0' : DataW.trod enc Tryd.prog w 0 (fun _ => true) true m 3 [x0] = some y0 := t0
  have t1' : DataW.trod enc Tryd.prog w 0 (fun _ => true) true m 3 [x1] = some y1 := t1
  have t2' : DataW.trod enc Tryd.prog w 0 (fun _ => true) true m 3 [x2] = some y2 := t2
  have t3' : DataW.trod enc Tryd.prog w 0 (fun _ => true) true m 3 [x3] = some y3 := t3
  have t4' : DataW.trod enc Tryd.prog w 0 (fun _ => true) true m 21 [x4] = some y4 := t4
  have key : ∀ {v : Value} {y : DataW H × List MemPlace}, DataW.trod enc Tryd.prog w 0 (fun _ => true) true m 3 [v] = some y → ∃ a : Int, v = .int .i64 a ∧ I64 a := by
    intro v y h
    obtain ⟨n, e, _, hw⟩ := DataW.trod_int Tryd.underlying3 h
    simp at e
    have h' : -9223372036854775808 ≤ n ∧ n ≤ 9223372036854775807 := by simpa [Lit.wf, IntKind.min, IntKind.max, IntKind.bits, IntKind.signed] using hw
    exact ⟨n, e, h'⟩
  have key32 : ∀ {v : Value} {y : DataW H × List MemPlace}, DataW.trod enc Tryd.prog w 0 (fun _ => true) true m 21 [v] = some y → ∃ a : Int, v = .int .i32 a ∧ -2147483648 ≤ a ∧ a < 2147483648 := by
    intro v y h
    obtain ⟨n, e, _, hw⟩ := DataW.trod_int Tryd.underlying21 h
    simp at e
    have h' : -2147483648 ≤ n ∧ n ≤ 2147483647 := by simpa [Lit.wf, IntKind.min, IntKind.max, IntKind.bits, IntKind.signed] using hw
    exact ⟨n, e, h'.1, by omega⟩
  obtain ⟨op, rfl, ho⟩ := key t0'
  obtain ⟨a, rfl, ha⟩ := key t1'
  obtain ⟨b, rfl, hb⟩ := key t2'
  obtain ⟨c, rfl, hc⟩ := key t3'
  obtain ⟨i, rfl, hi⟩ := key32 t4'
  exact ⟨op, a, b, c, i, rfl, ho, ha, hb, hc, hi⟩

theorem own : ownKnob Tryd.prog.godebug = none := by kernel_rfl
def laidL : List (String × DataW Unit) := [("math/bits.deBruijn32tab", Rows.laid_math_bits_deBruijn32tab), ("math/bits.deBruijn64tab", Rows.laid_math_bits_deBruijn64tab), ("internal/strconv.uint64pow10", Rows.laid_internal_strconv_uint64pow10)]
theorem door_met (os : Os) (args : Array Value) : laidMetH Tryd.prog laidL ((World.doorLaid Tryd.prog 2000 os).forCall (fun _ _ => 0) ⟨#[], args, []⟩).memory :=
  laidMetH_of_parts3 (fuel := 8) (laidMet_of_run' 8 (by kernel_rfl) (by kernel_rfl)) (by kernel_rfl) (by kernel_rfl)
theorem laid_vars {W : World} (h : laidMetH Tryd.prog laidL W) : Vars W := by
  rw [MakeChecks.laidMetH_plain _ _ _ (by kernel_rfl)] at h
  have h2 := h.tail.tail
  exact Lib.tabIs_of_head (P := Tryd.prog) (k := .u64) (zs := Lib.pow10Tab) gPow (t := 67) (by kernel_rfl) Tryd.underlying67 Tryd.underlying24 (by kernel_rfl) (by kernel_rfl) h2

variable {H : Type} {enc : TypeId × Value → H}
set_option maxRecDepth 100000 in
/-- The frame of a statement whose listed variables read as the list says. -/
theorem returns_laid {os : Os} {f : FuncId} {fn : Func} {s : ChangeSpec} (started : os.Started) (noInit : Tryd.checked.prog.inits.idxOf? f = none) (hfn : Tryd.checked.prog.funcs[f]? = some fn)
    (witness : ∃ (w : World) (tape : Tape) (i : Input), w.os = os ∧ (w.forCall tape i).Shaped Tryd.checked.prog ∧ i.vars = [] ∧ Input.okWide Tryd.checked.prog (w.forCall tape i) .any w.heap.size f i ∧
      ((s.pre enc Tryd.checked.prog fn [] false (w.forCall tape i).memory i.args ∧ laidMetH Tryd.prog laidL (w.forCall tape i).memory) ∧ sizedMet enc Tryd.checked.prog fn (OpenSpec.ofChange s) false (w.forCall tape i).memory i.args) ∧ Assume.holds {} Tryd.checked.prog (lone (Frame.enter Tryd.checked.prog f i.args .normal) [] (w.forCall tape i)))
    (contract : ∀ (W : World) (base : Nat) (args : Array Value) (ds gs : List (DataW H)) (before : List MemPlace),
      (∀ (j : Nat) t v, fn.params[j]? = some t → args[j]? = some v → Value.okWide Tryd.checked.prog W .any base t v) → DataW.Whole enc Tryd.checked.prog fn.params.toList s.vars false W args.toList ds gs before → Vars W →
      Calls Tryd.checked.prog f args W fun e W' => ∃ v, e = .returned v ∧ s.post enc Tryd.checked.prog fn false true false false W args v W') :
    ReturnsInHanded {} Tryd.checked os f .any (fun w args => (s.pre enc Tryd.checked.prog fn [] false w args ∧ laidMetH Tryd.prog laidL w) ∧ sizedMet enc Tryd.checked.prog fn (OpenSpec.ofChange s) false w args) (s.post enc Tryd.checked.prog fn false true false false) := by
  refine returnsInHanded_of_calls own started noInit witness ?_
  intro w tape i _ hsh _ hok hpre hholds
  obtain ⟨_, _, _, fn', hfn', _, _, _, _, hval⟩ := hok
  obtain rfl : fn' = fn := Option.some.inj (hfn'.symm.trans hfn)
  obtain ⟨⟨⟨ds, gs, before, hw, _⟩, hx⟩, _⟩ := hpre
  have hx' : laidMetH Tryd.prog laidL (w.forCall tape i) := laidMetH.of_heap (show (w.forCall tape i).memory.heap = (w.forCall tape i).heap from rfl) hx
  refine (contract (w.forCall tape i) w.heap.size i.args ds gs before hval (DataW.Whole.of_heap (w' := w.forCall tape i) (by rfl) hw) (laid_vars hx')).mono fun e W' ⟨v, he, hp⟩ => ?_
  subst he
  exact ChangeSpec.post_blind hp
end Go.Proofs.YtdacepaebmcfbaaDoor
