/-
  PROVED HERE: what the library's variables hold where the statements' condition on them is met, the frame of a statement under that condition, and that rows of lines and of words that are handed in lie in memory as lists (over this translation).
-/
import Derived.Test.YtnghendglcblkaaGreatDoorRows
import Derived.Test.YtnghendglcblkaaGreatDoorAsm16
import Derived.Deep.SlicePairs
import Derived.ChangeSame
import Derived.Lay
import Derived.SizedLaws
import Derived.ProofKit
import Derived.LaidMore
import Derived.OpenShut
import Derived.HandedShaped
import Derived.Stop.LaidErr
import Derived.Stop.Joined
namespace Go.Proofs.YtnghendglcblkaaGreatDoor
open Go.ChangeShapes Go.WideShapes Go.ChangeAt Go.RowKit

theorem own : ownKnob Tryz.prog.godebug = none := by kernel_rfl
def laidL : List (String × DataW Unit) := [("math/bits.deBruijn32tab", Rows.laid_math_bits_deBruijn32tab), ("math/bits.deBruijn64tab", Rows.laid_math_bits_deBruijn64tab), ("internal/strconv.uint64pow10", Rows.laid_internal_strconv_uint64pow10), ("unicode/utf8.acceptRanges", Rows.laid_unicode_utf8_acceptRanges), ("strconv.ErrRange", Rows.laid_strconv_ErrRange), ("strconv.ErrSyntax", Rows.laid_strconv_ErrSyntax), ("unicode/utf8.first", Rows.laid_unicode_utf8_first)]
theorem laid_met (os : Os) (args : Array Value) : laidMetH Tryz.prog laidL ((World.laidAll Tryz.prog os laidL).forCall (fun _ _ => 0) ⟨#[], args, []⟩).memory := by
  rw [MakeChecks.laidMetH_plain _ _ _ (by kernel_rfl)]
  exact laidMet_laidAll _ (by kernel_rfl) (by kernel_rfl)
theorem errStar : "*errors.errorString" = "*" ++ "errors.errorString" := rfl
theorem errRow (u : TypeId) (h : Tryz.prog.typeName? 3 u = some "*errors.errorString") : u = 149 :=
  typeName_ptr_named (nm := "errors.errorString") (by rw [← errStar]; kernel_rfl) (by kernel_rfl) (by decide) u (by rw [← errStar]; exact h)
theorem var_of_cell {W : World} {n : String} {g : Nat} {cs : Array Value} {t : TypeId} {fr : Nat × Nat} (hg : Tryz.prog.globalNamed n = some g) (h : W.heap[g]? = some (.cells cs t fr)) : W.var? Tryz.prog n = some cs := by
  unfold World.var?
  rw [hg, Option.bind_some, h]
theorem laid_vars {W : World} (h : laidMetH Tryz.prog laidL W) (hs : W.ShapedOpen Tryz.prog) : AVars W := by
  rw [MakeChecks.laidMetH_plain _ _ _ (by kernel_rfl)] at h
  have h2 := h.tail.tail
  have h3 := h2.tail.tail
  have h4 := h3.tail
  have hT : PowTab W := Lib.tabIs_of_head (P := Tryz.prog) (k := .u64) (zs := Lib.pow10Tab) gPow (t := 153) (by kernel_rfl) Tryz.underlying153 Tryz.underlying55 (by kernel_rfl) (by kernel_rfl) h2
  obtain ⟨a1, s1, hv1, _⟩ := laid_sentinel h3 gRan (ti := 65) (by kernel_rfl) Tryz.underlying65 errRow Tryz.underlying149 Tryz.underlying151 rfl rfl Tryz.underlying9 (by kernel_rfl) (by kernel_rfl)
  obtain ⟨a2, s2, hv2, _⟩ := laid_sentinel h4 gSyn (ti := 65) (by kernel_rfl) Tryz.underlying65 errRow Tryz.underlying149 Tryz.underlying151 rfl rfl Tryz.underlying9 (by kernel_rfl) (by kernel_rfl)
  obtain ⟨m, hm⟩ := cell_of_shapedOpen_int (P := Tryz.prog) (g := 0) (t := 3) (zero := #[.int .i64 0]) (k := .i64) hs (of_decide_eq_true (by kernel_rfl)) (by kernel_rfl) rfl (by kernel_rfl) (by kernel_rfl) Tryz.underlying3
  obtain ⟨cs, hh, hsz, _⟩ := hs.1 0 #[.int .i64 0] 3 (of_decide_eq_true (by kernel_rfl)) (by kernel_rfl)
  have hc1 : cs.size = 1 := hsz
  refine ⟨hT, ⟨_, _, hv2⟩, ⟨_, _, hv1⟩, m, ?_⟩
  have hv := var_of_cell gMax hh
  have hcell := World.var?_cell gMax hv 0
  rw [hm] at hcell
  rw [hv]
  congr 1
  apply Array.ext
  · simpa using hc1
  · intro i h1 h2
    have : i = 0 := by simp at h2; omega
    subst this
    have := hcell
    rw [Array.getElem?_eq_getElem h1] at this
    simpa using (Option.some.inj this).symm

theorem laidOut : laidOutB Tryz.prog = true := by kernel_rfl
theorem spotK {w : World} {a : Addr} {v : Value} (h : w.cell? a = some v) : a = ⟨a.block, a.off, none⟩ ∧ ∀ j, a.add j = ⟨a.block, a.off + j, none⟩ := by
  have hs : a.spot = none := by
    unfold World.cell? at h
    cases hsp : a.spot with
    | none => rfl
    | some s => split at h <;> simp [hsp] at h
  have hea : a = ⟨a.block, a.off, none⟩ := by cases a; simp at hs; simp [hs]
  refine ⟨hea, fun j => ?_⟩
  unfold Addr.add
  split
  · rename_i hj; subst hj; rw [Nat.add_zero]; exact hea
  · rfl
open Asm
/-- Lines that are handed in. -/
def LnA (w : World) (ao : Option Addr) (n cap : Nat) (l : List Ln) : Prop := Lns w.heap.size w ao n cap l ∧ ∀ x ∈ l, x.ok ∧ x.mark.size ≤ reachBytes ∧ x.to.size ≤ reachBytes
/-- Words that are handed in. -/
def WdA (w : World) (ao : Option Addr) (n cap : Nat) (ws : List Int) : Prop := Wds w.heap.size w ao n cap ws ∧ W64 ws
theorem wd_of_trod {H : Type} {enc : TypeId × Value → H} {w : World} {ao : Option Addr} {n cap : Nat} {d : DataW H} {ps : List MemPlace}
    (h : DataW.Trod enc Tryz.prog w 0 (fun _ => true) true 31 (.slice ao n cap) d ps) : ∃ ws, WdA w ao n cap ws := by
  obtain ⟨fuel, hf⟩ := h
  have c1 : Tryz.prog.cellsOf 55 = 1 := by kernel_rfl
  rcases Go.Deep.open_slice Tryz.underlying31 hf with ⟨e, _⟩ | ⟨a, len, cap', m, n', D, Pl, e, hb, hl, hm, hmm, _, hx⟩
  · simp [Value.cells] at e
    obtain ⟨rfl, rfl, rfl⟩ := e
    exact ⟨[], ⟨rfl, Nat.le_refl _, ⟨by omega, fun _ => rfl⟩, fun h => absurd h (by omega)⟩, fun x hx => by cases hx⟩
  · simp [Value.cells] at e
    obtain ⟨rfl, rfl, rfl⟩ := e
    have hmc : m = cap := by rw [hmm]; rfl
    have key : ∀ i, ∃ z : Int, i < n → (w.cell? (a.add i) = some (.int .u64 z) ∧ 0 ≤ z ∧ z < 18446744073709551616) := by
      intro i
      by_cases hi : i < n
      · obtain ⟨cs, h1, h2⟩ := hx i (by omega)
        rw [c1, Nat.mul_one] at h1
        obtain ⟨z, hz, _, hw⟩ := DataW.trod_int Tryz.underlying55 h2
        rw [hz] at h1
        have h' : 0 ≤ z ∧ z ≤ 18446744073709551615 := by simpa [Lit.wf, IntKind.min, IntKind.max, IntKind.bits, IntKind.signed] using hw
        exact ⟨z, fun _ => ⟨cell_of_cells?_one h1, h'.1, by omega⟩⟩
      · exact ⟨0, fun h => absurd h hi⟩
    refine ⟨(List.range n).map fun i => Classical.choose (key i), ⟨by simp, hl, ⟨by unfold maxLen at hm; omega, fun e => by cases e⟩, fun hn => ?_⟩, fun x hx => ?_⟩
    · obtain ⟨v0, z⟩ : ∃ v0, w.cell? (a.add 0) = some v0 := ⟨_, (Classical.choose_spec (key 0) hn).1⟩
      have ha0 : a.add 0 = a := by simp [Addr.add]
      rw [ha0] at z
      obtain ⟨hea, hadd⟩ := spotK z
      refine ⟨a.block, a.off, by rw [← hea], World.block_lt_of_cell? w _ z, fun i hi => ?_⟩
      have hg : ((List.range n).map fun i => Classical.choose (key i)).getD i 0 = Classical.choose (key i) := by
        rw [List.getD_eq_getElem?_getD, List.getElem?_eq_getElem (by simpa using hi)]; simp
      rw [← hadd i, hg]
      exact (Classical.choose_spec (key i) hi).1
    · obtain ⟨i, hi, rfl⟩ := List.mem_map.1 hx
      exact (Classical.choose_spec (key i) (List.mem_range.1 hi)).2
theorem mem_all {H : Type} {P : Program} {e : TypeId} {z : Nat} {d : DataW H} : ∀ {ds : List (DataW H)}, d ∈ ds → z ∈ DataW.weights P e d → z ∈ DataW.weightsAll P e ds
  | [], h, _ => by cases h
  | d' :: ds, h, hz => by
    unfold DataW.weightsAll
    rcases List.mem_cons.1 h with rfl | h
    · exact List.mem_append_left _ hz
    · exact List.mem_append_right _ (mem_all h hz)
theorem ln_of_trod {H : Type} {enc : TypeId × Value → H} {w : World} {ao : Option Addr} {n cap : Nat} {d : DataW H} {ps : List MemPlace}
    (h : DataW.Trod enc Tryz.prog w 0 (fun _ => true) true 23 (.slice ao n cap) d ps) (hwt : ∀ z ∈ DataW.weights Tryz.prog 23 d, z ≤ reachBytes) : ∃ l, LnA w ao n cap l := by
  obtain ⟨fuel, hf⟩ := h
  have c7 : Tryz.prog.cellsOf 37 = 7 := by kernel_rfl
  have c5 : Tryz.prog.cellsOf 35 = 5 := by kernel_rfl
  have ci : Tryz.prog.cellsOf 3 = 1 := by kernel_rfl
  have cj : Tryz.prog.cellsOf 21 = 1 := by kernel_rfl
  have cs1 : Tryz.prog.cellsOf 9 = 1 := by kernel_rfl
  rcases Go.Deep.open_slice Tryz.underlying23 hf with ⟨e, _⟩ | ⟨a, len, cap', m, n', D, Pl, e, hb, hl, hm, hmm, hdd, hx⟩
  · simp [Value.cells] at e
    obtain ⟨rfl, rfl, rfl⟩ := e
    exact ⟨[], Lns.nil _ _, fun x hx => by cases hx⟩
  · simp [Value.cells] at e
    obtain ⟨rfl, rfl, rfl⟩ := e
    have hmc : m = cap := by rw [hmm]; rfl
    have key : ∀ i, ∃ x : Ln, i < n → ((∀ j v, (lnV x)[j]? = some v → w.cell? ((a.add (i * 7)).add j) = some v) ∧ x.ok ∧ x.mark.size ≤ reachBytes ∧ x.to.size ≤ reachBytes) := by
      intro i
      by_cases hi : i < n
      · obtain ⟨cs, h1, h2⟩ := hx i (by omega)
        rw [c7] at h1
        obtain ⟨_, hlen, hcell⟩ := World.cells?_some h1
        obtain ⟨x0, x1, x2, x3, x4, x5, x6, rfl⟩ : ∃ x0 x1 x2 x3 x4 x5 x6, cs = [x0, x1, x2, x3, x4, x5, x6] := by
          match cs, hlen with
          | [x0, x1, x2, x3, x4, x5, x6], _ => exact ⟨x0, x1, x2, x3, x4, x5, x6, rfl⟩
        obtain ⟨xs, m', _, hDi, _, hl3, hg⟩ := DataW.trod_struct Tryz.underlying37 h2
        obtain ⟨y0, y1, y2, rfl⟩ : ∃ y0 y1 y2, xs = [y0, y1, y2] := by
          match xs, hl3 with
          | [y0, y1, y2], _ => exact ⟨y0, y1, y2, rfl⟩
        have t0 : DataW.trod enc Tryz.prog w 0 (fun _ => true) true m' 9 (([x0, x1, x2, x3, x4, x5, x6].drop 0).take (Tryz.prog.cellsOf 9)) = some y0 := hg 0 _ rfl
        have t1 : DataW.trod enc Tryz.prog w 0 (fun _ => true) true m' 35 (([x0, x1, x2, x3, x4, x5, x6].drop 1).take (Tryz.prog.cellsOf 35)) = some y1 := hg 1 _ rfl
        have t2 : DataW.trod enc Tryz.prog w 0 (fun _ => true) true m' 9 (([x0, x1, x2, x3, x4, x5, x6].drop 6).take (Tryz.prog.cellsOf 9)) = some y2 := hg 2 _ rfl
        rw [cs1] at t0 t2
        rw [c5] at t1
        have t0' : DataW.trod enc Tryz.prog w 0 (fun _ => true) true m' 9 [x0] = some y0 := t0
        have t1' : DataW.trod enc Tryz.prog w 0 (fun _ => true) true m' 35 [x1, x2, x3, x4, x5] = some y1 := t1
        have t2' : DataW.trod enc Tryz.prog w 0 (fun _ => true) true m' 9 [x6] = some y2 := t2
        obtain ⟨zs, m2, _, _, _, hl5, hg5⟩ := DataW.trod_struct Tryz.underlying35 t1'
        obtain ⟨u0, u1, u2, u3, u4, rfl⟩ : ∃ u0 u1 u2 u3 u4, zs = [u0, u1, u2, u3, u4] := by
          match zs, hl5 with
          | [u0, u1, u2, u3, u4], _ => exact ⟨u0, u1, u2, u3, u4, rfl⟩
        have s0 : DataW.trod enc Tryz.prog w 0 (fun _ => true) true m2 3 (([x1, x2, x3, x4, x5].drop 0).take (Tryz.prog.cellsOf 3)) = some u0 := hg5 0 _ rfl
        have s1 : DataW.trod enc Tryz.prog w 0 (fun _ => true) true m2 3 (([x1, x2, x3, x4, x5].drop 1).take (Tryz.prog.cellsOf 3)) = some u1 := hg5 1 _ rfl
        have s2 : DataW.trod enc Tryz.prog w 0 (fun _ => true) true m2 3 (([x1, x2, x3, x4, x5].drop 2).take (Tryz.prog.cellsOf 3)) = some u2 := hg5 2 _ rfl
        have s3 : DataW.trod enc Tryz.prog w 0 (fun _ => true) true m2 3 (([x1, x2, x3, x4, x5].drop 3).take (Tryz.prog.cellsOf 3)) = some u3 := hg5 3 _ rfl
        have s4 : DataW.trod enc Tryz.prog w 0 (fun _ => true) true m2 21 (([x1, x2, x3, x4, x5].drop 4).take (Tryz.prog.cellsOf 21)) = some u4 := hg5 4 _ rfl
        rw [ci] at s0 s1 s2 s3
        rw [cj] at s4
        have key : ∀ {v : Value} {y : DataW H × List MemPlace}, DataW.trod enc Tryz.prog w 0 (fun _ => true) true m2 3 [v] = some y → ∃ a : Int, v = .int .i64 a ∧ I64 a := by
          intro v y h
          obtain ⟨n, e, _, hw⟩ := DataW.trod_int Tryz.underlying3 h
          simp at e
          have h' : -9223372036854775808 ≤ n ∧ n ≤ 9223372036854775807 := by simpa [Lit.wf, IntKind.min, IntKind.max, IntKind.bits, IntKind.signed] using hw
          exact ⟨n, e, h'⟩
        have key32 : ∀ {v : Value} {y : DataW H × List MemPlace}, DataW.trod enc Tryz.prog w 0 (fun _ => true) true m2 21 [v] = some y → ∃ a : Int, v = .int .i32 a ∧ -2147483648 ≤ a ∧ a < 2147483648 := by
          intro v y h
          obtain ⟨n, e, _, hw⟩ := DataW.trod_int Tryz.underlying21 h
          simp at e
          have h' : -2147483648 ≤ n ∧ n ≤ 2147483647 := by simpa [Lit.wf, IntKind.min, IntKind.max, IntKind.bits, IntKind.signed] using hw
          exact ⟨n, e, h'.1, by omega⟩
        have keyS : ∀ {v : Value} {y : DataW H × List MemPlace}, DataW.trod enc Tryz.prog w 0 (fun _ => true) true m' 9 [v] = some y → ∃ s : ByteArray, v = .string s ∧ y.1 = .lit (.string s.data.toList) := by
          intro v y h
          obtain ⟨s, e, e2, _⟩ := DataW.trod_string Tryz.underlying9 h
          simp at e
          exact ⟨s, e, by rw [e2]⟩
        obtain ⟨o1, rfl, k1⟩ := key (v := x1) s0
        obtain ⟨o2, rfl, k2⟩ := key (v := x2) s1
        obtain ⟨o3, rfl, k3⟩ := key (v := x3) s2
        obtain ⟨o4, rfl, k4⟩ := key (v := x4) s3
        obtain ⟨o5, rfl, k5⟩ := key32 (v := x5) s4
        obtain ⟨m0, rfl, k0⟩ := keyS t0'
        obtain ⟨m6, rfl, k6⟩ := keyS t2'
        have hin : ∀ z ∈ DataW.weights Tryz.prog 37 (D i), z ≤ reachBytes := fun z hz => hwt z (by
          rw [show d = _ from (Prod.mk.inj hdd).1]
          simp only [DataW.weights, Tryz.underlying23]
          exact List.mem_cons_of_mem _ (List.mem_append_left _ (mem_all (List.mem_map.2 ⟨i, List.mem_range.2 hi, rfl⟩) hz)))
        rw [(Prod.mk.inj hDi).1] at hin
        simp only [DataW.weights, Tryz.underlying37, List.map_cons, List.map_nil, k0, k6] at hin
        refine ⟨⟨m0, o1, o2, o3, o4, o5, m6⟩, fun _ => ⟨fun j v hv => ?_, ⟨k1, k2, k3, k4, k5⟩, ?_, ?_⟩⟩
        case refine_2 => rw [← size_list]; exact hin _ (by simp [DataW.weightsEach, DataW.weights])
        case refine_3 => rw [← size_list]; exact hin _ (by simp [DataW.weightsEach, DataW.weights])
        have hj : j < 7 := (Array.getElem?_eq_some_iff.1 hv).1
        rw [hcell j hj]
        simpa [lnV] using hv
      · exact ⟨default, fun h => absurd h hi⟩
    refine ⟨(List.range n).map fun i => Classical.choose (key i), ⟨by simp, hl, ⟨by unfold maxLen at hm; omega, fun e => by cases e⟩, fun hn => ?_⟩, fun x hx => ?_⟩
    · obtain ⟨v0, z⟩ : ∃ v0, w.cell? ((a.add (0 * 7)).add 0) = some v0 := ⟨_, (Classical.choose_spec (key 0) hn).1 0 _ rfl⟩
      have ha0 : (a.add (0 * 7)).add 0 = a := by simp [Addr.add]
      rw [ha0] at z
      obtain ⟨hea, hadd⟩ := spotK z
      refine ⟨a.block, a.off, by rw [← hea], World.block_lt_of_cell? w _ z, fun i hi j v hv => ?_⟩
      have hg : ((List.range n).map fun i => Classical.choose (key i)).getD i default = Classical.choose (key i) := by
        rw [List.getD_eq_getElem?_getD, List.getElem?_eq_getElem (by simpa using hi)]; simp
      rw [hg] at hv
      have q := (Classical.choose_spec (key i) hi).1 j v hv
      have e2 : (a.add (i * 7)).add j = ⟨a.block, a.off + i * 7 + j, none⟩ := by
        rw [hadd]
        unfold Addr.add
        split
        · rename_i h0; subst h0; rfl
        · rfl
      rw [e2] at q
      exact q
    · obtain ⟨i, hi, rfl⟩ := List.mem_map.1 hx
      exact (Classical.choose_spec (key i) (List.mem_range.1 hi)).2
variable {H : Type} {enc : TypeId × Value → H}
set_option maxRecDepth 100000 in
/-- The frame of a statement whose listed variables read as the list says. -/
theorem returns_laid {os : Os} {f : FuncId} {fn : Func} {s : ChangeSpec} (started : os.Started) (noInit : Tryz.checked.prog.inits.idxOf? f = none) (hfn : Tryz.checked.prog.funcs[f]? = some fn)
    (witness : ∃ (w : World) (tape : Tape) (i : Input), w.os = os ∧ (w.forCall tape i).Shaped Tryz.checked.prog ∧ i.vars = [] ∧ Input.okWide Tryz.checked.prog (w.forCall tape i) .any w.heap.size f i ∧
      ((s.pre enc Tryz.checked.prog fn [] false (w.forCall tape i).memory i.args ∧ laidMetH Tryz.prog laidL (w.forCall tape i).memory) ∧ sizedMet enc Tryz.checked.prog fn (OpenSpec.ofChange s) false (w.forCall tape i).memory i.args) ∧ Assume.holds {} Tryz.checked.prog (lone (Frame.enter Tryz.checked.prog f i.args .normal) [] (w.forCall tape i)))
    (contract : ∀ (W : World) (base : Nat) (args : Array Value) (ds gs : List (DataW H)) (before : List MemPlace),
      (∀ (j : Nat) t v, fn.params[j]? = some t → args[j]? = some v → Value.okWide Tryz.checked.prog W .any base t v) → DataW.Whole enc Tryz.checked.prog fn.params.toList s.vars false W args.toList ds gs before → (∀ (j : Nat) t d, fn.params.toList[j]? = some t → ds[j]? = some d → ∀ z ∈ DataW.weights Tryz.checked.prog t d, z ≤ reachBytes) → AVars W →
      Calls Tryz.checked.prog f args W fun e W' => ∃ v, e = .returned v ∧ s.post enc Tryz.checked.prog fn false true false false W args v W') :
    ReturnsInHanded {} Tryz.checked os f .any (fun w args => (s.pre enc Tryz.checked.prog fn [] false w args ∧ laidMetH Tryz.prog laidL w) ∧ sizedMet enc Tryz.checked.prog fn (OpenSpec.ofChange s) false w args) (s.post enc Tryz.checked.prog fn false true false false) := by
  refine returnsInHanded_of_calls own started noInit witness ?_
  intro w tape i _ hsh _ hok hpre hholds
  obtain ⟨_, _, _, fn', hfn', _, _, _, _, hval⟩ := hok
  obtain rfl : fn' = fn := Option.some.inj (hfn'.symm.trans hfn)
  obtain ⟨⟨⟨ds, gs, before, hw, _⟩, hx⟩, hsm⟩ := hpre
  have hall := hsm.weights hw
  have hx' : laidMetH Tryz.prog laidL (w.forCall tape i) := laidMetH.of_heap (show (w.forCall tape i).memory.heap = (w.forCall tape i).heap from rfl) hx
  refine (contract (w.forCall tape i) w.heap.size i.args ds gs before hval (DataW.Whole.of_heap (w' := w.forCall tape i) (by rfl) hw) (fun j t d ht hd z hz => by
    have := List.all_eq_true.1 hall z (DataW.weights_mem_each (List.getElem?_append_left (List.getElem?_eq_some_iff.1 ht).1 |>.trans ht) (List.getElem?_append_left (List.getElem?_eq_some_iff.1 hd).1 |>.trans hd) z hz)
    simpa using this) (laid_vars hx' hsh)).mono fun e W' ⟨v, he, hp⟩ => ?_
  subst he
  exact ChangeSpec.post_blind hp
end Go.Proofs.YtnghendglcblkaaGreatDoor
