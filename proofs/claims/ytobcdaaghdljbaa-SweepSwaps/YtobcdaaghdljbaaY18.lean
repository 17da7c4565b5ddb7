/-
 PROVED HERE: how a map from words to where an object lies is asked and changed; what a view's ownNumbers returns when it is. What is asked stands at each.
-/
import Derived.Test.YtobcdaaghdljbaaY11
import Derived.Test.YtobcdaaghdljbaaY12
import Derived.Test.YtobcdaaghdljbaaY13
import Derived.Test.YtobcdaaghdljbaaY17
namespace Go.Proofs.Ytobcdaaghdljbaa
set_option maxRecDepth 100000
set_option maxHeartbeats 8000000
open Go.RowKit Go.Shelf
set_option linter.unusedVariables false
attribute [local go_sem] Oper.semAt_some

abbrev Hl := List (Int × (Int × Int))
def hv (p : Int × Int) : Value := .agg #[.int .i64 p.1, .int .u64 p.2]
def lkH (k : Int) : Hl → Int × Int
 | [] => (0, 0)
 | p :: l => if p.1 = k then p.2 else lkH k l
def kv (e : MapEntry) : Value × Value := (e.key, e.val)
def ekv (p : Int × (Int × Int)) : Value × Value := (.int .u64 p.1, hv p.2)
def MapF (W : World) (M : Nat) (f : Int → Int × Int) : Prop := ∃ (es : Array MapEntry) (c : Nat) (l : Hl), W.heap[M]? = some (.map es c) ∧ es.toList.map kv = l.map ekv ∧ ∀ k, lkH k l = f k
theorem MapF.lt {W : World} {M : Nat} {f : Int → Int × Int} (h : MapF W M f) : M < W.heap.size := by
 obtain ⟨es, c, l, h1, _⟩ := h
 exact (Array.getElem?_eq_some_iff.1 h1).1
theorem MapF.block {W W' : World} {M : Nat} {f : Int → Int × Int} (h : MapF W M f) (k : W'.heap[M]? = W.heap[M]?) : MapF W' M f := by
 obtain ⟨es, c, l, h1, h2⟩ := h
 exact ⟨es, c, l, k.trans h1, h2⟩
theorem MapF.next {W W' : World} {M : Nat} {f : Int → Int × Int} (h : MapF W M f) (k : Below W.heap.size W W') : MapF W' M f := h.block (k.block M h.lt)
end Go.Proofs.Ytobcdaaghdljbaa
namespace Go.Proofs.Ytobcdaaghdljbaa
set_option maxRecDepth 100000
set_option maxHeartbeats 8000000
open Go.RowKit Go.Shelf
set_option linter.unusedVariables false
attribute [local go_sem] Oper.semAt_some

def WdO (x : Ob) : Prop := (0 ≤ x.id ∧ x.id < 18446744073709551616) ∧ (0 ≤ x.th.lo ∧ x.th.lo < 18446744073709551616) ∧ (0 ≤ x.th.hi ∧ x.th.hi < 18446744073709551616)
end Go.Proofs.Ytobcdaaghdljbaa
namespace Go.Proofs.Ytobcdaaghdljbaa
set_option maxRecDepth 100000
set_option maxHeartbeats 8000000
open Go.ChangeShapes Go.WideShapes Go.ChangeAt Go.RowKit
set_option linter.unusedVariables false

section
variable {H : Type} {enc : TypeId × Value → H} {w : World} {m : Nat} {y : DataW H × List MemPlace}
theorem f_intw {cs : List Value} {o : Nat} {t : TypeId} {k : IntKind} (ho : o < cs.length) (hc : Try.prog.cellsOf t = 1) (hu : Try.prog.underlying t = some (.int k)) (h : DataW.trod enc Try.prog w 0 (fun _ => true) true m t ((cs.drop o).take (Try.prog.cellsOf t)) = some y) : ∃ n, cs[o]? = some (.int k n) ∧ (Lit.int k n).wf = true := by
 rw [hc, one_cell ho] at h
 obtain ⟨n, e, _, hw⟩ := DataW.trod_int hu h
 simp at e
 exact ⟨n, by rw [List.getElem?_eq_getElem ho, e], hw⟩
theorem u64_wf {a : Int} (h : (Lit.int .u64 a).wf = true) : 0 ≤ a ∧ a < 18446744073709551616 := by
 simp [Lit.wf, IntKind.min, IntKind.max, IntKind.bits, IntKind.signed] at h
 omega
theorem span_wf {cs : List Value} (h : DataW.trod enc Try.prog w 0 (fun _ => true) true m 47 cs = some y) : ∃ a b, cs[0]? = some (.int .u64 a) ∧ cs[1]? = some (.int .u64 b) ∧ (0 ≤ a ∧ a < 18446744073709551616) ∧ (0 ≤ b ∧ b < 18446744073709551616) := by
 obtain ⟨xs, m', _, _, hl, hx, hg⟩ := DataW.trod_struct Try.underlying47 h
 rw [show Try.prog.cellsOf 47 = 2 from by kernel_rfl] at hl
 obtain ⟨y0, y1, rfl⟩ : ∃ y0 y1, xs = [y0, y1] := by
  match xs, hx with
  | [y0, y1], _ => exact ⟨y0, y1, rfl⟩
 have t0 : DataW.trod enc Try.prog w 0 (fun _ => true) true m' 22 ((cs.drop 0).take (Try.prog.cellsOf 22)) = some y0 := hg 0 _ rfl
 have t1 : DataW.trod enc Try.prog w 0 (fun _ => true) true m' 22 ((cs.drop 1).take (Try.prog.cellsOf 22)) = some y1 := hg 1 _ rfl
 obtain ⟨a, ea, wa⟩ := f_intw (o := 0) (by rw [hl]; omega) (by kernel_rfl) Try.underlying22 t0
 obtain ⟨b, eb, wb⟩ := f_intw (o := 1) (by rw [hl]; omega) (by kernel_rfl) Try.underlying22 t1
 exact ⟨a, b, ea, eb, u64_wf wa, u64_wf wb⟩
theorem wd_of_cells {cs : List Value} {x : Ob} {D : Nat → Prop} (h : DataW.trod enc Try.prog w 0 (fun _ => true) true m 54 cs = some y) (hx : ObD D w cs.toArray x) : WdO x := by
 obtain ⟨xs, m', _, _, hl, hxs, hg⟩ := DataW.trod_struct Try.underlying54 h
 rw [show Try.prog.cellsOf 54 = 51 from by kernel_rfl] at hl
 obtain ⟨y0, y1, y2, y3, y4, y5, y6, y7, y8, y9, y10, y11, rfl⟩ : ∃ y0 y1 y2 y3 y4 y5 y6 y7 y8 y9 y10 y11, xs = [y0, y1, y2, y3, y4, y5, y6, y7, y8, y9, y10, y11] := by
  match xs, hxs with
  | [y0, y1, y2, y3, y4, y5, y6, y7, y8, y9, y10, y11], _ => exact ⟨y0, y1, y2, y3, y4, y5, y6, y7, y8, y9, y10, y11, rfl⟩
 have t0 : DataW.trod enc Try.prog w 0 (fun _ => true) true m' 22 ((cs.drop 0).take (Try.prog.cellsOf 22)) = some y0 := hg 0 _ rfl
 obtain ⟨id, eid, wid⟩ := f_intw (o := 0) (by rw [hl]; omega) (by kernel_rfl) Try.underlying22 t0
 have t8 : DataW.trod enc Try.prog w 0 (fun _ => true) true m' 50 ((cs.drop 8).take (Try.prog.cellsOf 50)) = some y8 := hg 8 _ rfl
 rw [show Try.prog.cellsOf 50 = 35 from by kernel_rfl] at t8
 obtain ⟨zs, m2, _, _, hl2, hzs, hg2⟩ := DataW.trod_struct Try.underlying50 t8
 obtain ⟨z0, z1, z2, z3, z4, z5, z6, z7, z8, z9, z10, rfl⟩ : ∃ z0 z1 z2 z3 z4 z5 z6 z7 z8 z9 z10, zs = [z0, z1, z2, z3, z4, z5, z6, z7, z8, z9, z10] := by
  match zs, hzs with
  | [z0, z1, z2, z3, z4, z5, z6, z7, z8, z9, z10], _ => exact ⟨z0, z1, z2, z3, z4, z5, z6, z7, z8, z9, z10, rfl⟩
 have t9 : DataW.trod enc Try.prog w 0 (fun _ => true) true m2 47 ((((cs.drop 8).take 35).drop 29).take (Try.prog.cellsOf 47)) = some z9 := hg2 9 _ rfl
 rw [show Try.prog.cellsOf 47 = 2 from by kernel_rfl] at t9
 obtain ⟨a, b, ea, eb, wa, wb⟩ := span_wf t9
 have c0 : (((((cs.drop 8).take 35).drop 29).take 2)[0]?) = cs[37]? := by simp [List.getElem?_drop]
 have c1 : (((((cs.drop 8).take 35).drop 29).take 2)[1]?) = cs[38]? := by simp [List.getElem?_drop]
 rw [c0] at ea
 rw [c1] at eb
 have i1 : cs[0]? = some (.int .u64 x.id) := by simpa using hx.id
 have i2 : cs[37]? = some (.int .u64 x.th.lo) := by simpa using hx.th.lo
 have i3 : cs[38]? = some (.int .u64 x.th.hi) := by simpa using hx.th.hi
 rw [i1] at eid
 rw [i2] at ea
 rw [i3] at eb
 cases eid
 cases ea
 cases eb
 exact ⟨u64_wf wid, wa, wb⟩
theorem obsW_of_trod {ao : Option Addr} {n cap : Nat} {d : DataW H} {ps : List MemPlace} (h : DataW.Trod enc Try.prog w 0 (fun _ => true) true 23 (.slice ao n cap) d ps) : ∃ l, Obs w ao n cap l ∧ ∀ x ∈ l, WdO x := by
 obtain ⟨fuel, hf⟩ := h
 have c51 : Try.prog.cellsOf 54 = 51 := by kernel_rfl
 rcases Go.Deep.open_slice Try.underlying23 hf with ⟨e, _⟩ | ⟨a, len, cap', m, n', D, Pl, e, hb, hl, hm, hmm, hdd, hx⟩
 ·simp [Value.cells] at e
  obtain ⟨rfl, rfl, rfl⟩ := e
  exact ⟨[], ObsD.nil _ _ _, fun x hx => absurd hx (by simp)⟩
 ·simp [Value.cells] at e
  obtain ⟨rfl, rfl, rfl⟩ := e
  have hmc : m = cap := by rw [hmm]; rfl
  have key : ∀ i, ∃ (x : Ob) (C : Array Value), i < n → (ObD (LtN w) w C x ∧ WdO x) ∧ ∀ j v, C[j]? = some v → w.cell? ((a.add (i * 51)).add j) = some v := by
   intro i
   by_cases hi : i < n
   ·obtain ⟨cs, h1, h2⟩ := hx i (by omega)
    rw [c51] at h1
    obtain ⟨_, hlen, hcell⟩ := World.cells?_some h1
    obtain ⟨x, hxx⟩ := ob_of_cells h2
    refine ⟨x, cs.toArray, fun _ => ⟨⟨hxx, wd_of_cells h2 hxx⟩, fun j v hv => ?_⟩⟩
    have hv' : cs[j]? = some v := by simpa using hv
    have hj : j < 51 := by rw [← hlen]; exact (List.getElem?_eq_some_iff.1 hv').1
    rw [hcell j hj, hv']
   ·exact ⟨zOb, #[], fun h => absurd h hi⟩
  have hkey : ∀ i, i < n → ∃ C, (ObD (LtN w) w C (Classical.choose (key i)) ∧ WdO (Classical.choose (key i))) ∧ ∀ j v, C[j]? = some v → w.cell? ((a.add (i * 51)).add j) = some v := fun i hi => by
   obtain ⟨C, hC⟩ := Classical.choose_spec (key i)
   exact ⟨C, hC hi⟩
  refine ⟨(List.range n).map fun i => Classical.choose (key i), ⟨by simp, hl, ⟨by unfold maxLen at hm; omega, fun e => by cases e⟩, fun hn => ?_⟩, fun x hx => ?_⟩
  ·obtain ⟨v0, z⟩ : ∃ v0, w.cell? ((a.add (0 * 51)).add 0) = some v0 := by
    obtain ⟨C, hC, hr⟩ := hkey 0 hn
    exact ⟨_, hr 0 _ hC.1.id⟩
   have ha0 : (a.add (0 * 51)).add 0 = a := by simp [Addr.add]
   rw [ha0] at z
   obtain ⟨hea, hadd⟩ := PgM.spotK z
   refine ⟨a.block, a.off, by rw [← hea], World.block_lt_of_cell? w _ z, fun i hi => ?_⟩
   have hg : oat ((List.range n).map fun i => Classical.choose (key i)) i = Classical.choose (key i) := by
    unfold oat; rw [List.getD_eq_getElem?_getD, List.getElem?_eq_getElem (by simpa using hi)]; simp
   obtain ⟨C, hC, hr⟩ := hkey i hi
   refine ⟨C, by rw [hg]; exact hC.1, fun j v hv => ?_⟩
   have q := hr j v (by simpa using hv)
   rw [hadd, Addr.add_mid] at q
   exact q
  ·obtain ⟨i, hi, rfl⟩ := List.mem_map.1 hx
   obtain ⟨C, hC, _⟩ := hkey i (List.mem_range.1 hi)
   exact hC.2
theorem worldW_of_trod {base : Nat} {v : Value} {d : DataW H} {ps : List MemPlace} (hv : Value.okWide Try.prog w .any base 25 v)
  (h : DataW.Trod enc Try.prog w 0 (fun _ => true) true 25 v d ps) : ∃ (t : Int) (ke : Nat) (ro : Int) (ao : Option Addr) (n cap : Nat) (X : List Ob), v = .agg #[.int .i64 t, .int .u64 (ke : Int), .int .u64 ro, .slice ao n cap] ∧ (Obs w ao n cap X ∧ ∀ x ∈ X, WdO x) := by
 unfold Value.okWide at hv
 rw [Try.underlying25] at hv
 obtain ⟨cs, rfl, hs, _⟩ := hv
 rw [show Try.prog.cellsOf 25 = 4 from by kernel_rfl] at hs
 obtain ⟨fuel, hf⟩ := h
 obtain ⟨x0, x1, x2, x3, rfl⟩ : ∃ x0 x1 x2 x3, cs = #[x0, x1, x2, x3] := by
  match cs, hs with
  | ⟨[x0, x1, x2, x3]⟩, _ => exact ⟨x0, x1, x2, x3, rfl⟩
 have hf' : DataW.trod enc Try.prog w 0 (fun _ => true) true fuel 25 [x0, x1, x2, x3] = some (d, ps) := hf
 obtain ⟨xs, m', _, _, hl, hx, hg⟩ := DataW.trod_struct Try.underlying25 hf'
 obtain ⟨y0, y1, y2, y3, rfl⟩ : ∃ y0 y1 y2 y3, xs = [y0, y1, y2, y3] := by
  match xs, hx with
  | [y0, y1, y2, y3], _ => exact ⟨y0, y1, y2, y3, rfl⟩
 obtain ⟨t, et⟩ := f_int (t := 3) (o := 0) (y := y0) (by simp) (by kernel_rfl) Try.underlying3 (hg 0 _ rfl)
 obtain ⟨ke, eke, wke⟩ := f_intw (t := 22) (o := 1) (y := y1) (by simp) (by kernel_rfl) Try.underlying22 (hg 1 _ rfl)
 obtain ⟨ro, ero⟩ := f_int (t := 22) (o := 2) (y := y2) (by simp) (by kernel_rfl) Try.underlying22 (hg 2 _ rfl)
 obtain ⟨ao, n, cap, ea, hT⟩ := f_slice (t := 23) (o := 3) (y := y3) (by simp) (by kernel_rfl) Try.underlying23 (hg 3 _ rfl)
 obtain ⟨X, hX, hW⟩ := obsW_of_trod hT
 have hk := u64_wf wke
 obtain ⟨kn, rfl⟩ : ∃ kn : Nat, ke = kn := ⟨ke.toNat, by omega⟩
 simp at et eke ero ea
 subst et eke ero ea
 exact ⟨t, kn, ro, ao, n, cap, X, rfl, hX, hW⟩
end
end Go.Proofs.Ytobcdaaghdljbaa
namespace Go.Proofs.Ytobcdaaghdljbaa
set_option maxRecDepth 100000
set_option maxHeartbeats 8000000
open Go.RowKit Go.Shelf
set_option linter.unusedVariables false

def StayT {β : Type} (B : Nat) (t : TypeId) (J : β → World → Prop) : Prop := ∀ s A A' row, J s A → A.grownBy A' row → (∀ r, row = some r → B ≤ r ∧ ∃ C, A.heap[r]? = some (.cells C t)) → J s A'
def KT (D : Nat → Prop) (t : TypeId) (B : Nat) (W W' : World) : Prop := Keeps D W W' ∧ ∀ b C, B ≤ b → W.heap[b]? = some (.cells C t) → W'.heap[b]? = some (.cells C t)
theorem KT.trans {D : Nat → Prop} {t : TypeId} {B : Nat} {X Y Z : World} (h : KT D t B X Y) (k : KT D t B Y Z) : KT D t B X Z := ⟨h.1.trans k.1, fun b C hb hc => k.2 b C hb (h.2 b C hb hc)⟩
theorem KT.putObj {D : Nat → Prop} {t : TypeId} {B : Nat} {W : World} {l : Nat} {r : Loop} (o : Obj) (hD : ∀ b, D b → b ≠ l) (h : W.heap[l]? = some (.loop r)) : KT D t B W (W.putObj l o) :=
 ⟨⟨by simp [World.putObj], fun b hb => World.putObj_heap_other (hD b hb)⟩, fun b C _ hc => (World.putObj_heap_other (fun e => by rw [e, h] at hc; cases hc)).trans hc⟩
end Go.Proofs.Ytobcdaaghdljbaa
namespace Go.Proofs.Ytobcdaaghdljbaa
set_option maxRecDepth 100000
set_option maxHeartbeats 8000000
open Go.RowKit Go.Shelf
set_option linter.unusedVariables false
attribute [local go_sem] Oper.semAt_some

theorem Oth.grown {B : Nat} {w W : World} (h : Oth B w W) : w.grownBy W (some B) :=
 have b := h.below B w (Nat.le_refl _) (Below.refl _ _)
 ⟨b.os, b.tape, b.output, b.size, fun k _ hk => h.block k (fun e => hk (by rw [e]))⟩
end Go.Proofs.Ytobcdaaghdljbaa
namespace Go.Proofs.Ytobcdaaghdljbaa
set_option maxRecDepth 100000
set_option maxHeartbeats 8000000
open Go.RowKit Go.Shelf
set_option linter.unusedVariables false
attribute [local go_sem] Oper.semAt_some

theorem StayT.and {β : Type} {B : Nat} {t : TypeId} {I I' : β → World → Prop} (h : StayT B t I) (h' : StayT B t I') : StayT B t (fun s W => I s W ∧ I' s W) := fun s A A' row hs hg hr => ⟨h s A A' row hs.1 hg hr, h' s A A' row hs.2 hg hr⟩
end Go.Proofs.Ytobcdaaghdljbaa
namespace Go.Proofs.Ytobcdaaghdljbaa
set_option maxRecDepth 100000
set_option maxHeartbeats 8000000
open Go.RowKit Go.Shelf
set_option linter.unusedVariables false
attribute [local go_sem] Oper.semAt_some

theorem sound_q {x : Ob} (h : soundB x = true) : (0 ≤ x.quota ∧ x.quota ≤ 4096) ∧ x.label.length < 1048576 := by
 unfold soundB comB keptB at h
 simp only [Bool.and_eq_true, decide_eq_true_eq] at h
 omega
end Go.Proofs.Ytobcdaaghdljbaa
namespace Go.Proofs.Ytobcdaaghdljbaa
set_option maxRecDepth 100000
set_option maxHeartbeats 8000000

theorem fnd_id {X : List Ob} {i : Int} {x : Ob} (h : fnd X i = some x) : x.id = i ∧ x ∈ X :=
 ⟨by simpa using List.find?_some (show X.find? _ = some x from h), List.mem_of_find?_eq_some (show X.find? _ = some x from h)⟩
theorem holL_mem {X : List Ob} {i h : Int} (q : h ∈ holL X i) : ∃ d ∈ X, d.id = h ∧ i ∈ d.links := by
 unfold holL at q
 obtain ⟨d, hd, e⟩ := List.mem_map.1 q
 obtain ⟨h1, h2⟩ := List.mem_filter.1 hd
 exact ⟨d, h1, e, by simpa using h2⟩
theorem fnd_mem {X : List Ob} {d : Ob} (h : d ∈ X) : (fnd X d.id).isSome = true := by
 unfold fnd
 rw [List.find?_isSome]
 exact ⟨d, h, by simp⟩
def upB (X : List Ob) (ro i : Int) : Bool := (decide (i = ro) && decide ((rabv X i).length = 0)) || (decide (0 < (rabv X i).length) && decide ((rabv X i).getLast?.getD 0 = ro))
end Go.Proofs.Ytobcdaaghdljbaa
namespace Go.Proofs.Ytobcdaaghdljbaa
set_option maxRecDepth 100000
set_option maxHeartbeats 8000000

def lnkB (X : List Ob) (d : Ob) : Bool := (d.links.all fun i => (fnd X i).isSome && plcB d.label (fO X i).label) && (!decide (d.kind = 2) || decide (usesN X d ≤ d.quota))
def plaB (X : List Ob) (ro : Int) (o : Ob) : Bool :=
 if o.id = ro then decide ((holL X o.id).length = 0) && (decide (o.kind = 2) && decide (o.quota ≤ 1024))
 else (decide (1 ≤ (holL X o.id).length) && !(decide (1 < (holL X o.id).length) && (!o.fixed || sngO o))) && (!decide (o.kind = 2) || upB X ro o.id)
def rapB (a b c d : Nat) : Bool := decide (a = b) || (decide (c = d) || (decide (b ≤ c) || decide (d ≤ a)))
def rowB (key : Nat) (X : List Ob) (i k : Nat) : Bool := !(SrM.hasK key (oat X i).th.lo.toNat (oat X i).th.hi.toNat (oat X k).id.toNat || (decide ((oat X k).kind = 4) && (decide (k ≠ i) && !rapB (oat X i).th.lo.toNat (oat X i).th.hi.toNat (oat X k).th.lo.toNat (oat X k).th.hi.toNat)))
def spaB (key : Nat) (X : List Ob) : Bool := (List.range X.length).all fun i => !decide ((oat X i).kind = 4) || (List.range X.length).all fun k => rowB key X i k
def fitD (t : Int) (key : Nat) (ro : Int) (X : List Ob) : Bool := (fitW ⟨t, key, ro, X⟩ && (fnd X ro).isSome) && (((List.range X.length).all fun j => lnkB X (oat X j) && plaB X ro (oat X j)) && spaB key X)
theorem all_oat {X : List Ob} {p : Ob → Bool} : ((List.range X.length).all fun j => p (oat X j)) = true ↔ ∀ o ∈ X, p o = true := by
 rw [List.all_eq_true]
 constructor
 ·intro h o ho
  obtain ⟨i, hi, e⟩ := List.getElem_of_mem ho
  have := h i (List.mem_range.2 hi)
  rwa [oat_get hi, e] at this
 ·intro h j hj
  exact h _ (oat_mem (List.mem_range.1 hj))
theorem links_nil {x : Ob} (h : soundB x = true) (hk : x.kind ≠ 2) : x.links = [] := by
 have ha : aloO x = x := (alone_iff x).1 (sound_iff.1 h).2.2
 rw [← ha]
 unfold aloO comO
 rw [if_neg hk]
 split
 ·rfl
 split
 ·rfl
 split
 ·rfl
 split
 ·rfl
 split <;> rfl
theorem links_rise {x : Ob} (h : soundB x = true) : x.links.Pairwise (· < ·) := by
 by_cases hk : x.kind = 2
 ·have := (sound_iff.1 h).2.1
  unfold ownB at this
  rw [if_neg (by rw [hk]; decide), if_pos hk] at this
  simp only [Bool.and_eq_true, risB, decide_eq_true_eq] at this
  exact this.2.2
 ·rw [links_nil h hk]; exact List.Pairwise.nil
theorem links_nodup {x : Ob} (h : soundB x = true) : x.links.Nodup := (links_rise h).imp fun h => by omega
theorem id_pos {x : Ob} (h : soundB x = true) : 1 ≤ x.id := by
 have := (com_iff.1 (sound_iff.1 h).1).1
 unfold idB at this
 simp only [Bool.and_eq_true, decide_eq_true_eq] at this
 omega
theorem oat_inj {X : List Ob} (hs : Srt X) {i j : Nat} (hi : i < X.length) (hj : j < X.length) : (oat X j).id = (oat X i).id ↔ j = i := by
 rw [oat_get hi, oat_get hj]
 constructor
 ·intro e
  rcases Nat.lt_trichotomy i j with q | q | q
  ·have := List.pairwise_iff_getElem.1 hs i j hi hj q; omega
  ·exact q.symm
  ·have := List.pairwise_iff_getElem.1 hs j i hj hi q; omega
 ·intro e; subst e; rfl
theorem fit_mem {t ke ro : Int} {X : List Ob} (h : fitW ⟨t, ke, ro, X⟩ = true) : Srt X ∧ (∀ x ∈ X, soundB x = true) ∧ X.length ≤ 1024 := by
 unfold fitW at h
 simp only [Bool.and_eq_true, decide_eq_true_eq, List.all_eq_true] at h
 exact ⟨idsB_iff.1 h.2.2.2.1, h.2.2.2.2, h.2.2.1⟩
end Go.Proofs.Ytobcdaaghdljbaa
namespace Go.Proofs.Ytobcdaaghdljbaa
set_option maxRecDepth 100000
set_option maxHeartbeats 8000000
open Go.RowKit Go.Shelf
set_option linter.unusedVariables false
attribute [local go_sem] Oper.semAt_some

def fewO (x : Ob) : Prop := x.label.length ≤ 20 ∧ x.links.length ≤ 70 ∧ x.data.length ≤ 300 ∧ x.maps.length ≤ 20
end Go.Proofs.Ytobcdaaghdljbaa
namespace Go.Proofs.Ytobcdaaghdljbaa
set_option maxRecDepth 100000
set_option maxHeartbeats 8000000

structure Tre (X : List Ob) (ro : Int) : Prop where
 srt : Srt X
 snd : ∀ x ∈ X, soundB x = true
 len : X.length ≤ 1024
 rot : ∃ r, fnd X ro = some r ∧ r.kind = 2 ∧ r.quota ≤ 1024
 hro : holL X ro = []
 hol : ∀ o ∈ X, o.id ≠ ro → holL X o.id ≠ []
 lnk : ∀ d ∈ X, ∀ i ∈ d.links, (fnd X i).isSome = true ∧ plcB d.label (fO X i).label = true
 use : ∀ d ∈ X, d.kind = 2 → usesN X d ≤ d.quota
 upw : ∀ o ∈ X, o.kind = 2 → o.id ≠ ro → upB X ro o.id = true
theorem tre_of {t : Int} {key : Nat} {ro : Int} {X : List Ob} (h : fitD t key ro X = true) : Tre X ro := by
 unfold fitD at h
 simp only [Bool.and_eq_true] at h
 obtain ⟨⟨hf, hr⟩, hlp, _⟩ := h
 obtain ⟨hs, hso, hlen⟩ := fit_mem hf
 rw [all_oat (p := fun o => lnkB X o && plaB X ro o)] at hlp
 obtain ⟨r, hrf⟩ := Option.isSome_iff_exists.1 hr
 have hri := fnd_id hrf
 have hp := hlp r hri.2
 rw [Bool.and_eq_true] at hp
 have hp2 := hp.2
 unfold plaB at hp2
 rw [if_pos hri.1, hri.1] at hp2
 simp only [Bool.and_eq_true, decide_eq_true_eq] at hp2
 refine ⟨hs, hso, hlen, ⟨r, hrf, hp2.2.1, hp2.2.2⟩, List.eq_nil_of_length_eq_zero hp2.1, ?_, ?_, ?_, ?_⟩
 ·intro o ho hne
  have := hlp o ho
  rw [Bool.and_eq_true] at this
  have h2 := this.2
  unfold plaB at h2
  rw [if_neg hne] at h2
  simp only [Bool.and_eq_true, decide_eq_true_eq] at h2
  intro q
  rw [q] at h2
  simp at h2
 ·intro d hd i hi
  have := hlp d hd
  rw [Bool.and_eq_true] at this
  have h1 := this.1
  unfold lnkB at h1
  simp only [Bool.and_eq_true, List.all_eq_true] at h1
  exact h1.1 i hi
 ·intro d hd k2
  have := hlp d hd
  rw [Bool.and_eq_true] at this
  have h1 := this.1
  unfold lnkB at h1
  simp only [Bool.and_eq_true, Bool.or_eq_true, Bool.not_eq_true', decide_eq_true_eq, decide_eq_false_iff_not] at h1
  rcases h1.2 with q | q
  ·exact absurd k2 q
  ·exact q
 ·intro o ho k2 hne
  have := hlp o ho
  rw [Bool.and_eq_true] at this
  have h2 := this.2
  unfold plaB at h2
  rw [if_neg hne] at h2
  simp only [Bool.and_eq_true, Bool.or_eq_true, Bool.not_eq_true', decide_eq_false_iff_not] at h2
  rcases h2.2 with q | q
  ·exact absurd k2 q
  ·exact q
theorem nodup_le : ∀ (l m : List Int), l.Nodup → (∀ x ∈ l, x ∈ m) → l.length ≤ m.length
 | [], _, _, _ => Nat.zero_le _
 | a :: l, m, h, hm => by
  obtain ⟨h1, h2⟩ := List.nodup_cons.1 h
  have ha := hm a (List.mem_cons_self ..)
  have := nodup_le l (m.erase a) h2 fun x hx => (List.mem_erase_of_ne (fun e => h1 (by rw [← e]; exact hx))).2 (hm x (List.mem_cons_of_mem _ hx))
  rw [List.length_erase_of_mem ha] at this
  have : 0 < m.length := List.length_pos_of_mem ha
  simp only [List.length_cons]
  omega
theorem abv_take (X : List Ob) : ∀ (f : Nat) (i : Int), abvL X f i = (abvL X (f + 1) i).take f
 | 0, i => by simp [abvL]
 | f + 1, i => by
  cases hh : holL X i with
  | nil => rw [show abvL X (f + 1) i = [] from by unfold abvL; rw [hh], show abvL X (f + 1 + 1) i = [] from by unfold abvL; rw [hh]]; rfl
  | cons a t =>
   rw [show abvL X (f + 1) i = a :: abvL X f a from by conv => lhs; unfold abvL; rw [hh], show abvL X (f + 1 + 1) i = a :: abvL X (f + 1) a from by conv => lhs; unfold abvL; rw [hh]]
   rw [List.take_succ_cons, ← abv_take X f a]
section
variable {X : List Ob} {ro : Int}
abbrev wayL (X : List Ob) (i : Int) : List Int := abvL X (X.length + 1) i
theorem links_cont (h : Tre X ro) {d : Ob} (hd : d ∈ X) {i : Int} (hi : i ∈ d.links) : d.kind = 2 := Classical.byContradiction fun q => by rw [links_nil (h.snd d hd) q] at hi; cases hi
theorem way_cont (h : Tre X ro) {o : Ob} (ho : o ∈ X) (k2 : o.kind = 2) : (wayL X o.id).length ≤ X.length ∧ (o.id ≠ ro → (wayL X o.id).getLast?.getD 0 = ro ∧ wayL X o.id ≠ []) := by
 by_cases e : o.id = ro
 ·refine ⟨?_, fun q => absurd e q⟩
  rw [e]
  unfold wayL abvL
  rw [h.hro]
  exact Nat.zero_le _
 ·have hu := h.upw o ho k2 e
  unfold upB at hu
  rw [decide_eq_false e, Bool.false_and, Bool.false_or, Bool.and_eq_true, decide_eq_true_eq, decide_eq_true_eq] at hu
  have hr : rabv X o.id = wayL X o.id ∧ (wayL X o.id).length ≤ X.length := by
   unfold rabv at hu ⊢
   split at hu
   ·rename_i hq; rw [if_pos hq]; exact ⟨rfl, hq⟩
   ·exact absurd hu.1 (by simp)
  rw [hr.1] at hu
  exact ⟨hr.2, fun _ => ⟨hu.2, List.length_pos_iff.1 hu.1⟩⟩
theorem way_step (h : Tre X ro) {o : Ob} (ho : o ∈ X) (hne : o.id ≠ ro) : ∃ d ∈ X, d.kind = 2 ∧ o.id ∈ d.links ∧ (holL X o.id).head? = some d.id ∧ wayL X o.id = d.id :: wayL X d.id := by
 cases hh : holL X o.id with
 | nil => exact absurd hh (h.hol o ho hne)
 | cons a t =>
  obtain ⟨d, hd, e, hi⟩ := holL_mem (show a ∈ holL X o.id by rw [hh]; exact List.mem_cons_self ..)
  have k2 := links_cont h hd hi
  refine ⟨d, hd, k2, hi, by rw [e]; rfl, ?_⟩
  unfold wayL
  have e1 : abvL X (X.length + 1) o.id = a :: abvL X X.length a := by conv => lhs; unfold abvL; rw [hh]
  rw [e1, e, abv_take X X.length a]
  congr 1
  refine List.take_of_length_le ?_
  have := (way_cont h hd k2).1
  rw [e] at this
  exact this
theorem way_root (h : Tre X ro) : wayL X ro = [] := by unfold wayL abvL; rw [h.hro]
theorem way_all (h : Tre X ro) : ∀ (k : Nat) (o : Ob), o ∈ X → (wayL X o.id).length = k → (∀ c ∈ wayL X o.id, (wayL X c).length < k ∧ ∃ d ∈ X, d.id = c) ∧ (wayL X o.id).Nodup ∧ (wayL X o.id = [] ∨ (wayL X o.id).getLast?.getD 0 = ro)
 | 0, o, ho, hk => by
  rw [List.eq_nil_of_length_eq_zero hk]
  exact ⟨fun c hc => absurd hc (by simp), List.nodup_nil, .inl rfl⟩
 | k + 1, o, ho, hk => by
  have hne : o.id ≠ ro := fun e => by rw [e, way_root h] at hk; cases hk
  obtain ⟨d, hd, k2, _, _, hw⟩ := way_step h ho hne
  rw [hw, List.length_cons] at hk
  obtain ⟨i1, i2, i3⟩ := way_all h k d hd (by omega)
  rw [hw]
  refine ⟨?_, ?_, .inr ?_⟩
  ·intro c hc
   rcases List.mem_cons.1 hc with q | q
   ·rw [q]; exact ⟨by omega, d, hd, rfl⟩
   ·have := i1 c q; exact ⟨by omega, this.2⟩
  ·refine List.nodup_cons.2 ⟨fun q => ?_, i2⟩
   have := (i1 d.id q).1
   omega
  ·by_cases e : d.id = ro
   ·rw [e, way_root h]; rfl
   ·have hc := (way_cont h hd k2).2 e
    cases hl : wayL X d.id with
    | nil => exact absurd hl hc.2
    | cons b r => rw [List.getLast?_cons_cons, ← hl]; exact hc.1
end
theorem alo_io {x : Ob} (h : aloO x = x) (hk : ¬ x.kind = 6) : x.inn = [] ∧ x.out = [] := by
 have e : (aloO x).inn = [] ∧ (aloO x).out = [] := by
  unfold aloO
  by_cases h1 : x.kind = 1
  ·rw [if_pos h1]; exact ⟨rfl, rfl⟩
  rw [if_neg h1]
  by_cases h2 : x.kind = 2
  ·rw [if_pos h2]; exact ⟨rfl, rfl⟩
  rw [if_neg h2]
  by_cases h3 : x.kind = 3
  ·rw [if_pos h3]; exact ⟨rfl, rfl⟩
  rw [if_neg h3]
  by_cases h4 : x.kind = 4
  ·rw [if_pos h4]; exact ⟨rfl, rfl⟩
  rw [if_neg h4]
  by_cases h5 : x.kind = 5
  ·rw [if_pos h5]; exact ⟨rfl, rfl⟩
  rw [if_neg h5, if_neg hk]; exact ⟨rfl, rfl⟩
 rw [h] at e; exact e
theorem sound_small {x : Ob} (hs : soundB x = true) (hf : x.links.length < 4294967296 ∧ x.data.length < 4294967296 ∧ x.maps.length < 4294967296) : Small x := by
 obtain ⟨hc, ho, hw⟩ := sound_iff.1 hs
 have ha := (alone_iff x).1 hw
 have b1 := (kept_iff.1 (com_iff.1 hc).2.2.2.1).1
 have hth : x.th.clear.length < 8796093022208 ∧ x.th.l0.length < 8796093022208 ∧ x.th.l1.length < 8796093022208 ∧ x.th.l2.length < 8796093022208 ∧ x.th.l3.length < 8796093022208 ∧ x.th.alerts.length < 4294967296 := by
  by_cases h4 : x.kind = 4
  ·obtain ⟨_, q1, q2⟩ := (own4 h4).1 ho
   have k1 := (kept_iff.1 (boun_iff.1 q1).2.1).1
   have q3 := (thr_iff.1 q2).1
   have k2 := (kept_iff.1 (q3 0 (by omega))).1
   have k3 := (kept_iff.1 (q3 1 (by omega))).1
   have k4 := (kept_iff.1 (q3 2 (by omega))).1
   have k5 := (kept_iff.1 (q3 3 (by omega))).1
   simp only [labs] at k2 k3 k4 k5
   have k6 : x.th.alerts.length ≤ 8 := by
    unfold thrB at q2
    simp only [Bool.and_eq_true, decide_eq_true_eq] at q2
    omega
   omega
  ·rw [alo_th ha h4]; decide
 have hgt : x.gt.grant.length < 8796093022208 ∧ x.gt.clear.length < 8796093022208 := by
  by_cases h5 : x.kind = 5
  ·have q := boun_iff.1 ((own5 h5).1 ho)
   have k1 := (kept_iff.1 q.1).1
   have k2 := (kept_iff.1 q.2.1).1
   omega
  ·rw [alo_gt ha h5]; decide
 have hio : x.inn.length < 4294967296 ∧ x.out.length < 4294967296 := by
  by_cases h6 : x.kind = 6
  ·unfold ownB at ho
   rw [if_neg (by rw [h6]; decide), if_neg (by rw [h6]; decide), if_neg (by rw [h6]; decide), if_neg (by rw [h6]; decide), if_neg (by rw [h6]; decide), if_pos h6] at ho
   simp only [Bool.and_eq_true, decide_eq_true_eq] at ho
   omega
  ·rw [(alo_io ha h6).1, (alo_io ha h6).2]; decide
 exact ⟨by omega, hf.1, hf.2.1, hf.2.2, hth.1, hth.2.2.2.2.2, hth.2.1, hth.2.2.1, hth.2.2.2.1, hth.2.2.2.2.1, hgt.1, hgt.2, hio.1, hio.2⟩
end Go.Proofs.Ytobcdaaghdljbaa
namespace Go.Proofs.Ytobcdaaghdljbaa
set_option maxRecDepth 100000
set_option maxHeartbeats 8000000
open Go.RowKit Go.Shelf
set_option linter.unusedVariables false

theorem alo_maps {x : Ob} (h : aloO x = x) (hk : ¬ x.kind = 3) : x.maps = [] := by
 have e : (aloO x).maps = [] := by
  unfold aloO
  by_cases h1 : x.kind = 1
  ·rw [if_pos h1]
  rw [if_neg h1]
  by_cases h2 : x.kind = 2
  ·rw [if_pos h2]
  rw [if_neg h2, if_neg hk]
  by_cases h4 : x.kind = 4
  ·rw [if_pos h4]
  rw [if_neg h4]
  by_cases h5 : x.kind = 5
  ·rw [if_pos h5]
  rw [if_neg h5]
  by_cases h6 : x.kind = 6
  ·rw [if_pos h6]
  rw [if_neg h6]; rfl
 rw [h] at e; exact e
theorem sound_small0 {x : Ob} (hs : soundB x = true) : Small x := by
 obtain ⟨hc, ho, hw⟩ := sound_iff.1 hs
 have ha := (alone_iff x).1 hw
 have hq := (com_iff.1 hc).2.2.1
 refine sound_small hs ⟨?_, ?_, ?_⟩
 ·by_cases k2 : x.kind = 2
  ·unfold ownB at ho
   rw [if_neg (by rw [k2]; decide), if_pos k2] at ho
   simp only [Bool.and_eq_true, decide_eq_true_eq] at ho
   omega
  ·rw [links_nil hs k2]; decide
 ·by_cases k1 : x.kind = 1
  ·unfold ownB at ho
   rw [if_pos k1] at ho
   simp only [decide_eq_true_eq] at ho
   omega
  ·rw [alo_data ha k1]; decide
 ·by_cases k3 : x.kind = 3
  ·unfold ownB at ho
   rw [if_neg (by rw [k3]; decide), if_neg (by rw [k3]; decide), if_pos k3] at ho
   unfold PgM.Pg.fitB at ho
   simp only [Bool.and_eq_true, decide_eq_true_eq] at ho
   omega
  ·rw [alo_maps ha k3]; decide
end Go.Proofs.Ytobcdaaghdljbaa
