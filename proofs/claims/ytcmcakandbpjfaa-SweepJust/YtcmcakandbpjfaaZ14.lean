/-
 PROVED HERE: how a map from words to where an object lies is asked and changed; what a view's ownNumbers returns when it is. What is asked stands at each.
-/
import Derived.Test.YtcmcakandbpjfaaZ1
import Derived.Test.YtcmcakandbpjfaaZ8
import Derived.Test.YtcmcakandbpjfaaZ9
import Derived.Test.YtcmcakandbpjfaaZ13
namespace Go.Proofs.Ytcmcakandbpjfaa
set_option maxRecDepth 100000
set_option maxHeartbeats 8000000
open Go.RowKit Go.Shelf
set_option linter.unusedVariables false
attribute [local go_sem] Oper.semAt_some

abbrev Hl := List (Int × (Int × Int))
def hv (p : Int × Int) : Value := .agg #[.int .i64 p.1, .int .u64 p.2]
def lkH (k : Int) : Hl → Int × Int
 | [] => (0, 0)
 | p :: l => if p.1 = k then p.2 else lkH k l
def kv (e : MapEntry) : Value × Value := (e.key, e.val)
def ekv (p : Int × (Int × Int)) : Value × Value := (.int .u64 p.1, hv p.2)
def MapF (W : World) (M : Nat) (f : Int → Int × Int) : Prop := ∃ (es : Array MapEntry) (c : Nat) (l : Hl), W.heap[M]? = some (.map es c) ∧ es.toList.map kv = l.map ekv ∧ ∀ k, lkH k l = f k
theorem MapF.lt {W : World} {M : Nat} {f : Int → Int × Int} (h : MapF W M f) : M < W.heap.size := by
 obtain ⟨es, c, l, h1, _⟩ := h
 exact (Array.getElem?_eq_some_iff.1 h1).1
theorem MapF.block {W W' : World} {M : Nat} {f : Int → Int × Int} (h : MapF W M f) (k : W'.heap[M]? = W.heap[M]?) : MapF W' M f := by
 obtain ⟨es, c, l, h1, h2⟩ := h
 exact ⟨es, c, l, k.trans h1, h2⟩
theorem MapF.next {W W' : World} {M : Nat} {f : Int → Int × Int} (h : MapF W M f) (k : Below W.heap.size W W') : MapF W' M f := h.block (k.block M h.lt)
end Go.Proofs.Ytcmcakandbpjfaa
namespace Go.Proofs.Ytcmcakandbpjfaa
set_option maxRecDepth 100000
set_option maxHeartbeats 8000000
open Go.RowKit Go.Shelf
set_option linter.unusedVariables false
attribute [local go_sem] Oper.semAt_some

def WdO (x : Ob) : Prop := (0 ≤ x.id ∧ x.id < 18446744073709551616) ∧ (0 ≤ x.th.lo ∧ x.th.lo < 18446744073709551616) ∧ (0 ≤ x.th.hi ∧ x.th.hi < 18446744073709551616)
end Go.Proofs.Ytcmcakandbpjfaa
namespace Go.Proofs.Ytcmcakandbpjfaa
set_option maxRecDepth 100000
set_option maxHeartbeats 8000000
open Go.ChangeShapes Go.WideShapes Go.ChangeAt Go.RowKit
set_option linter.unusedVariables false

section
variable {H : Type} {enc : TypeId × Value → H} {w : World} {m : Nat} {y : DataW H × List MemPlace}
theorem f_intw {cs : List Value} {o : Nat} {t : TypeId} {k : IntKind} (ho : o < cs.length) (hc : Try.prog.cellsOf t = 1) (hu : Try.prog.underlying t = some (.int k)) (h : DataW.trod enc Try.prog w 0 (fun _ => true) true m t ((cs.drop o).take (Try.prog.cellsOf t)) = some y) : ∃ n, cs[o]? = some (.int k n) ∧ (Lit.int k n).wf = true := by
 rw [hc, one_cell ho] at h
 obtain ⟨n, e, _, hw⟩ := DataW.trod_int hu h
 simp at e
 exact ⟨n, by rw [List.getElem?_eq_getElem ho, e], hw⟩
theorem u64_wf {a : Int} (h : (Lit.int .u64 a).wf = true) : 0 ≤ a ∧ a < 18446744073709551616 := by
 simp [Lit.wf, IntKind.min, IntKind.max, IntKind.bits, IntKind.signed] at h
 omega
theorem span_wf {cs : List Value} (h : DataW.trod enc Try.prog w 0 (fun _ => true) true m 47 cs = some y) : ∃ a b, cs[0]? = some (.int .u64 a) ∧ cs[1]? = some (.int .u64 b) ∧ (0 ≤ a ∧ a < 18446744073709551616) ∧ (0 ≤ b ∧ b < 18446744073709551616) := by
 obtain ⟨xs, m', _, _, hl, hx, hg⟩ := DataW.trod_struct Try.underlying47 h
 rw [show Try.prog.cellsOf 47 = 2 from by kernel_rfl] at hl
 obtain ⟨y0, y1, rfl⟩ : ∃ y0 y1, xs = [y0, y1] := by
  match xs, hx with
  | [y0, y1], _ => exact ⟨y0, y1, rfl⟩
 have t0 : DataW.trod enc Try.prog w 0 (fun _ => true) true m' 22 ((cs.drop 0).take (Try.prog.cellsOf 22)) = some y0 := hg 0 _ rfl
 have t1 : DataW.trod enc Try.prog w 0 (fun _ => true) true m' 22 ((cs.drop 1).take (Try.prog.cellsOf 22)) = some y1 := hg 1 _ rfl
 obtain ⟨a, ea, wa⟩ := f_intw (o := 0) (by rw [hl]; omega) (by kernel_rfl) Try.underlying22 t0
 obtain ⟨b, eb, wb⟩ := f_intw (o := 1) (by rw [hl]; omega) (by kernel_rfl) Try.underlying22 t1
 exact ⟨a, b, ea, eb, u64_wf wa, u64_wf wb⟩
theorem wd_of_cells {cs : List Value} {x : Ob} {D : Nat → Prop} (h : DataW.trod enc Try.prog w 0 (fun _ => true) true m 54 cs = some y) (hx : ObD D w cs.toArray x) : WdO x := by
 obtain ⟨xs, m', _, _, hl, hxs, hg⟩ := DataW.trod_struct Try.underlying54 h
 rw [show Try.prog.cellsOf 54 = 51 from by kernel_rfl] at hl
 obtain ⟨y0, y1, y2, y3, y4, y5, y6, y7, y8, y9, y10, y11, rfl⟩ : ∃ y0 y1 y2 y3 y4 y5 y6 y7 y8 y9 y10 y11, xs = [y0, y1, y2, y3, y4, y5, y6, y7, y8, y9, y10, y11] := by
  match xs, hxs with
  | [y0, y1, y2, y3, y4, y5, y6, y7, y8, y9, y10, y11], _ => exact ⟨y0, y1, y2, y3, y4, y5, y6, y7, y8, y9, y10, y11, rfl⟩
 have t0 : DataW.trod enc Try.prog w 0 (fun _ => true) true m' 22 ((cs.drop 0).take (Try.prog.cellsOf 22)) = some y0 := hg 0 _ rfl
 obtain ⟨id, eid, wid⟩ := f_intw (o := 0) (by rw [hl]; omega) (by kernel_rfl) Try.underlying22 t0
 have t8 : DataW.trod enc Try.prog w 0 (fun _ => true) true m' 50 ((cs.drop 8).take (Try.prog.cellsOf 50)) = some y8 := hg 8 _ rfl
 rw [show Try.prog.cellsOf 50 = 35 from by kernel_rfl] at t8
 obtain ⟨zs, m2, _, _, hl2, hzs, hg2⟩ := DataW.trod_struct Try.underlying50 t8
 obtain ⟨z0, z1, z2, z3, z4, z5, z6, z7, z8, z9, z10, rfl⟩ : ∃ z0 z1 z2 z3 z4 z5 z6 z7 z8 z9 z10, zs = [z0, z1, z2, z3, z4, z5, z6, z7, z8, z9, z10] := by
  match zs, hzs with
  | [z0, z1, z2, z3, z4, z5, z6, z7, z8, z9, z10], _ => exact ⟨z0, z1, z2, z3, z4, z5, z6, z7, z8, z9, z10, rfl⟩
 have t9 : DataW.trod enc Try.prog w 0 (fun _ => true) true m2 47 ((((cs.drop 8).take 35).drop 29).take (Try.prog.cellsOf 47)) = some z9 := hg2 9 _ rfl
 rw [show Try.prog.cellsOf 47 = 2 from by kernel_rfl] at t9
 obtain ⟨a, b, ea, eb, wa, wb⟩ := span_wf t9
 have c0 : (((((cs.drop 8).take 35).drop 29).take 2)[0]?) = cs[37]? := by simp [List.getElem?_drop]
 have c1 : (((((cs.drop 8).take 35).drop 29).take 2)[1]?) = cs[38]? := by simp [List.getElem?_drop]
 rw [c0] at ea
 rw [c1] at eb
 have i1 : cs[0]? = some (.int .u64 x.id) := by simpa using hx.id
 have i2 : cs[37]? = some (.int .u64 x.th.lo) := by simpa using hx.th.lo
 have i3 : cs[38]? = some (.int .u64 x.th.hi) := by simpa using hx.th.hi
 rw [i1] at eid
 rw [i2] at ea
 rw [i3] at eb
 cases eid
 cases ea
 cases eb
 exact ⟨u64_wf wid, wa, wb⟩
theorem obsW_of_trod {ao : Option Addr} {n cap : Nat} {d : DataW H} {ps : List MemPlace} (h : DataW.Trod enc Try.prog w 0 (fun _ => true) true 23 (.slice ao n cap) d ps) : ∃ l, Obs w ao n cap l ∧ ∀ x ∈ l, WdO x := by
 obtain ⟨fuel, hf⟩ := h
 have c51 : Try.prog.cellsOf 54 = 51 := by kernel_rfl
 rcases Go.Deep.open_slice Try.underlying23 hf with ⟨e, _⟩ | ⟨a, len, cap', m, n', D, Pl, e, hb, hl, hm, hmm, hdd, hx⟩
 ·simp [Value.cells] at e
  obtain ⟨rfl, rfl, rfl⟩ := e
  exact ⟨[], ObsD.nil _ _ _, fun x hx => absurd hx (by simp)⟩
 ·simp [Value.cells] at e
  obtain ⟨rfl, rfl, rfl⟩ := e
  have hmc : m = cap := by rw [hmm]; rfl
  have key : ∀ i, ∃ (x : Ob) (C : Array Value), i < n → (ObD (LtN w) w C x ∧ WdO x) ∧ ∀ j v, C[j]? = some v → w.cell? ((a.add (i * 51)).add j) = some v := by
   intro i
   by_cases hi : i < n
   ·obtain ⟨cs, h1, h2⟩ := hx i (by omega)
    rw [c51] at h1
    obtain ⟨_, hlen, hcell⟩ := World.cells?_some h1
    obtain ⟨x, hxx⟩ := ob_of_cells h2
    refine ⟨x, cs.toArray, fun _ => ⟨⟨hxx, wd_of_cells h2 hxx⟩, fun j v hv => ?_⟩⟩
    have hv' : cs[j]? = some v := by simpa using hv
    have hj : j < 51 := by rw [← hlen]; exact (List.getElem?_eq_some_iff.1 hv').1
    rw [hcell j hj, hv']
   ·exact ⟨zOb, #[], fun h => absurd h hi⟩
  have hkey : ∀ i, i < n → ∃ C, (ObD (LtN w) w C (Classical.choose (key i)) ∧ WdO (Classical.choose (key i))) ∧ ∀ j v, C[j]? = some v → w.cell? ((a.add (i * 51)).add j) = some v := fun i hi => by
   obtain ⟨C, hC⟩ := Classical.choose_spec (key i)
   exact ⟨C, hC hi⟩
  refine ⟨(List.range n).map fun i => Classical.choose (key i), ⟨by simp, hl, ⟨by unfold maxLen at hm; omega, fun e => by cases e⟩, fun hn => ?_⟩, fun x hx => ?_⟩
  ·obtain ⟨v0, z⟩ : ∃ v0, w.cell? ((a.add (0 * 51)).add 0) = some v0 := by
    obtain ⟨C, hC, hr⟩ := hkey 0 hn
    exact ⟨_, hr 0 _ hC.1.id⟩
   have ha0 : (a.add (0 * 51)).add 0 = a := by simp [Addr.add]
   rw [ha0] at z
   obtain ⟨hea, hadd⟩ := PgM.spotK z
   refine ⟨a.block, a.off, by rw [← hea], World.block_lt_of_cell? w _ z, fun i hi => ?_⟩
   have hg : oat ((List.range n).map fun i => Classical.choose (key i)) i = Classical.choose (key i) := by
    unfold oat; rw [List.getD_eq_getElem?_getD, List.getElem?_eq_getElem (by simpa using hi)]; simp
   obtain ⟨C, hC, hr⟩ := hkey i hi
   refine ⟨C, by rw [hg]; exact hC.1, fun j v hv => ?_⟩
   have q := hr j v (by simpa using hv)
   rw [hadd, Addr.add_mid] at q
   exact q
  ·obtain ⟨i, hi, rfl⟩ := List.mem_map.1 hx
   obtain ⟨C, hC, _⟩ := hkey i (List.mem_range.1 hi)
   exact hC.2
theorem worldW_of_trod {base : Nat} {v : Value} {d : DataW H} {ps : List MemPlace} (hv : Value.okWide Try.prog w .any base 25 v)
  (h : DataW.Trod enc Try.prog w 0 (fun _ => true) true 25 v d ps) : ∃ (t : Int) (ke : Nat) (ro : Int) (ao : Option Addr) (n cap : Nat) (X : List Ob), v = .agg #[.int .i64 t, .int .u64 (ke : Int), .int .u64 ro, .slice ao n cap] ∧ (Obs w ao n cap X ∧ ∀ x ∈ X, WdO x) := by
 unfold Value.okWide at hv
 rw [Try.underlying25] at hv
 obtain ⟨cs, rfl, hs, _⟩ := hv
 rw [show Try.prog.cellsOf 25 = 4 from by kernel_rfl] at hs
 obtain ⟨fuel, hf⟩ := h
 obtain ⟨x0, x1, x2, x3, rfl⟩ : ∃ x0 x1 x2 x3, cs = #[x0, x1, x2, x3] := by
  match cs, hs with
  | ⟨[x0, x1, x2, x3]⟩, _ => exact ⟨x0, x1, x2, x3, rfl⟩
 have hf' : DataW.trod enc Try.prog w 0 (fun _ => true) true fuel 25 [x0, x1, x2, x3] = some (d, ps) := hf
 obtain ⟨xs, m', _, _, hl, hx, hg⟩ := DataW.trod_struct Try.underlying25 hf'
 obtain ⟨y0, y1, y2, y3, rfl⟩ : ∃ y0 y1 y2 y3, xs = [y0, y1, y2, y3] := by
  match xs, hx with
  | [y0, y1, y2, y3], _ => exact ⟨y0, y1, y2, y3, rfl⟩
 obtain ⟨t, et⟩ := f_int (t := 3) (o := 0) (y := y0) (by simp) (by kernel_rfl) Try.underlying3 (hg 0 _ rfl)
 obtain ⟨ke, eke, wke⟩ := f_intw (t := 22) (o := 1) (y := y1) (by simp) (by kernel_rfl) Try.underlying22 (hg 1 _ rfl)
 obtain ⟨ro, ero⟩ := f_int (t := 22) (o := 2) (y := y2) (by simp) (by kernel_rfl) Try.underlying22 (hg 2 _ rfl)
 obtain ⟨ao, n, cap, ea, hT⟩ := f_slice (t := 23) (o := 3) (y := y3) (by simp) (by kernel_rfl) Try.underlying23 (hg 3 _ rfl)
 obtain ⟨X, hX, hW⟩ := obsW_of_trod hT
 have hk := u64_wf wke
 obtain ⟨kn, rfl⟩ : ∃ kn : Nat, ke = kn := ⟨ke.toNat, by omega⟩
 simp at et eke ero ea
 subst et eke ero ea
 exact ⟨t, kn, ro, ao, n, cap, X, rfl, hX, hW⟩
end
end Go.Proofs.Ytcmcakandbpjfaa
namespace Go.Proofs.Ytcmcakandbpjfaa
set_option maxRecDepth 100000
set_option maxHeartbeats 8000000
open Go.RowKit Go.Shelf
set_option linter.unusedVariables false

def StayT {β : Type} (B : Nat) (t : TypeId) (J : β → World → Prop) : Prop := ∀ s A A' row, J s A → A.grownBy A' row → (∀ r, row = some r → B ≤ r ∧ ∃ C, A.heap[r]? = some (.cells C t)) → J s A'
def KT (D : Nat → Prop) (t : TypeId) (B : Nat) (W W' : World) : Prop := Keeps D W W' ∧ ∀ b C, B ≤ b → W.heap[b]? = some (.cells C t) → W'.heap[b]? = some (.cells C t)
theorem KT.trans {D : Nat → Prop} {t : TypeId} {B : Nat} {X Y Z : World} (h : KT D t B X Y) (k : KT D t B Y Z) : KT D t B X Z := ⟨h.1.trans k.1, fun b C hb hc => k.2 b C hb (h.2 b C hb hc)⟩
theorem KT.putObj {D : Nat → Prop} {t : TypeId} {B : Nat} {W : World} {l : Nat} {r : Loop} (o : Obj) (hD : ∀ b, D b → b ≠ l) (h : W.heap[l]? = some (.loop r)) : KT D t B W (W.putObj l o) :=
 ⟨⟨by simp [World.putObj], fun b hb => World.putObj_heap_other (hD b hb)⟩, fun b C _ hc => (World.putObj_heap_other (fun e => by rw [e, h] at hc; cases hc)).trans hc⟩
end Go.Proofs.Ytcmcakandbpjfaa
namespace Go.Proofs.Ytcmcakandbpjfaa
set_option maxRecDepth 100000
set_option maxHeartbeats 8000000
open Go.RowKit Go.Shelf
set_option linter.unusedVariables false
attribute [local go_sem] Oper.semAt_some

theorem Oth.grown {B : Nat} {w W : World} (h : Oth B w W) : w.grownBy W (some B) :=
 have b := h.below B w (Nat.le_refl _) (Below.refl _ _)
 ⟨b.os, b.tape, b.output, b.size, fun k _ hk => h.block k (fun e => hk (by rw [e]))⟩
end Go.Proofs.Ytcmcakandbpjfaa
namespace Go.Proofs.Ytcmcakandbpjfaa
set_option maxRecDepth 100000
set_option maxHeartbeats 8000000
open Go.RowKit Go.Shelf
set_option linter.unusedVariables false
attribute [local go_sem] Oper.semAt_some

theorem StayT.and {β : Type} {B : Nat} {t : TypeId} {I I' : β → World → Prop} (h : StayT B t I) (h' : StayT B t I') : StayT B t (fun s W => I s W ∧ I' s W) := fun s A A' row hs hg hr => ⟨h s A A' row hs.1 hg hr, h' s A A' row hs.2 hg hr⟩
end Go.Proofs.Ytcmcakandbpjfaa
namespace Go.Proofs.Ytcmcakandbpjfaa
set_option maxRecDepth 100000
set_option maxHeartbeats 8000000
open Go.RowKit Go.Shelf
set_option linter.unusedVariables false
attribute [local go_sem] Oper.semAt_some

theorem sound_q {x : Ob} (h : soundB x = true) : (0 ≤ x.quota ∧ x.quota ≤ 4096) ∧ x.label.length < 1048576 := by
 unfold soundB comB keptB at h
 simp only [Bool.and_eq_true, decide_eq_true_eq] at h
 omega
end Go.Proofs.Ytcmcakandbpjfaa
namespace Go.Proofs.Ytcmcakandbpjfaa
set_option maxRecDepth 100000
set_option maxHeartbeats 8000000

theorem fnd_id {X : List Ob} {i : Int} {x : Ob} (h : fnd X i = some x) : x.id = i ∧ x ∈ X :=
 ⟨by simpa using List.find?_some (show X.find? _ = some x from h), List.mem_of_find?_eq_some (show X.find? _ = some x from h)⟩
theorem holL_mem {X : List Ob} {i h : Int} (q : h ∈ holL X i) : ∃ d ∈ X, d.id = h ∧ i ∈ d.links := by
 unfold holL at q
 obtain ⟨d, hd, e⟩ := List.mem_map.1 q
 obtain ⟨h1, h2⟩ := List.mem_filter.1 hd
 exact ⟨d, h1, e, by simpa using h2⟩
theorem fnd_mem {X : List Ob} {d : Ob} (h : d ∈ X) : (fnd X d.id).isSome = true := by
 unfold fnd
 rw [List.find?_isSome]
 exact ⟨d, h, by simp⟩
def upB (X : List Ob) (ro i : Int) : Bool := (decide (i = ro) && decide ((rabv X i).length = 0)) || (decide (0 < (rabv X i).length) && decide ((rabv X i).getLast?.getD 0 = ro))
end Go.Proofs.Ytcmcakandbpjfaa
namespace Go.Proofs.Ytcmcakandbpjfaa
set_option maxRecDepth 100000
set_option maxHeartbeats 8000000

def lnkB (X : List Ob) (d : Ob) : Bool := (d.links.all fun i => (fnd X i).isSome && plcB d.label (fO X i).label) && (!decide (d.kind = 2) || decide (usesN X d ≤ d.quota))
def plaB (X : List Ob) (ro : Int) (o : Ob) : Bool :=
 if o.id = ro then decide ((holL X o.id).length = 0) && (decide (o.kind = 2) && decide (o.quota ≤ 1024))
 else (decide (1 ≤ (holL X o.id).length) && !(decide (1 < (holL X o.id).length) && (!o.fixed || sngO o))) && (!decide (o.kind = 2) || upB X ro o.id)
def rapB (a b c d : Nat) : Bool := decide (a = b) || (decide (c = d) || (decide (b ≤ c) || decide (d ≤ a)))
def rowB (key : Nat) (X : List Ob) (i k : Nat) : Bool := !(SrM.hasK key (oat X i).th.lo.toNat (oat X i).th.hi.toNat (oat X k).id.toNat || (decide ((oat X k).kind = 4) && (decide (k ≠ i) && !rapB (oat X i).th.lo.toNat (oat X i).th.hi.toNat (oat X k).th.lo.toNat (oat X k).th.hi.toNat)))
def spaB (key : Nat) (X : List Ob) : Bool := (List.range X.length).all fun i => !decide ((oat X i).kind = 4) || (List.range X.length).all fun k => rowB key X i k
def fitD (t : Int) (key : Nat) (ro : Int) (X : List Ob) : Bool := (fitW ⟨t, key, ro, X⟩ && (fnd X ro).isSome) && (((List.range X.length).all fun j => lnkB X (oat X j) && plaB X ro (oat X j)) && spaB key X)
theorem all_oat {X : List Ob} {p : Ob → Bool} : ((List.range X.length).all fun j => p (oat X j)) = true ↔ ∀ o ∈ X, p o = true := by
 rw [List.all_eq_true]
 constructor
 ·intro h o ho
  obtain ⟨i, hi, e⟩ := List.getElem_of_mem ho
  have := h i (List.mem_range.2 hi)
  rwa [oat_get hi, e] at this
 ·intro h j hj
  exact h _ (oat_mem (List.mem_range.1 hj))
theorem links_nil {x : Ob} (h : soundB x = true) (hk : x.kind ≠ 2) : x.links = [] := by
 have ha : aloO x = x := (alone_iff x).1 (sound_iff.1 h).2.2
 rw [← ha]
 unfold aloO comO
 rw [if_neg hk]
 split
 ·rfl
 split
 ·rfl
 split
 ·rfl
 split
 ·rfl
 split <;> rfl
theorem links_rise {x : Ob} (h : soundB x = true) : x.links.Pairwise (· < ·) := by
 by_cases hk : x.kind = 2
 ·have := (sound_iff.1 h).2.1
  unfold ownB at this
  rw [if_neg (by rw [hk]; decide), if_pos hk] at this
  simp only [Bool.and_eq_true, risB, decide_eq_true_eq] at this
  exact this.2.2
 ·rw [links_nil h hk]; exact List.Pairwise.nil
theorem links_nodup {x : Ob} (h : soundB x = true) : x.links.Nodup := (links_rise h).imp fun h => by omega
theorem id_pos {x : Ob} (h : soundB x = true) : 1 ≤ x.id := by
 have := (com_iff.1 (sound_iff.1 h).1).1
 unfold idB at this
 simp only [Bool.and_eq_true, decide_eq_true_eq] at this
 omega
theorem oat_inj {X : List Ob} (hs : Srt X) {i j : Nat} (hi : i < X.length) (hj : j < X.length) : (oat X j).id = (oat X i).id ↔ j = i := by
 rw [oat_get hi, oat_get hj]
 constructor
 ·intro e
  rcases Nat.lt_trichotomy i j with q | q | q
  ·have := List.pairwise_iff_getElem.1 hs i j hi hj q; omega
  ·exact q.symm
  ·have := List.pairwise_iff_getElem.1 hs j i hj hi q; omega
 ·intro e; subst e; rfl
theorem fit_mem {t ke ro : Int} {X : List Ob} (h : fitW ⟨t, ke, ro, X⟩ = true) : Srt X ∧ (∀ x ∈ X, soundB x = true) ∧ X.length ≤ 1024 := by
 unfold fitW at h
 simp only [Bool.and_eq_true, decide_eq_true_eq, List.all_eq_true] at h
 exact ⟨idsB_iff.1 h.2.2.2.1, h.2.2.2.2, h.2.2.1⟩
end Go.Proofs.Ytcmcakandbpjfaa
namespace Go.Proofs.Ytcmcakandbpjfaa
set_option maxRecDepth 100000
set_option maxHeartbeats 8000000
open Go.RowKit Go.Shelf
set_option linter.unusedVariables false
attribute [local go_sem] Oper.semAt_some

def fewO (x : Ob) : Prop := x.label.length ≤ 20 ∧ x.links.length ≤ 70 ∧ x.data.length ≤ 300 ∧ x.maps.length ≤ 20
end Go.Proofs.Ytcmcakandbpjfaa
namespace Go.Proofs.Ytcmcakandbpjfaa
set_option maxRecDepth 100000
set_option maxHeartbeats 8000000

structure Tre (X : List Ob) (ro : Int) : Prop where
 srt : Srt X
 snd : ∀ x ∈ X, soundB x = true
 len : X.length ≤ 1024
 rot : ∃ r, fnd X ro = some r ∧ r.kind = 2 ∧ r.quota ≤ 1024
 hro : holL X ro = []
 hol : ∀ o ∈ X, o.id ≠ ro → holL X o.id ≠ []
 lnk : ∀ d ∈ X, ∀ i ∈ d.links, (fnd X i).isSome = true ∧ plcB d.label (fO X i).label = true
 use : ∀ d ∈ X, d.kind = 2 → usesN X d ≤ d.quota
 upw : ∀ o ∈ X, o.kind = 2 → o.id ≠ ro → upB X ro o.id = true
theorem tre_of {t : Int} {key : Nat} {ro : Int} {X : List Ob} (h : fitD t key ro X = true) : Tre X ro := by
 unfold fitD at h
 simp only [Bool.and_eq_true] at h
 obtain ⟨⟨hf, hr⟩, hlp, _⟩ := h
 obtain ⟨hs, hso, hlen⟩ := fit_mem hf
 rw [all_oat (p := fun o => lnkB X o && plaB X ro o)] at hlp
 obtain ⟨r, hrf⟩ := Option.isSome_iff_exists.1 hr
 have hri := fnd_id hrf
 have hp := hlp r hri.2
 rw [Bool.and_eq_true] at hp
 have hp2 := hp.2
 unfold plaB at hp2
 rw [if_pos hri.1, hri.1] at hp2
 simp only [Bool.and_eq_true, decide_eq_true_eq] at hp2
 refine ⟨hs, hso, hlen, ⟨r, hrf, hp2.2.1, hp2.2.2⟩, List.eq_nil_of_length_eq_zero hp2.1, ?_, ?_, ?_, ?_⟩
 ·intro o ho hne
  have := hlp o ho
  rw [Bool.and_eq_true] at this
  have h2 := this.2
  unfold plaB at h2
  rw [if_neg hne] at h2
  simp only [Bool.and_eq_true, decide_eq_true_eq] at h2
  intro q
  rw [q] at h2
  simp at h2
 ·intro d hd i hi
  have := hlp d hd
  rw [Bool.and_eq_true] at this
  have h1 := this.1
  unfold lnkB at h1
  simp only [Bool.and_eq_true, List.all_eq_true] at h1
  exact h1.1 i hi
 ·intro d hd k2
  have := hlp d hd
  rw [Bool.and_eq_true] at this
  have h1 := this.1
  unfold lnkB at h1
  simp only [Bool.and_eq_true, Bool.or_eq_true, Bool.not_eq_true', decide_eq_true_eq, decide_eq_false_iff_not] at h1
  rcases h1.2 with q | q
  ·exact absurd k2 q
  ·exact q
 ·intro o ho k2 hne
  have := hlp o ho
  rw [Bool.and_eq_true] at this
  have h2 := this.2
  unfold plaB at h2
  rw [if_neg hne] at h2
  simp only [Bool.and_eq_true, Bool.or_eq_true, Bool.not_eq_true', decide_eq_false_iff_not] at h2
  rcases h2.2 with q | q
  ·exact absurd k2 q
  ·exact q
theorem nodup_le : ∀ (l m : List Int), l.Nodup → (∀ x ∈ l, x ∈ m) → l.length ≤ m.length
 | [], _, _, _ => Nat.zero_le _
 | a :: l, m, h, hm => by
  obtain ⟨h1, h2⟩ := List.nodup_cons.1 h
  have ha := hm a (List.mem_cons_self ..)
  have := nodup_le l (m.erase a) h2 fun x hx => (List.mem_erase_of_ne (fun e => h1 (by rw [← e]; exact hx))).2 (hm x (List.mem_cons_of_mem _ hx))
  rw [List.length_erase_of_mem ha] at this
  have : 0 < m.length := List.length_pos_of_mem ha
  simp only [List.length_cons]
  omega
theorem abv_take (X : List Ob) : ∀ (f : Nat) (i : Int), abvL X f i = (abvL X (f + 1) i).take f
 | 0, i => by simp [abvL]
 | f + 1, i => by
  cases hh : holL X i with
  | nil => rw [show abvL X (f + 1) i = [] from by unfold abvL; rw [hh], show abvL X (f + 1 + 1) i = [] from by unfold abvL; rw [hh]]; rfl
  | cons a t =>
   rw [show abvL X (f + 1) i = a :: abvL X f a from by conv => lhs; unfold abvL; rw [hh], show abvL X (f + 1 + 1) i = a :: abvL X (f + 1) a from by conv => lhs; unfold abvL; rw [hh]]
   rw [List.take_succ_cons, ← abv_take X f a]
section
variable {X : List Ob} {ro : Int}
abbrev wayL (X : List Ob) (i : Int) : List Int := abvL X (X.length + 1) i
theorem links_cont (h : Tre X ro) {d : Ob} (hd : d ∈ X) {i : Int} (hi : i ∈ d.links) : d.kind = 2 := Classical.byContradiction fun q => by rw [links_nil (h.snd d hd) q] at hi; cases hi
theorem way_cont (h : Tre X ro) {o : Ob} (ho : o ∈ X) (k2 : o.kind = 2) : (wayL X o.id).length ≤ X.length ∧ (o.id ≠ ro → (wayL X o.id).getLast?.getD 0 = ro ∧ wayL X o.id ≠ []) := by
 by_cases e : o.id = ro
 ·refine ⟨?_, fun q => absurd e q⟩
  rw [e]
  unfold wayL abvL
  rw [h.hro]
  exact Nat.zero_le _
 ·have hu := h.upw o ho k2 e
  unfold upB at hu
  rw [decide_eq_false e, Bool.false_and, Bool.false_or, Bool.and_eq_true, decide_eq_true_eq, decide_eq_true_eq] at hu
  have hr : rabv X o.id = wayL X o.id ∧ (wayL X o.id).length ≤ X.length := by
   unfold rabv at hu ⊢
   split at hu
   ·rename_i hq; rw [if_pos hq]; exact ⟨rfl, hq⟩
   ·exact absurd hu.1 (by simp)
  rw [hr.1] at hu
  exact ⟨hr.2, fun _ => ⟨hu.2, List.length_pos_iff.1 hu.1⟩⟩
theorem way_step (h : Tre X ro) {o : Ob} (ho : o ∈ X) (hne : o.id ≠ ro) : ∃ d ∈ X, d.kind = 2 ∧ o.id ∈ d.links ∧ (holL X o.id).head? = some d.id ∧ wayL X o.id = d.id :: wayL X d.id := by
 cases hh : holL X o.id with
 | nil => exact absurd hh (h.hol o ho hne)
 | cons a t =>
  obtain ⟨d, hd, e, hi⟩ := holL_mem (show a ∈ holL X o.id by rw [hh]; exact List.mem_cons_self ..)
  have k2 := links_cont h hd hi
  refine ⟨d, hd, k2, hi, by rw [e]; rfl, ?_⟩
  unfold wayL
  have e1 : abvL X (X.length + 1) o.id = a :: abvL X X.length a := by conv => lhs; unfold abvL; rw [hh]
  rw [e1, e, abv_take X X.length a]
  congr 1
  refine List.take_of_length_le ?_
  have := (way_cont h hd k2).1
  rw [e] at this
  exact this
theorem way_root (h : Tre X ro) : wayL X ro = [] := by unfold wayL abvL; rw [h.hro]
theorem way_all (h : Tre X ro) : ∀ (k : Nat) (o : Ob), o ∈ X → (wayL X o.id).length = k → (∀ c ∈ wayL X o.id, (wayL X c).length < k ∧ ∃ d ∈ X, d.id = c) ∧ (wayL X o.id).Nodup ∧ (wayL X o.id = [] ∨ (wayL X o.id).getLast?.getD 0 = ro)
 | 0, o, ho, hk => by
  rw [List.eq_nil_of_length_eq_zero hk]
  exact ⟨fun c hc => absurd hc (by simp), List.nodup_nil, .inl rfl⟩
 | k + 1, o, ho, hk => by
  have hne : o.id ≠ ro := fun e => by rw [e, way_root h] at hk; cases hk
  obtain ⟨d, hd, k2, _, _, hw⟩ := way_step h ho hne
  rw [hw, List.length_cons] at hk
  obtain ⟨i1, i2, i3⟩ := way_all h k d hd (by omega)
  rw [hw]
  refine ⟨?_, ?_, .inr ?_⟩
  ·intro c hc
   rcases List.mem_cons.1 hc with q | q
   ·rw [q]; exact ⟨by omega, d, hd, rfl⟩
   ·have := i1 c q; exact ⟨by omega, this.2⟩
  ·refine List.nodup_cons.2 ⟨fun q => ?_, i2⟩
   have := (i1 d.id q).1
   omega
  ·by_cases e : d.id = ro
   ·rw [e, way_root h]; rfl
   ·have hc := (way_cont h hd k2).2 e
    cases hl : wayL X d.id with
    | nil => exact absurd hl hc.2
    | cons b r => rw [List.getLast?_cons_cons, ← hl]; exact hc.1
end
theorem alo_io {x : Ob} (h : aloO x = x) (hk : ¬ x.kind = 6) : x.inn = [] ∧ x.out = [] := by
 have e : (aloO x).inn = [] ∧ (aloO x).out = [] := by
  unfold aloO
  by_cases h1 : x.kind = 1
  ·rw [if_pos h1]; exact ⟨rfl, rfl⟩
  rw [if_neg h1]
  by_cases h2 : x.kind = 2
  ·rw [if_pos h2]; exact ⟨rfl, rfl⟩
  rw [if_neg h2]
  by_cases h3 : x.kind = 3
  ·rw [if_pos h3]; exact ⟨rfl, rfl⟩
  rw [if_neg h3]
  by_cases h4 : x.kind = 4
  ·rw [if_pos h4]; exact ⟨rfl, rfl⟩
  rw [if_neg h4]
  by_cases h5 : x.kind = 5
  ·rw [if_pos h5]; exact ⟨rfl, rfl⟩
  rw [if_neg h5, if_neg hk]; exact ⟨rfl, rfl⟩
 rw [h] at e; exact e
theorem sound_small {x : Ob} (hs : soundB x = true) (hf : x.links.length < 4294967296 ∧ x.data.length < 4294967296 ∧ x.maps.length < 4294967296) : Small x := by
 obtain ⟨hc, ho, hw⟩ := sound_iff.1 hs
 have ha := (alone_iff x).1 hw
 have b1 := (kept_iff.1 (com_iff.1 hc).2.2.2.1).1
 have hth : x.th.clear.length < 8796093022208 ∧ x.th.l0.length < 8796093022208 ∧ x.th.l1.length < 8796093022208 ∧ x.th.l2.length < 8796093022208 ∧ x.th.l3.length < 8796093022208 ∧ x.th.alerts.length < 4294967296 := by
  by_cases h4 : x.kind = 4
  ·obtain ⟨_, q1, q2⟩ := (own4 h4).1 ho
   have k1 := (kept_iff.1 (boun_iff.1 q1).2.1).1
   have q3 := (thr_iff.1 q2).1
   have k2 := (kept_iff.1 (q3 0 (by omega))).1
   have k3 := (kept_iff.1 (q3 1 (by omega))).1
   have k4 := (kept_iff.1 (q3 2 (by omega))).1
   have k5 := (kept_iff.1 (q3 3 (by omega))).1
   simp only [labs] at k2 k3 k4 k5
   have k6 : x.th.alerts.length ≤ 8 := by
    unfold thrB at q2
    simp only [Bool.and_eq_true, decide_eq_true_eq] at q2
    omega
   omega
  ·rw [alo_th ha h4]; decide
 have hgt : x.gt.grant.length < 8796093022208 ∧ x.gt.clear.length < 8796093022208 := by
  by_cases h5 : x.kind = 5
  ·have q := boun_iff.1 ((own5 h5).1 ho)
   have k1 := (kept_iff.1 q.1).1
   have k2 := (kept_iff.1 q.2.1).1
   omega
  ·rw [alo_gt ha h5]; decide
 have hio : x.inn.length < 4294967296 ∧ x.out.length < 4294967296 := by
  by_cases h6 : x.kind = 6
  ·unfold ownB at ho
   rw [if_neg (by rw [h6]; decide), if_neg (by rw [h6]; decide), if_neg (by rw [h6]; decide), if_neg (by rw [h6]; decide), if_neg (by rw [h6]; decide), if_pos h6] at ho
   simp only [Bool.and_eq_true, decide_eq_true_eq] at ho
   omega
  ·rw [(alo_io ha h6).1, (alo_io ha h6).2]; decide
 exact ⟨by omega, hf.1, hf.2.1, hf.2.2, hth.1, hth.2.2.2.2.2, hth.2.1, hth.2.2.1, hth.2.2.2.1, hth.2.2.2.2.1, hgt.1, hgt.2, hio.1, hio.2⟩
end Go.Proofs.Ytcmcakandbpjfaa
namespace Go.Proofs.Ytcmcakandbpjfaa
set_option maxRecDepth 100000
set_option maxHeartbeats 8000000
open Go.RowKit Go.Shelf
set_option linter.unusedVariables false

theorem alo_maps {x : Ob} (h : aloO x = x) (hk : ¬ x.kind = 3) : x.maps = [] := by
 have e : (aloO x).maps = [] := by
  unfold aloO
  by_cases h1 : x.kind = 1
  ·rw [if_pos h1]
  rw [if_neg h1]
  by_cases h2 : x.kind = 2
  ·rw [if_pos h2]
  rw [if_neg h2, if_neg hk]
  by_cases h4 : x.kind = 4
  ·rw [if_pos h4]
  rw [if_neg h4]
  by_cases h5 : x.kind = 5
  ·rw [if_pos h5]
  rw [if_neg h5]
  by_cases h6 : x.kind = 6
  ·rw [if_pos h6]
  rw [if_neg h6]; rfl
 rw [h] at e; exact e
theorem sound_small0 {x : Ob} (hs : soundB x = true) : Small x := by
 obtain ⟨hc, ho, hw⟩ := sound_iff.1 hs
 have ha := (alone_iff x).1 hw
 have hq := (com_iff.1 hc).2.2.1
 refine sound_small hs ⟨?_, ?_, ?_⟩
 ·by_cases k2 : x.kind = 2
  ·unfold ownB at ho
   rw [if_neg (by rw [k2]; decide), if_pos k2] at ho
   simp only [Bool.and_eq_true, decide_eq_true_eq] at ho
   omega
  ·rw [links_nil hs k2]; decide
 ·by_cases k1 : x.kind = 1
  ·unfold ownB at ho
   rw [if_pos k1] at ho
   simp only [decide_eq_true_eq] at ho
   omega
  ·rw [alo_data ha k1]; decide
 ·by_cases k3 : x.kind = 3
  ·unfold ownB at ho
   rw [if_neg (by rw [k3]; decide), if_neg (by rw [k3]; decide), if_pos k3] at ho
   unfold PgM.Pg.fitB at ho
   simp only [Bool.and_eq_true, decide_eq_true_eq] at ho
   omega
  ·rw [alo_maps ha k3]; decide
end Go.Proofs.Ytcmcakandbpjfaa
namespace Go.Proofs.Ytcmcakandbpjfaa
set_option maxRecDepth 100000
set_option maxHeartbeats 8000000
open Go.RowKit Go.Shelf
set_option linter.unusedVariables false
attribute [local go_sem] Oper.semAt_some

theorem rhas_any {w : World} {al : Option Addr} {nl cl : Nat} {L : List Int} {i : Int} (h : CtD (LtN w) w al nl cl L) : Asks 39 #[.slice al nl cl, .int .u64 i] (i ∈ L) w := by
 have hn : Hid (L.length = nl) := h.1
 have hnc := h.2.1
 have hcm := h.2.2.1.1
 have ga1 := Try.isAgg22
 unfold Asks
 go_enter Try.func39, Try.ntmps39
 go_wp2
 go_loopw [5] (fun j wr => ∃ k : Nat, k ≤ nl ∧ j = .int .i64 k ∧ Hid (∀ q, q < k → L.getD q 0 ≠ i) ∧ wr = w) (fun j _ => nl - (intOf j).toNat)
 case atStart => exact ⟨0, Nat.zero_le _, rfl, fun q hq => absurd hq (by omega), rfl⟩
 case round =>
  obtain ⟨k, hk, rfl, hal, rfl⟩ := hrel
  by_cases hkn : k < nl
  ·obtain ⟨b, off, rfl, hb, hc⟩ := ct_at h hkn
   have hkn' : (k : Int) < nl := by omega
   go_wp2_with (first
    | (with_reducible refine wpList_loadc (by kernel_rfl) _ _ rfl b _ rfl _ hc ga1 ?_)
    | ((with_reducible refine wpList_test (by kernel_rfl) .eql _ _ _ _ rfl _ _ rfl rfl (eqg_int _ _ _ _ _ _) ?_ ?_) <;> intro hq))
   ·go_ret
    exact askP_yes (by rw [← hq.out]; exact getD_mem (by rw [hn.out]; exact hkn)) (Below.refl _ _)
   ·go_roundw
    case rel => exact ⟨k + 1, by omega, by go_num, fn_succ hal.out hq.out, trivial⟩
    case measure => simp [intOf]; omega
  ·obtain rfl : k = nl := by omega
   go_wp2
   go_ret
   have hq : Hid (¬ i ∈ L) := by
    refine (?_ : ¬ i ∈ L)
    intro e
    obtain ⟨j, hj, q⟩ := List.getElem_of_mem e
    have := hal.out j (by rw [← hn.out]; exact hj)
    rw [List.getD_eq_getElem?_getD, List.getElem?_eq_getElem hj] at this
    exact this q
   exact askP_no hq (Below.refl _ _) id
theorem holL_succ {X : List Ob} {i : Int} {k : Nat} (h : k < X.length) : holL (X.take (k + 1)) i = holL (X.take k) i ++ (if i ∈ (oat X k).links then [(oat X k).id] else []) := by
 unfold holL
 rw [List.take_add_one, List.getElem?_eq_getElem h, oat_get h, Option.toList_some, List.filter_append, List.map_append]
 congr 1
 by_cases q : i ∈ X[k].links
 ·rw [if_pos q, List.filter_cons_of_pos (by simpa using q)]; rfl
 ·rw [if_neg q, List.filter_cons_of_neg (by simpa using q)]; rfl
theorem run_bsw {v : Int} (w : World) : (Instr.buildSlice 28 1 #[(0, .int .u64 v)]).run Try.prog w = .ok (.slice (some ⟨w.heap.size, 0, none⟩) 1 1) (w.alloc (.cells #[.int .u64 v] 22)) := by
 obtain ⟨i0, hi, hz0, hz1, hz2⟩ := info_parts infoW
 refine run_buildSlice w _ _ 1 _ _ i0 _ Try.underlying28 hi hz0 (by rw [hz1]; omega) (by rw [hz1]; omega) ?_
 rw [hz1]
 have := Great.fill_whole (s := 1) (by omega) [.int .u64 v] ((Array.range (1 * 1)).map ((Value.int .u64 0).cells[· % (Value.int .u64 0).cells.size]!)) (by simp [Value.cells]) (by simp)
 simpa [Value.cells] using this
section
variable {ops : Array Oper} {rest : List Oper} {op : Oper} {a : Act} {Q : Exit → Act → World → Prop} {w : World}
theorem wpList_bsw (hgd : op.guard = none) (x : Operand) (ho : op.op = .buildSlice 28 1 #[(0, x)]) (v : Int) (hx : a.eval x = .int .u64 v)
  (h : ∀ B W, Hid (w.heap.size = B ∧ W.heap.size = B + 1) → Blk W B #[.int .u64 v] 22 → Below w.heap.size w W → wpList Try.prog ops Q rest (a.put op.dst (.slice (some ⟨B, 0, none⟩) 1 1)) W) : wpList Try.prog ops Q (op :: rest) a w :=
 wpList_plain hgd fun K hK => by
  have e : (#[(0, x)].map fun ((i : Nat), x) => (i, a.eval x)) = #[(0, Value.int .u64 v)] := by simp [hx]
  unfold Oper.wp execOp
  simp only [ho, e, Sem.run_bind, run_bsw, Result.andThen_ok]
  exact hK _ _ (h _ _ ⟨rfl, by simp⟩ (Blk.new w #[.int .u64 v] 22) ((Below.refl _ w).alloc (Nat.le_refl _) _))
end
theorem row_word {W : World} {B : Nat} {v : Int} (h : Blk W B #[.int .u64 v] 22) : RowC 1 (LtN W) W (some ⟨B, 0, none⟩) 1 1 [.int .u64 v] :=
 ⟨rfl, Nat.le_refl _, ⟨by omega, fun e => by cases e⟩, fun _ => ⟨B, 0, rfl, h.lt, h.range0⟩⟩
theorem rholders_any {w : World} {t ke ro : Int} {ao : Option Addr} {n cap : Nat} {X : List Ob} {i : Int} (h : Obs w ao n cap X) (hn16 : n ≤ 4096) : Calls Try.prog 17 #[.agg #[.int .i64 t, .int .u64 ke, .int .u64 ro, .slice ao n cap], .int .u64 i] w fun e w' => ∃ v, e = .returned v ∧ w'.ownsRow w.heap.size 22 1 v (holL X i).length (wordsC (holL X i)) ∧ Below w.heap.size w w' := by
 have hn : Hid (X.length = n) := h.1
 have hnc := h.2.1
 have hcm := h.2.2.1.1
 have ga1 := Try.isAgg22
 have ga3 := Try.isAgg23
 have ga4 := Try.isAgg28
 have c3 : (#[.int .i64 t, .int .u64 ke, .int .u64 ro, .slice ao n cap] : Array Value)[3]? = some (.slice ao n cap) := rfl
 obtain ⟨G, hG⟩ : ∃ G : Array Value, G = #[.int .i64 t, .int .u64 ke, .int .u64 ro, .slice ao n cap] := ⟨_, rfl⟩
 rw [← hG] at c3
 rw [← hG]
 clear hG
 go_enter Try.func17, Try.ntmps17
 go_wp2_with (first
  | (with_reducible refine wpList_box rfl _ _ rfl G rfl ?_; intro B W hB hb hk))
 have hBl : Hid (w.heap.size = B ∧ W.heap.size = B + 1) := hB
 clear hB
 go_loopw [5, 6] (fun v j wr => ∃ k : Nat, k ≤ n ∧ j = .int .i64 k ∧ wr.ownsRow W.heap.size 22 1 v (holL (X.take k) i).length (wordsC (holL (X.take k) i)) ∧ Below W.heap.size W wr) (fun _ j _ => n - (intOf j).toNat)
 case atStart => exact ⟨0, Nat.zero_le _, rfl, World.ownsRow_nil _ _ _ _, Below.refl _ _⟩
 case round =>
  obtain ⟨k, hkn1, rfl, hown, hb0⟩ := hrel
  have hbw := hk.trans (hb0.mono hk.size)
  replace hb := hb.next hb0
  have hb0s := hb0.size
  by_cases hkn : k < n
  ·obtain ⟨b, off, C, rfl, hbb, hC, hr⟩ := obs_at (obs_next h hbw) hkn
   obtain ⟨al, nl, cl, c5, hLk⟩ := hC.links
   have hkn' : (k : Int) < n := by omega
   have hid : wr.cell? ⟨b, off + k * 51, none⟩ = some (.int .u64 (oat X k).id) := by simpa using hr 0 _ (by simpa using hC.id)
   have hlk : wr.cell? ⟨b, off + k * 51 + 5, none⟩ = some (.slice al nl cl) := hr 5 _ (by simpa using c5)
   have hidW : ∀ W, Below wr.heap.size wr W → W.cell? ⟨b, off + k * 51, none⟩ = some (.int .u64 (oat X k).id) := fun W q => (World.cell?_of_block (w := wr) (a := ⟨b, off + k * 51, none⟩) (q.block b hbb)).trans hid
   have hsu := holL_succ (i := i) (show k < X.length by rw [hn.out]; exact hkn)
   have hl : (holL (X.take k) i).length ≤ k := by unfold holL; rw [List.length_map]; exact Nat.le_trans (List.length_filter_le ..) (by simp; omega)
   go_wp2_with (first
    | (with_reducible refine wpList_load1 (by kernel_rfl) _ _ rfl B _ rfl _ _ hb _ c3 ga3 ?_)
    | (with_reducible refine wpList_loadc (by kernel_rfl) _ _ rfl b _ rfl _ hlk ga4 ?_)
    | (go_at_call 39; (with_reducible refine (rhas_any hLk).on ?_ ?_) <;> (intro w1 hq hb1; replace hb := hb.next hb1; have hid1 := hidW _ hb1))
    | (with_reducible refine wpList_loadc (by kernel_rfl) _ _ rfl b _ rfl _ hid1 ga1 ?_)
    | ((with_reducible refine wpList_bsw rfl _ rfl (oat X k).id rfl ?_); intro Bq W8 hBq hbq hk8; have hown8 := own_next (own_next hown hb1) hk8)
    | (at_builtin; refine wpList_append_row infoW Try.underlying28 rfl (by omega) rfl _ _ rfl W.heap.size _ _ _ rfl hown8 _ _ _ _ [.int .u64 (oat X k).id] rfl (row_word hbq) (fun u hu => by rw [List.mem_singleton] at hu; rw [hu]; rfl) (by unfold maxLen; omega) (by omega) (Nat.le_trans hb0s (Nat.le_trans hb1.size hk8.size)) ?_; intro v' w2 hown' hgrow))
   ·go_roundw
    case rel =>
     rw [if_pos hq.out] at hsu
     have hb2 : Below W.heap.size W w2 := ((hb0.trans (hb1.mono hb0s)).trans (hk8.mono (Nat.le_trans hb0s hb1.size))).grown hgrow (Nat.le_trans hb0s (Nat.le_trans hb1.size hk8.size)) (own_ge hown8)
     refine ⟨k + 1, by omega, by go_num, ?_, hb2⟩
     rw [hsu, List.length_append]
     have e : wordsC (holL (X.take k) i ++ [(oat X k).id]) = wordsC (holL (X.take k) i) ++ [.int .u64 (oat X k).id] := by simp [wordsC]
     rw [e]
     exact hown'
    case measure => simp [intOf]; omega
   ·go_roundw
    case rel =>
     rw [if_neg hq.out, List.append_nil] at hsu
     exact ⟨k + 1, by omega, by go_num, by rw [hsu]; exact own_next hown hb1, hb0.trans (hb1.mono hb0s)⟩
    case measure => simp [intOf]; omega
  ·obtain rfl : k = n := by omega
   go_wp2_with (first
    | (with_reducible refine wpList_load1 (by kernel_rfl) _ _ rfl B _ rfl _ _ hb _ c3 ga3 ?_))
   go_ret
   have ht : X.take k = X := by rw [← hn.out]; exact List.take_length
   rw [ht] at hown
   refine ⟨_, rfl, ⟨hown.1, ?_⟩, hbw⟩
   rcases hown.2 with q | ⟨g, c, cur, q1, q2, q3⟩
   ·exact .inl q
   ·exact .inr ⟨g, c, cur, q1, Nat.le_trans hk.size q2, q3⟩
end Go.Proofs.Ytcmcakandbpjfaa
namespace Go.Proofs.Ytcmcakandbpjfaa
set_option maxRecDepth 100000
set_option maxHeartbeats 8000000
open Go.RowKit Go.Shelf
set_option linter.unusedVariables false
attribute [local go_sem] Oper.semAt_some

theorem iaw_at {S : World → Prop} {b off i n cap : Nat} (hi : i < n) : Obl.holds Try.prog S (.ia 28 (.slice (some ⟨b, off, none⟩) n cap) (.int .i64 i) (.pointer (some ⟨b, off + i, none⟩))) := fun w hS => by
 have hi' : (i : Int) < n := by omega
 go_simp
theorem ob_word {S : World → Prop} {P : Program} {ty : TypeId} {b o : Nat} {v : Value} (hc : ∀ w, S w → w.cell? ⟨b, o, none⟩ = some v) (hg : ∀ w, (isAgg ty).run P w = .ok false w) : Obl.holds P S (.load ty b o v) := fun w hS => by
 simp [loadVar, hg, hc w hS]
theorem ob_lt {w W W' : World} {C : Array Value} {x : Ob} (h : ObD (LtN w) W C x) (k : Below w.heap.size w W) (q : Below W.heap.size W W') : ObD (LtN w) W' C x :=
 h.laterK fun b hb => q.block b (Nat.lt_of_lt_of_le hb k.size)
theorem ob_oth {w W W' : World} {P : Nat} {C : Array Value} {x : Ob} (h : ObD (LtN w) W C x) (hP : w.heap.size ≤ P) (q : Oth P W W') : ObD (LtN w) W' C x :=
 h.laterK fun b hb => q.block b (by have : b < w.heap.size := hb; omega)
theorem rfind_at {w W : World} {t ke ro : Int} {ao : Option Addr} {n cap : Nat} {X : List Ob} {i : Int} (h : Obs w ao n cap X) (k : Below w.heap.size w W) : Calls Try.prog 16 #[.agg #[.int .i64 t, .int .u64 ke, .int .u64 ro, .slice ao n cap], .int .u64 i] W fun e w' => ∃ C', e = .returned (.tuple #[.agg C', .bool (fnd X i).isSome]) ∧ ObD (LtN w) w' C' (fO X i) ∧ Below W.heap.size W w' :=
 rfind_d (D0 := LtN w) (fun _ hb => Nat.lt_of_lt_of_le hb k.size) (obsD_next h (fun _ hb => hb) k)
end Go.Proofs.Ytcmcakandbpjfaa
namespace Go.Proofs.Ytcmcakandbpjfaa
set_option maxRecDepth 100000
set_option maxHeartbeats 8000000
open Go.RowKit Go.Shelf
set_option linter.unusedVariables false
attribute [local go_sem] Oper.semAt_some

theorem fO_quota (X : List Ob) (i : Int) : (fO X i).quota = qOf X i := by
 unfold fO qOf
 cases fnd X i <;> rfl
theorem pagN_le {o : Ob} (h : Small o) : 0 ≤ pagN o ∧ pagN o ≤ 4294967296 := by
 have := h.c6
 unfold pagN
 omega
theorem ruse_le {X : List Ob} {o : Ob} (hq : ∀ x ∈ X, 0 ≤ x.quota ∧ x.quota ≤ 4096) (hsm : Small o) (l : List Int) (hl : l.length < 4294967296) : 0 ≤ pagN o + (l.map (qOf X)).sum ∧ pagN o + (l.map (qOf X)).sum ≤ 17596481011712 := by
 have h1 := sum_le (l := l) (f := qOf X) (k := 4096) fun i _ => qO_le hq i
 have h2 := pagN_le hsm
 omega
theorem sum_take {l : List Int} {f : Int → Int} {k : Nat} (h : k < l.length) : ((l.take (k + 1)).map f).sum = ((l.take k).map f).sum + f (l.getD k 0) := by
 rw [List.take_add_one, List.getElem?_eq_getElem h, Option.toList_some, List.map_append, List.sum_append, List.getD_eq_getElem?_getD, List.getElem?_eq_getElem h]
 simp
theorem ruses_w {w : World} {t ke ro : Int} {ao : Option Addr} {n cap : Nat} {X : List Ob} {C : Array Value} {o : Ob} (h : Obs w ao n cap X) (hq : ∀ x ∈ X, 0 ≤ x.quota ∧ x.quota ≤ 4096) (ho : ObD (LtN w) w C o) (hsm : Small o) : Calls Try.prog 40 #[.agg #[.int .i64 t, .int .u64 ke, .int .u64 ro, .slice ao n cap], .agg C] w fun e w' => e = .returned (.int .i64 (usesN X o)) ∧ Below w.heap.size w w' := by
 have hmx : Try.prog.follows .mixedOrders = true := by kernel_rfl
 have hz := ho.size
 obtain ⟨al, nl, cl, c5, hLk⟩ := ho.links
 have hln : Hid (o.links.length = nl) := hLk.1
 have hlc := hLk.2.1
 have hlm := hLk.2.2.1.1
 have hl32 : nl < 4294967296 := by rw [← hln.out]; exact hsm.c5
 have hzw : (Try.prog.info? 25).map (·.size) = some (#[.int .i64 t, .int .u64 ke, .int .u64 ro, .slice ao n cap] : Array Value).size := by kernel_rfl
 have hpg := fun (W : World) (hk : Below w.heap.size w W) => rpages_any (ho.next hk) hsm
 have hfd := fun {W : World} {i : Int} (hk : Below w.heap.size w W) => rfind_at (t := t) (ke := ke) (ro := ro) (i := i) h hk
 have hul := fun k => ruse_le hq hsm (o.links.take k) (by rw [List.length_take, hln.out]; omega)
 have hst := fun k (hk : k < nl) => sum_take (f := qOf X) (show k < o.links.length by rw [hln.out]; exact hk)
 have hfin : Hid (usesN X o = pagN o + ((o.links.take nl).map (qOf X)).sum) := by show usesN X o = _; rw [← hln.out, List.take_length]; rfl
 rw [hfin.out]
 obtain ⟨G, hG⟩ : ∃ G : Array Value, G = #[.int .i64 t, .int .u64 ke, .int .u64 ro, .slice ao n cap] := ⟨_, rfl⟩
 rw [← hG] at hzw hfd
 rw [← hG]
 clear hG
 generalize pagN o = pg at hpg hul hst ⊢
 go_enter Try.func40, Try.ntmps40
 go_wp2_with (first
  | (with_reducible refine wpList_box rfl 25 _ rfl G rfl ?_; intro B2 W2 hN2 hB2 hk)
  | (with_reducible refine wpList_box rfl 54 _ rfl C rfl ?_; intro B3 W3 hN3 hB3 hk3; replace hB2 := hB2.next hk3; replace hk := hk.trans (hk3.mono hk.size))
  | (with_reducible refine wpList_loadb (by kernel_rfl) _ _ rfl B3 rfl C hB3 _ Try.underlying54 (by kernel_rfl) (size40C hz) ?_)
  | (go_at_call 61; (with_reducible refine (hpg _ hk).mono ?_); rintro e w1 ⟨rfl, hb1⟩; replace hB2 := hB2.next hb1; replace hB3 := hB3.next hb1; replace hk := hk.trans (hb1.mono hk.size)))
 clear hN2 hN3 hk3
 go_loopw [5, 6] (fun v j wr => ∃ k : Nat, k ≤ nl ∧ j = .int .i64 k ∧ v = .int .i64 (pg + ((o.links.take k).map (qOf X)).sum) ∧ Blk wr B2 G 25 ∧ Blk wr B3 C 54 ∧ Below w.heap.size w wr) (fun _ j _ => nl - (intOf j).toNat)
 case atStart => exact ⟨0, Nat.zero_le _, rfl, by simp, hB2, hB3, hk⟩
 case round =>
  clear hB2 hB3 hk
  obtain ⟨k, hkn1, rfl, rfl, hB2, hB3, hk⟩ := hrel
  by_cases hkn : k < nl
  ·obtain ⟨b, off, rfl, hbb, hc⟩ := ct_at hLk hkn
   have hkn' : (k : Int) < nl := by omega
   have hw5 := hul (k + 1)
   rw [hst k hkn] at hw5
   have hst1 := hst k hkn
   have hq0 := fO_quota X (o.links.getD k 0)
   generalize ((o.links.take k).map (qOf X)).sum = s0 at hst1 hw5 ⊢
   generalize o.links.getD k 0 = i at hc hst1 hq0 hw5
   go_wp2_with (first
    | (with_reducible refine wpList_load1 (by kernel_rfl) _ _ rfl B3 _ rfl _ _ hB3 _ c5 Try.isAgg28 ?_))
   refine PgM.region_out (S := fun W => Blk W B2 G 25 ∧ Blk W B3 C 54 ∧ Below w.heap.size w W) hmx ⟨hB2.next (Below.refl _ _).drew, hB3.next (Below.refl _ _).drew, hk.trans ((Below.refl _ _).drew.mono hk.size)⟩ (fun hS => ?_)
   generalize wr.drew = v6 at hS ⊢
   clear hk hB2 hB3 
   refine wpAnyH_sym (by kernel_rfl) (fun _ _ _ _ _ h => h) hS [(0, some (.agg G)), (1, none), (2, some (.slice (some ⟨b, off, none⟩) nl cl)), (3, none), (4, some (.pointer (some ⟨b, off + k, none⟩))), (5, some (.int .u64 i))] (l' := #[true, true, true, true, true, true, false, false, false, false, false, false, false]) (a' := { tmps := #[.agg G, .agg C, .pointer (some ⟨B2, 0, none⟩), .pointer (some ⟨B3, 0, none⟩), .int .i64 0, .int .i64 (pg + s0), .int .i64 k, u7, u8, .agg C, .int .i64 pg, .int .i64 k, .pointer (some ⟨B3, 5, none⟩), .slice (some ⟨b, off, none⟩) nl cl, .int .i64 nl, .bool true, u16, u17, u18, .agg G, .pointer (some ⟨B3, 5, none⟩), .slice (some ⟨b, off, none⟩) nl cl, .int .i64 k, .pointer (some ⟨b, off + k, none⟩), .int .u64 i, u25, u26, u27, u28, u29, u30, u31, undef], defers := [] }) (obs := [.load 25 B2 0 (.agg G), .load 28 B3 5 (.slice (some ⟨b, off, none⟩) nl cl), .ia 28 (.slice (some ⟨b, off, none⟩) nl cl) (.int .i64 k) (.pointer (some ⟨b, off + k, none⟩)), .load 22 b (off + k) (.int .u64 i)]) (n := 7) (by kernel_rfl) (by kernel_rfl) ⟨ob_loadb (fun _ h => h.1) Try.underlying25 (by kernel_rfl) hzw, ob_load1 (fun _ h => h.2.1) c5 Try.isAgg28, iaw_at hkn, ob_word (fun W h => (World.cell?_of_block (w := w) (a := ⟨b, off + k, none⟩) (h.2.2.block b hbb)).trans hc) Try.isAgg22, trivial⟩ ?_
   refine share 2 #[true, true, true, true, true, true, true, true, true, true, true, false, false] (fun A W => ∃ (P6 : Nat) (C6 : Array Value), A = { tmps := #[.agg G, .agg C, .pointer (some ⟨B2, 0, none⟩), .pointer (some ⟨B3, 0, none⟩), .int .i64 0, .int .i64 (pg + s0), .int .i64 k, .pointer (some ⟨P6, 0, none⟩), u8, .agg C, .int .i64 pg, .int .i64 k, .pointer (some ⟨B3, 5, none⟩), .slice (some ⟨b, off, none⟩) nl cl, .int .i64 nl, .bool true, u16, u17, .tuple #[.agg C6, .bool (fnd X i).isSome], .agg G, .pointer (some ⟨B3, 5, none⟩), .slice (some ⟨b, off, none⟩) nl cl, .int .i64 k, .pointer (some ⟨b, off + k, none⟩), .int .u64 i, .tuple #[.agg C6, .bool (fnd X i).isSome], .agg C6, .bool (fnd X i).isSome, u28, u29, u30, u31, undef], defers := [] } ∧ (Blk W B2 G 25 ∧ Blk W B3 C 54 ∧ Below w.heap.size w W) ∧ Blk W P6 zC 54 ∧ v6.heap.size ≤ P6 ∧ ObD (LtN w) W C6 (fO X i) ∧ Below v6.heap.size v6 W) ?_ (fun rest => ?_)
   ·rintro A W ⟨P6, C6, rfl, hS1, hP0, hgP, o6, kv⟩
    obtain ⟨W6, hr6, hP6, q6⟩ := run_store_blk hP0 (size40C o6.size) (zC_size.trans o6.size.symm) o6.one
    refine wpAnyH_single (i := 11) (n := 1) rfl (by kernel_rfl) ?_
    refine wpOp_storeL (ty := 54) (B := P6) (off := 0) (v := .agg C6) (d := none) (by kernel_rfl) hr6 ?_
    have hwP : w.heap.size ≤ P6 := Nat.le_trans hS.2.2.size hgP
    have hS6 : Blk W6 B2 G 25 ∧ Blk W6 B3 C 54 ∧ Below w.heap.size w W6 := ⟨hS1.1.other q6 (by have := hS.1.lt; omega), hS1.2.1.other q6 (by have := hS.2.1.lt; omega), q6.below _ _ hwP hS1.2.2⟩
    replace o6 := ob_oth o6 hwP q6
    refine ⟨hS6, ?_⟩
    refine wpAnyH_sym (by kernel_rfl) (fun _ _ _ _ _ h => h) hS6 [(12, none)] (l' := #[true, true, true, true, true, true, true, true, true, true, true, true, true]) (a' := { tmps := #[.agg G, .agg C, .pointer (some ⟨B2, 0, none⟩), .pointer (some ⟨B3, 0, none⟩), .int .i64 0, .int .i64 (pg + s0), .int .i64 k, .pointer (some ⟨P6, 0, none⟩), .bool (fnd X i).isSome, .agg C, .int .i64 pg, .int .i64 k, .pointer (some ⟨B3, 5, none⟩), .slice (some ⟨b, off, none⟩) nl cl, .int .i64 nl, .bool true, u16, u17, .tuple #[.agg C6, .bool (fnd X i).isSome], .agg G, .pointer (some ⟨B3, 5, none⟩), .slice (some ⟨b, off, none⟩) nl cl, .int .i64 k, .pointer (some ⟨b, off + k, none⟩), .int .u64 i, .tuple #[.agg C6, .bool (fnd X i).isSome], .agg C6, .bool (fnd X i).isSome, u28, u29, u30, u31, undef], defers := [] }) (obs := []) (n := 0) (by kernel_rfl) (by kernel_rfl) trivial ?_
    refine wpAnyH_done (by kernel_rfl) ?_ _
    obtain ⟨hB2, hB3, hk⟩ := hS6
    clear hS hS1 hP0 hgP hr6 q6 kv
    have c3 := o6.quota
    rw [hq0] at c3
    have hwr : IntKind.i64.wrap (pg + s0 + qOf X i) = pg + s0 + qOf X i := by rw [IntKind.wrap_i64]; omega
    generalize qOf X i = qi at c3 hst1 hwr hw5
    clear hq0 o6
    go_wp2_with (first
     | (with_reducible refine wpList_load1 (by kernel_rfl) _ _ rfl P6 _ rfl _ _ hP6 _ c3 Try.isAgg3 ?_))
    go_roundw
    case rel => exact ⟨k + 1, by omega, by go_num, by rw [hst1]; first | rfl | (congr 1; omega), hB2, hB3, hk⟩
    case measure => simp [intOf]; omega
   ·refine wpAnyH_two (i := 6) (j := 10) (n := 6) rfl (by kernel_rfl) ?_ ?_
    ·refine wpOp_callL (f := 16) (vs := [.agg G, .int .u64 i]) (d := some 25) (by kernel_rfl) Try.call16 (hfd hS.2.2) ?_
     rintro e z1 ⟨C6, rfl, o6, hb101⟩
     have k1 := (Below.refl v6.heap.size v6).trans (hb101.mono (Below.refl v6.heap.size v6).size)
     have hS1 : Blk z1 B2 G 25 ∧ Blk z1 B3 C 54 ∧ Below w.heap.size w z1 := ⟨hS.1.next hb101, hS.2.1.next hb101, hS.2.2.trans (hb101.mono hS.2.2.size)⟩
     refine ⟨_, rfl, hS1, ?_⟩
     refine wpAnyH_pure (by kernel_rfl) (fun _ _ _ _ _ h => h) hS1 [7, 8, 9] (l' := #[true, true, true, true, true, true, true, true, true, true, false, false, false]) (a' := { tmps := #[.agg G, .agg C, .pointer (some ⟨B2, 0, none⟩), .pointer (some ⟨B3, 0, none⟩), .int .i64 0, .int .i64 (pg + s0), .int .i64 k, u7, u8, .agg C, .int .i64 pg, .int .i64 k, .pointer (some ⟨B3, 5, none⟩), .slice (some ⟨b, off, none⟩) nl cl, .int .i64 nl, .bool true, u16, u17, .tuple #[.agg C6, .bool (fnd X i).isSome], .agg G, .pointer (some ⟨B3, 5, none⟩), .slice (some ⟨b, off, none⟩) nl cl, .int .i64 k, .pointer (some ⟨b, off + k, none⟩), .int .u64 i, .tuple #[.agg C6, .bool (fnd X i).isSome], .agg C6, .bool (fnd X i).isSome, u28, u29, u30, u31, undef], defers := [] }) (n := 3) (by kernel_rfl) (by kernel_rfl) ?_
     refine wpAnyH_single (i := 10) (n := 2) rfl (by kernel_rfl) ?_
     refine wpOp_allocL (ty := 54) (z := zC) (d := some 7) (by kernel_rfl) zero40 ?_
     intro P6 z2 hN hP6 hb102
     have hgP : v6.heap.size ≤ P6 := by have := hN.out; have := k1.size; omega
     replace o6 := ob_lt o6 hS1.2.2 hb102
     have k2 := k1.trans (hb102.mono k1.size)
     have hS2 : Blk z2 B2 G 25 ∧ Blk z2 B3 C 54 ∧ Below w.heap.size w z2 := ⟨hS1.1.next hb102, hS1.2.1.next hb102, hS1.2.2.trans (hb102.mono hS1.2.2.size)⟩
     refine ⟨hS2, ?_⟩
     exact rest _ _ ⟨P6, C6, rfl, hS2, hP6, hgP, o6, k2⟩
    ·refine wpOp_allocL (ty := 54) (z := zC) (d := some 7) (by kernel_rfl) zero40 ?_
     intro P6 z3 hN hP6 hb103
     have hgP : v6.heap.size ≤ P6 := by have := hN.out; have := (Below.refl v6.heap.size v6).size; omega
     have k3 := (Below.refl v6.heap.size v6).trans (hb103.mono (Below.refl v6.heap.size v6).size)
     have hS3 : Blk z3 B2 G 25 ∧ Blk z3 B3 C 54 ∧ Below w.heap.size w z3 := ⟨hS.1.next hb103, hS.2.1.next hb103, hS.2.2.trans (hb103.mono hS.2.2.size)⟩
     refine ⟨hS3, ?_⟩
     refine wpAnyH_single (i := 6) (n := 5) rfl (by kernel_rfl) ?_
     refine wpOp_callL (f := 16) (vs := [.agg G, .int .u64 i]) (d := some 25) (by kernel_rfl) Try.call16 (hfd hS3.2.2) ?_
     rintro e z4 ⟨C6, rfl, o6, hb104⟩
     replace hP6 := hP6.next hb104
     have k4 := k3.trans (hb104.mono k3.size)
     have hS4 : Blk z4 B2 G 25 ∧ Blk z4 B3 C 54 ∧ Below w.heap.size w z4 := ⟨hS3.1.next hb104, hS3.2.1.next hb104, hS3.2.2.trans (hb104.mono hS3.2.2.size)⟩
     refine ⟨_, rfl, hS4, ?_⟩
     refine wpAnyH_pure (by kernel_rfl) (fun _ _ _ _ _ h => h) hS4 [7, 8, 9] (l' := #[true, true, true, true, true, true, true, true, true, true, true, false, false]) (a' := { tmps := #[.agg G, .agg C, .pointer (some ⟨B2, 0, none⟩), .pointer (some ⟨B3, 0, none⟩), .int .i64 0, .int .i64 (pg + s0), .int .i64 k, .pointer (some ⟨P6, 0, none⟩), u8, .agg C, .int .i64 pg, .int .i64 k, .pointer (some ⟨B3, 5, none⟩), .slice (some ⟨b, off, none⟩) nl cl, .int .i64 nl, .bool true, u16, u17, .tuple #[.agg C6, .bool (fnd X i).isSome], .agg G, .pointer (some ⟨B3, 5, none⟩), .slice (some ⟨b, off, none⟩) nl cl, .int .i64 k, .pointer (some ⟨b, off + k, none⟩), .int .u64 i, .tuple #[.agg C6, .bool (fnd X i).isSome], .agg C6, .bool (fnd X i).isSome, u28, u29, u30, u31, undef], defers := [] }) (n := 2) (by kernel_rfl) (by kernel_rfl) ?_
     exact rest _ _ ⟨P6, C6, rfl, hS4, hP6, hgP, o6, k4⟩
  ·obtain rfl : k = nl := by omega
   generalize hsF : ((o.links.take k).map (qOf X)).sum = sF
   go_wp2_with (first
    | (with_reducible refine wpList_load1 (by kernel_rfl) _ _ rfl B3 _ rfl _ _ hB3 _ c5 Try.isAgg28 ?_))
   go_ret
   exact ⟨by rw [hsF]; rfl, hk⟩
theorem rroom_w {w : World} {t ke ro : Int} {ao : Option Addr} {n cap : Nat} {X : List Ob} {C : Array Value} {o : Ob} (h : Obs w ao n cap X) (hq : ∀ x ∈ X, 0 ≤ x.quota ∧ x.quota ≤ 4096) (ho : ObD (LtN w) w C o) (hsm : Small o) (hoq : 0 ≤ o.quota ∧ o.quota ≤ 4096) : Calls Try.prog 18 #[.agg #[.int .i64 t, .int .u64 ke, .int .u64 ro, .slice ao n cap], .agg C] w fun e w' => e = .returned (.int .i64 (roomN X o)) ∧ Below w.heap.size w w' := by
 have hmx : Try.prog.follows .mixedOrders = true := by kernel_rfl
 have hz := ho.size
 have c3 := ho.quota
 have hul : 0 ≤ usesN X o ∧ usesN X o ≤ 17596481011712 := ruse_le hq hsm o.links hsm.c5
 have hzv : (Try.prog.info? 25).map (·.size) = some (#[.int .i64 t, .int .u64 ke, .int .u64 ro, .slice ao n cap] : Array Value).size := by kernel_rfl
 have hus := fun (W : World) (hk : Below w.heap.size w W) => ruses_w (t := t) (ke := ke) (ro := ro) (obs_next h hk) hq (ho.next hk) hsm
 obtain ⟨G, hG⟩ : ∃ G : Array Value, G = #[.int .i64 t, .int .u64 ke, .int .u64 ro, .slice ao n cap] := ⟨_, rfl⟩
 rw [← hG] at hzv hus
 rw [← hG]
 clear hG
 unfold roomN
 obtain ⟨u, hu⟩ : ∃ u, Hid (usesN X o = u) := ⟨_, rfl⟩
 rw [hu.out] at hul ⊢
 simp only [hu.out] at hus
 have hw : IntKind.i64.wrap (o.quota - u) = o.quota - u := by rw [IntKind.wrap_i64]; omega
 go_enter Try.func18, Try.ntmps18
 go_wp2_with (first
  | (with_reducible refine wpList_box rfl 25 _ rfl G rfl ?_; intro B2 W2 hN2 hB2 hk)
  | (with_reducible refine wpList_box rfl 54 _ rfl C rfl ?_; intro B3 W3 hN3 hB3 hk3; replace hB2 := hB2.next hk3; replace hk := hk.trans (hk3.mono hk.size)))
 refine PgM.region_out (S := fun W => Blk W B2 G 25 ∧ Blk W B3 C 54) hmx ⟨hB2.next (Below.refl _ _).drew, hB3.next (Below.refl _ _).drew⟩ (fun hS => ?_)
 replace hk := hk.trans ((Below.refl W3.heap.size W3).drew.mono hk.size)
 generalize W3.drew = W5 at hS hk ⊢
 clear hB2 hB3 hk3 hN2 hN3
 refine wpAnyH_sym (by kernel_rfl) (fun _ _ _ _ _ h => h) hS [(0, none), (1, some (.int .i64 o.quota)), (2, some (.agg G)), (3, some (.agg C))] (l' := #[true, true, true, true, false, false, false]) (a' := { tmps := #[.agg G, .agg C, .pointer (some ⟨B2, 0, none⟩), .pointer (some ⟨B3, 0, none⟩), .int .i64 0, .pointer (some ⟨B3, 3, none⟩), .int .i64 o.quota, .agg G, .agg C, ud, undef], defers := [] }) (obs := [.load 3 B3 3 (.int .i64 o.quota), .load 25 B2 0 (.agg G), .load 54 B3 0 (.agg C)]) (n := 3) (by kernel_rfl) (by kernel_rfl) ⟨ob_load1 (fun _ h => h.2) c3 Try.isAgg3, ob_loadb (fun _ h => h.1) Try.underlying25 (by kernel_rfl) hzv, ob_loadb (fun _ h => h.2) Try.underlying54 (by kernel_rfl) (size40C hz), trivial⟩ ?_
 refine wpAnyH_callL (i := 4) (fuel := 2) (f := 40) (vs := [.agg G, .agg C]) (d := some 9) (by kernel_rfl) (by kernel_rfl) (by kernel_rfl) Try.call40 (hus _ hk) ?_
 rintro e W6 ⟨rfl, hb6⟩
 have hS2 : Blk W6 B2 G 25 ∧ Blk W6 B3 C 54 := ⟨hS.1.next hb6, hS.2.next hb6⟩
 refine ⟨_, rfl, hS2, ?_⟩
 refine wpAnyH_sym (by kernel_rfl) (fun _ _ _ _ _ h => h) hS2 [(5, some (.int .i64 (o.quota - u))), (6, none)] (l' := #[true, true, true, true, true, true, true]) (a' := { tmps := #[.agg G, .agg C, .pointer (some ⟨B2, 0, none⟩), .pointer (some ⟨B3, 0, none⟩), .int .i64 (o.quota - u), .pointer (some ⟨B3, 3, none⟩), .int .i64 o.quota, .agg G, .agg C, .int .i64 u, .int .i64 (o.quota - u)], defers := [] }) (obs := [.test .sub 3 (.tmp 6) (.tmp 9) (.int .i64 o.quota) (.int .i64 u) (.int .i64 (o.quota - u))]) (n := 0) (by kernel_rfl) (by kernel_rfl) ⟨sub_any hw, trivial⟩ ?_
 refine wpAnyH_done (by kernel_rfl) ?_ _
 go_wp2
 go_ret
 exact ⟨rfl, hk.trans (hb6.mono hk.size)⟩
end Go.Proofs.Ytcmcakandbpjfaa
namespace Go.Proofs.Ytcmcakandbpjfaa
set_option maxRecDepth 100000
set_option maxHeartbeats 8000000
open Go.ChangeShapes Go.WideShapes Go.ChangeAt Go.RowKit
set_option linter.unusedVariables false

theorem rleq_f {w : World} {ao ao' : Option Addr} {n n' cap cap' : Nat} {L L' : List (Int × Int)} (hL : Lab w.heap.size w ao n cap L) (hL' : Lab w.heap.size w ao' n' cap' L') (f : Fit L) (f' : Fit L') :
  Calls Try.prog 74 #[.slice ao n cap, .slice ao' n' cap'] w fun e w' => e = .returned (.bool (leqB L L')) ∧ Below w.heap.size w w' := by
 have h := rlleq_any hL hL'
 rw [rleq_eq f f'] at h
 exact h
theorem rraise_f {w : World} {ao : Option Addr} {n cap : Nat} {L : List (Int × Int)} (hL : Lab w.heap.size w ao n cap L) (hk : n < 68719476736) (f : Fit L) :
  Calls Try.prog 76 #[.slice ao n cap] w fun e w' => ∃ ao1 n1 cap1, e = .returned (.slice ao1 n1 cap1) ∧ Lab w'.heap.size w' ao1 n1 cap1 (raiseL L) ∧ n1 ≤ n ∧ Below w.heap.size w w' := by
 have h := rlraise_any hL hk
 rw [rraise_eq f] at h
 exact h
theorem rjoin_f {w : World} {ao ao' : Option Addr} {n n' cap cap' : Nat} {L L' : List (Int × Int)} (hL : Lab w.heap.size w ao n cap L) (hL' : Lab w.heap.size w ao' n' cap' L') (hk : n < 68719476736) (hk' : n' < 68719476736) (f : Fit L) (f' : Fit L') :
  Calls Try.prog 75 #[.slice ao n cap, .slice ao' n' cap'] w fun e w' => ∃ ao1 n1 cap1, e = .returned (.slice ao1 n1 cap1) ∧ Lab w'.heap.size w' ao1 n1 cap1 (joinL L L') ∧ n1 ≤ 2 * n + n' ∧ Below w.heap.size w w' := by
 have h := rljoin_any hL hL' hk hk'
 rw [rjoin_eq f f'] at h
 exact h
theorem rplace_any {w : World} {aD aO : Option Addr} {nD cD nO cO : Nat} {D O : List (Int × Int)} (hD : Lab w.heap.size w aD nD cD D) (hO : Lab w.heap.size w aO nO cO O) (kD : nD < 1048576) (kO : nO < 1048576) (fD : Fit D) (fO : Fit O) :
  Calls Try.prog 57 #[.slice aD nD cD, .slice aO nO cO] w fun e w' => e = .returned (.bool (leqB D (joinL (raiseL O) []))) ∧ Below w.heap.size w w' := by
 have hB := Below.refl w.heap.size w
 have H := ((((Labs.nil w).push (Lab.nil _ _)).push hD).push hO)
 clear hD hO
 have fnil := Fit.nil
 have fR : Fit (raiseL O) := raiseL_fit fO
 have fJ : Fit (joinL (raiseL O) []) := joinL_fit fR Fit.nil
 go_enter Try.func57, Try.ntmps57
 go_wp2_with (first | (go_at_call 76; refine (rraise_f (H.get (by repeat (first | exact List.Mem.head _ | apply List.Mem.tail))) (by omega) (by assumption)).mono ?_; rintro e w1 ⟨ao1, m1, cap1, rfl, hl, kn, kb⟩; replace H := (H.next kb).push hl; replace hB := hB.trans (kb.mono hB.size); clear kb hl) | (go_at_call 75; refine (rjoin_f (H.get (by repeat (first | exact List.Mem.head _ | apply List.Mem.tail))) (H.get (by repeat (first | exact List.Mem.head _ | apply List.Mem.tail))) (by omega) (by omega) (by assumption) (by assumption)).mono ?_; rintro e w1 ⟨ao1, m1, cap1, rfl, hl, kn, kb⟩; replace H := (H.next kb).push hl; replace hB := hB.trans (kb.mono hB.size); clear kb hl) | (go_at_call 74; refine (rleq_f (H.get (by repeat (first | exact List.Mem.head _ | apply List.Mem.tail))) (H.get (by repeat (first | exact List.Mem.head _ | apply List.Mem.tail))) (by assumption) (by assumption)).mono ?_; rintro e w1 ⟨rfl, kb⟩; replace H := H.next kb; replace hB := hB.trans (kb.mono hB.size); clear kb))
 go_ret
 exact ⟨rfl, hB⟩
end Go.Proofs.Ytcmcakandbpjfaa
namespace Go.Proofs.Ytcmcakandbpjfaa
set_option maxRecDepth 100000
set_option maxHeartbeats 8000000
open Go.RowKit Go.Shelf
set_option linter.unusedVariables false
attribute [local go_sem] Oper.semAt_some

theorem alw_no {l : List Int} {p : Int → Bool} {k : Nat} (hk : k < l.length) (h : p (l.getD k 0) = false) : l.all p = false := by
 rw [List.all_eq_false]
 exact ⟨_, getD_mem hk, by rw [h]; decide⟩
theorem alw_take {l : List Int} {p : Int → Bool} {k : Nat} (hk : k < l.length) (h : (l.take k).all p = true) (h1 : p (l.getD k 0) = true) : (l.take (k + 1)).all p = true := by
 rw [List.take_add_one, List.getElem?_eq_getElem hk, Option.toList_some, List.all_append, h]
 rw [List.getD_eq_getElem?_getD, List.getElem?_eq_getElem hk, Option.getD_some] at h1
 simp [h1]
def LbF (L : Lb) : Prop := Fit L ∧ L.length < 1048576
theorem fO_lab {X : List Ob} (h : ∀ x ∈ X, LbF x.label) (i : Int) : LbF (fO X i).label := by
 unfold fO
 cases hf : fnd X i with
 | none => exact ⟨Fit.nil, by decide⟩
 | some x => exact h x (fnd_id hf).2
theorem rlinks_w {w : World} {t ke ro : Int} {ao : Option Addr} {n cap : Nat} {X : List Ob} {C : Array Value} {o : Ob} (h : Obs w ao n cap X) (hq : ∀ x ∈ X, 0 ≤ x.quota ∧ x.quota ≤ 4096) (hlb : ∀ x ∈ X, LbF x.label) (ho : ObD (LtN w) w C o) (hsm : Small o) (hol : LbF o.label) : Calls Try.prog 36 #[.agg #[.int .i64 t, .int .u64 ke, .int .u64 ro, .slice ao n cap], .agg C] w fun e w' => e = .returned (.bool (lnkB X o)) ∧ Below w.heap.size w w' := by
 have hmx : Try.prog.follows .mixedOrders = true := by kernel_rfl
 have hz := ho.size
 obtain ⟨al, nl, cl, c5, hLk⟩ := ho.links
 obtain ⟨aD, nD, cD, c2, hLD⟩ := ho.label
 have hnD : nD < 1048576 := by rw [← hLD.1]; exact hol.2
 have c1 := ho.kind
 have c3 := ho.quota
 have hln : Hid (o.links.length = nl) := hLk.1
 have hlc := hLk.2.1
 have hlm := hLk.2.2.1.1
 have hzw : (Try.prog.info? 25).map (·.size) = some (#[.int .i64 t, .int .u64 ke, .int .u64 ro, .slice ao n cap] : Array Value).size := by kernel_rfl
 have hus := fun (W : World) (hk : Below w.heap.size w W) => ruses_w (t := t) (ke := ke) (ro := ro) (obs_next h hk) hq (ho.next hk) hsm
 have hfd := fun {W : World} {i : Int} (hk : Below w.heap.size w W) => rfind_at (t := t) (ke := ke) (ro := ro) (i := i) h hk
 have hL0 : Lab w.heap.size w aD nD cD o.label := hLD
 obtain ⟨p, hp⟩ : ∃ p : Int → Bool, Hid (p = fun i => (fnd X i).isSome && plcB o.label (fO X i).label) := ⟨_, rfl⟩
 have hR : Hid (lnkB X o = (o.links.all p && (!decide (o.kind = 2) || decide (usesN X o ≤ o.quota)))) := by show lnkB X o = _; unfold lnkB; rw [hp.out]
 have hno := fun (k : Nat) (hk : k < nl) (e : p (o.links.getD k 0) = false) => alw_no (p := p) (show k < o.links.length by rw [hln.out]; exact hk) e
 have hyes := fun (k : Nat) (hk : k < nl) => alw_take (p := p) (show k < o.links.length by rw [hln.out]; exact hk)
 have hfull : o.links.take nl = o.links := by rw [← hln.out]; exact List.take_length
 rw [hR.out]
 generalize usesN X o = us at hus ⊢
 obtain ⟨G, hG⟩ : ∃ G : Array Value, G = #[.int .i64 t, .int .u64 ke, .int .u64 ro, .slice ao n cap] := ⟨_, rfl⟩
 rw [← hG] at hzw hfd hus
 rw [← hG]
 clear hG
 go_enter Try.func36, Try.ntmps36
 go_wp2_with (first
  | (with_reducible refine wpList_box rfl 25 _ rfl G rfl ?_; intro B2 W2 hN2 hB2 hk)
  | (with_reducible refine wpList_box rfl 54 _ rfl C rfl ?_; intro B3 W3 hN3 hB3 hk3; replace hB2 := hB2.next hk3; replace hk := hk.trans (hk3.mono hk.size)))
 clear hN2 hN3 hk3
 go_loopw [5] (fun j wr => ∃ k : Nat, k ≤ nl ∧ j = .int .i64 k ∧ Hid ((o.links.take k).all p = true) ∧ Blk wr B2 G 25 ∧ Blk wr B3 C 54 ∧ Below w.heap.size w wr) (fun j _ => nl - (intOf j).toNat)
 case atStart => exact ⟨0, Nat.zero_le _, rfl, rfl, hB2, hB3, hk⟩
 case round =>
  clear hB2 hB3 hk
  obtain ⟨k, hkn1, rfl, hall, hB2, hB3, hk⟩ := hrel
  by_cases hkn : k < nl
  ·obtain ⟨b, off, rfl, hbb, hc⟩ := ct_at hLk hkn
   have hkn' : (k : Int) < nl := by omega
   replace hno := hno k hkn
   replace hyes := hyes k hkn hall.out
   generalize o.links.getD k 0 = i at hc hno hyes
   go_wp2_with (first
    | (with_reducible refine wpList_load1 (by kernel_rfl) _ _ rfl B3 _ rfl _ _ hB3 _ c5 Try.isAgg28 ?_))
   refine PgM.region_out (S := fun W => Blk W B2 G 25 ∧ Blk W B3 C 54 ∧ Below w.heap.size w W) hmx ⟨hB2.next (Below.refl _ _).drew, hB3.next (Below.refl _ _).drew, hk.trans ((Below.refl _ _).drew.mono hk.size)⟩ (fun hS => ?_)
   generalize wr.drew = v6 at hS ⊢
   clear hk hB2 hB3 
   refine wpAnyH_sym (by kernel_rfl) (fun _ _ _ _ _ h => h) hS [(0, some (.agg G)), (1, none), (2, some (.slice (some ⟨b, off, none⟩) nl cl)), (3, none), (4, some (.pointer (some ⟨b, off + k, none⟩))), (5, some (.int .u64 i))] (l' := #[true, true, true, true, true, true, false, false, false, false, false, false, false]) (a' := { tmps := #[.agg G, .agg C, .pointer (some ⟨B2, 0, none⟩), .pointer (some ⟨B3, 0, none⟩), u4, .int .i64 k, u6, u7, .int .i64 k, .pointer (some ⟨B3, 5, none⟩), .slice (some ⟨b, off, none⟩) nl cl, .int .i64 nl, .bool true, u13, u14, u15, .agg G, .pointer (some ⟨B3, 5, none⟩), .slice (some ⟨b, off, none⟩) nl cl, .int .i64 k, .pointer (some ⟨b, off + k, none⟩), .int .u64 i, u22, u23, u24, u25, u26, u27, u28, u29, u30, u31, u32, u33, u34, undef, undef, undef, undef, undef, undef, undef, undef, undef, undef, undef], defers := [] }) (obs := [.load 25 B2 0 (.agg G), .load 28 B3 5 (.slice (some ⟨b, off, none⟩) nl cl), .ia 28 (.slice (some ⟨b, off, none⟩) nl cl) (.int .i64 k) (.pointer (some ⟨b, off + k, none⟩)), .load 22 b (off + k) (.int .u64 i)]) (n := 7) (by kernel_rfl) (by kernel_rfl) ⟨ob_loadb (fun _ h => h.1) Try.underlying25 (by kernel_rfl) hzw, ob_load1 (fun _ h => h.2.1) c5 Try.isAgg28, iaw_at hkn, ob_word (fun W h => (World.cell?_of_block (w := w) (a := ⟨b, off + k, none⟩) (h.2.2.block b hbb)).trans hc) Try.isAgg22, trivial⟩ ?_
   refine share 2 #[true, true, true, true, true, true, true, true, true, true, true, false, false] (fun A W => ∃ (P6 : Nat) (C6 : Array Value), A = { tmps := #[.agg G, .agg C, .pointer (some ⟨B2, 0, none⟩), .pointer (some ⟨B3, 0, none⟩), u4, .int .i64 k, .pointer (some ⟨P6, 0, none⟩), u7, .int .i64 k, .pointer (some ⟨B3, 5, none⟩), .slice (some ⟨b, off, none⟩) nl cl, .int .i64 nl, .bool true, u13, u14, .tuple #[.agg C6, .bool (fnd X i).isSome], .agg G, .pointer (some ⟨B3, 5, none⟩), .slice (some ⟨b, off, none⟩) nl cl, .int .i64 k, .pointer (some ⟨b, off + k, none⟩), .int .u64 i, .tuple #[.agg C6, .bool (fnd X i).isSome], .agg C6, .bool (fnd X i).isSome, u25, u26, u27, u28, u29, u30, u31, u32, u33, u34, undef, undef, undef, undef, undef, undef, undef, undef, undef, undef, undef], defers := [] } ∧ (Blk W B2 G 25 ∧ Blk W B3 C 54 ∧ Below w.heap.size w W) ∧ Blk W P6 zC 54 ∧ v6.heap.size ≤ P6 ∧ ObD (LtN w) W C6 (fO X i) ∧ Below v6.heap.size v6 W) ?_ (fun rest => ?_)
   ·rintro A W ⟨P6, C6, rfl, hS1, hP0, hgP, o6, kv⟩
    obtain ⟨W6, hr6, hP6, q6⟩ := run_store_blk hP0 (size40C o6.size) (zC_size.trans o6.size.symm) o6.one
    refine wpAnyH_single (i := 11) (n := 1) rfl (by kernel_rfl) ?_
    refine wpOp_storeL (ty := 54) (B := P6) (off := 0) (v := .agg C6) (d := none) (by kernel_rfl) hr6 ?_
    have hwP : w.heap.size ≤ P6 := Nat.le_trans hS.2.2.size hgP
    have hS6 : Blk W6 B2 G 25 ∧ Blk W6 B3 C 54 ∧ Below w.heap.size w W6 := ⟨hS1.1.other q6 (by have := hS.1.lt; omega), hS1.2.1.other q6 (by have := hS.2.1.lt; omega), q6.below _ _ hwP hS1.2.2⟩
    replace o6 := ob_oth o6 hwP q6
    refine ⟨hS6, ?_⟩
    refine wpAnyH_sym (by kernel_rfl) (fun _ _ _ _ _ h => h) hS6 [(12, none)] (l' := #[true, true, true, true, true, true, true, true, true, true, true, true, true]) (a' := { tmps := #[.agg G, .agg C, .pointer (some ⟨B2, 0, none⟩), .pointer (some ⟨B3, 0, none⟩), u4, .int .i64 k, .pointer (some ⟨P6, 0, none⟩), .bool (fnd X i).isSome, .int .i64 k, .pointer (some ⟨B3, 5, none⟩), .slice (some ⟨b, off, none⟩) nl cl, .int .i64 nl, .bool true, u13, u14, .tuple #[.agg C6, .bool (fnd X i).isSome], .agg G, .pointer (some ⟨B3, 5, none⟩), .slice (some ⟨b, off, none⟩) nl cl, .int .i64 k, .pointer (some ⟨b, off + k, none⟩), .int .u64 i, .tuple #[.agg C6, .bool (fnd X i).isSome], .agg C6, .bool (fnd X i).isSome, u25, u26, u27, u28, u29, u30, u31, u32, u33, u34, undef, undef, undef, undef, undef, undef, undef, undef, undef, undef, undef], defers := [] }) (obs := []) (n := 0) (by kernel_rfl) (by kernel_rfl) trivial ?_
    refine wpAnyH_done (by kernel_rfl) ?_ _
    obtain ⟨hB2, hB3, hk⟩ := hS6
    clear hS hS1 hP0 hgP hr6 q6 kv
    have hpi : Hid (p i = ((fnd X i).isSome && plcB o.label (fO X i).label)) := by show p i = _; rw [hp.out]
    have hlo := fO_lab hlb i
    obtain ⟨aO, nO, cO, cx2, hLO⟩ := o6.label
    have hnO : nO < 1048576 := by rw [← hLO.1]; exact hlo.2
    have hL6 : Lab W6.heap.size W6 aO nO cO (fO X i).label := hLO.lab fun b hb => Nat.lt_of_lt_of_le hb hk.size
    have hpl := rplace_any (Lab.next hL0 hk) hL6 hnD hnO hol.1 hlo.1
    change Calls Try.prog _ _ W6 fun e w' => e = .returned (.bool (plcB o.label (fO X i).label)) ∧ _ at hpl
    generalize (fnd X i).isSome = bf at hpi ⊢
    generalize plcB o.label (fO X i).label = bp at hpi hpl
    clear hL6 hLO hlo o6
    cases bf with
    | false =>
     have hz0 := hno (by rw [hpi.out]; rfl)
     go_wp2
     go_ret
     exact ⟨by rw [hz0]; rfl, hk⟩
    | true =>
     cases bp with
     | false =>
      have hz0 := hno (by rw [hpi.out]; rfl)
      go_wp2_with (first
       | (with_reducible refine wpList_load1 (by kernel_rfl) _ _ rfl B3 _ rfl _ _ hB3 _ c2 Try.isAgg39 ?_)
       | (with_reducible refine wpList_load1 (by kernel_rfl) _ _ rfl P6 _ rfl _ _ hP6 _ cx2 Try.isAgg39 ?_)
       | (go_at_call 57; (with_reducible refine hpl.mono ?_); rintro e w7 ⟨rfl, hb7⟩; replace hk := hk.trans (hb7.mono hk.size)))
      go_ret
      exact ⟨by rw [hz0]; rfl, hk⟩
     | true =>
      have hy1 := hyes (by rw [hpi.out]; rfl)
      go_wp2_with (first
       | (with_reducible refine wpList_load1 (by kernel_rfl) _ _ rfl B3 _ rfl _ _ hB3 _ c2 Try.isAgg39 ?_)
       | (with_reducible refine wpList_load1 (by kernel_rfl) _ _ rfl P6 _ rfl _ _ hP6 _ cx2 Try.isAgg39 ?_)
       | (go_at_call 57; (with_reducible refine hpl.mono ?_); rintro e w7 ⟨rfl, hb7⟩; replace hB2 := hB2.next hb7; replace hB3 := hB3.next hb7; replace hk := hk.trans (hb7.mono hk.size)))
      go_roundw
      case rel => exact ⟨k + 1, by omega, by go_num, hy1, hB2, hB3, hk⟩
      case measure => simp [intOf]; omega
   ·refine wpAnyH_two (i := 6) (j := 10) (n := 6) rfl (by kernel_rfl) ?_ ?_
    ·refine wpOp_callL (f := 16) (vs := [.agg G, .int .u64 i]) (d := some 22) (by kernel_rfl) Try.call16 (hfd hS.2.2) ?_
     rintro e z1 ⟨C6, rfl, o6, hb101⟩
     have k1 := (Below.refl v6.heap.size v6).trans (hb101.mono (Below.refl v6.heap.size v6).size)
     have hS1 : Blk z1 B2 G 25 ∧ Blk z1 B3 C 54 ∧ Below w.heap.size w z1 := ⟨hS.1.next hb101, hS.2.1.next hb101, hS.2.2.trans (hb101.mono hS.2.2.size)⟩
     refine ⟨_, rfl, hS1, ?_⟩
     refine wpAnyH_pure (by kernel_rfl) (fun _ _ _ _ _ h => h) hS1 [7, 8, 9] (l' := #[true, true, true, true, true, true, true, true, true, true, false, false, false]) (a' := { tmps := #[.agg G, .agg C, .pointer (some ⟨B2, 0, none⟩), .pointer (some ⟨B3, 0, none⟩), u4, .int .i64 k, u6, u7, .int .i64 k, .pointer (some ⟨B3, 5, none⟩), .slice (some ⟨b, off, none⟩) nl cl, .int .i64 nl, .bool true, u13, u14, .tuple #[.agg C6, .bool (fnd X i).isSome], .agg G, .pointer (some ⟨B3, 5, none⟩), .slice (some ⟨b, off, none⟩) nl cl, .int .i64 k, .pointer (some ⟨b, off + k, none⟩), .int .u64 i, .tuple #[.agg C6, .bool (fnd X i).isSome], .agg C6, .bool (fnd X i).isSome, u25, u26, u27, u28, u29, u30, u31, u32, u33, u34, undef, undef, undef, undef, undef, undef, undef, undef, undef, undef, undef], defers := [] }) (n := 3) (by kernel_rfl) (by kernel_rfl) ?_
     refine wpAnyH_single (i := 10) (n := 2) rfl (by kernel_rfl) ?_
     refine wpOp_allocL (ty := 54) (z := zC) (d := some 6) (by kernel_rfl) zero40 ?_
     intro P6 z2 hN hP6 hb102
     have hgP : v6.heap.size ≤ P6 := by have := hN.out; have := k1.size; omega
     replace o6 := ob_lt o6 hS1.2.2 hb102
     have k2 := k1.trans (hb102.mono k1.size)
     have hS2 : Blk z2 B2 G 25 ∧ Blk z2 B3 C 54 ∧ Below w.heap.size w z2 := ⟨hS1.1.next hb102, hS1.2.1.next hb102, hS1.2.2.trans (hb102.mono hS1.2.2.size)⟩
     refine ⟨hS2, ?_⟩
     exact rest _ _ ⟨P6, C6, rfl, hS2, hP6, hgP, o6, k2⟩
    ·refine wpOp_allocL (ty := 54) (z := zC) (d := some 6) (by kernel_rfl) zero40 ?_
     intro P6 z3 hN hP6 hb103
     have hgP : v6.heap.size ≤ P6 := by have := hN.out; have := (Below.refl v6.heap.size v6).size; omega
     have k3 := (Below.refl v6.heap.size v6).trans (hb103.mono (Below.refl v6.heap.size v6).size)
     have hS3 : Blk z3 B2 G 25 ∧ Blk z3 B3 C 54 ∧ Below w.heap.size w z3 := ⟨hS.1.next hb103, hS.2.1.next hb103, hS.2.2.trans (hb103.mono hS.2.2.size)⟩
     refine ⟨hS3, ?_⟩
     refine wpAnyH_single (i := 6) (n := 5) rfl (by kernel_rfl) ?_
     refine wpOp_callL (f := 16) (vs := [.agg G, .int .u64 i]) (d := some 22) (by kernel_rfl) Try.call16 (hfd hS3.2.2) ?_
     rintro e z4 ⟨C6, rfl, o6, hb104⟩
     replace hP6 := hP6.next hb104
     have k4 := k3.trans (hb104.mono k3.size)
     have hS4 : Blk z4 B2 G 25 ∧ Blk z4 B3 C 54 ∧ Below w.heap.size w z4 := ⟨hS3.1.next hb104, hS3.2.1.next hb104, hS3.2.2.trans (hb104.mono hS3.2.2.size)⟩
     refine ⟨_, rfl, hS4, ?_⟩
     refine wpAnyH_pure (by kernel_rfl) (fun _ _ _ _ _ h => h) hS4 [7, 8, 9] (l' := #[true, true, true, true, true, true, true, true, true, true, true, false, false]) (a' := { tmps := #[.agg G, .agg C, .pointer (some ⟨B2, 0, none⟩), .pointer (some ⟨B3, 0, none⟩), u4, .int .i64 k, .pointer (some ⟨P6, 0, none⟩), u7, .int .i64 k, .pointer (some ⟨B3, 5, none⟩), .slice (some ⟨b, off, none⟩) nl cl, .int .i64 nl, .bool true, u13, u14, .tuple #[.agg C6, .bool (fnd X i).isSome], .agg G, .pointer (some ⟨B3, 5, none⟩), .slice (some ⟨b, off, none⟩) nl cl, .int .i64 k, .pointer (some ⟨b, off + k, none⟩), .int .u64 i, .tuple #[.agg C6, .bool (fnd X i).isSome], .agg C6, .bool (fnd X i).isSome, u25, u26, u27, u28, u29, u30, u31, u32, u33, u34, undef, undef, undef, undef, undef, undef, undef, undef, undef, undef, undef], defers := [] }) (n := 2) (by kernel_rfl) (by kernel_rfl) ?_
     exact rest _ _ ⟨P6, C6, rfl, hS4, hP6, hgP, o6, k4⟩
  ·obtain rfl : k = nl := by omega
   rw [hfull] at hall
   go_wp2_with (first
    | (with_reducible refine wpList_load1 (by kernel_rfl) _ _ rfl B3 _ rfl _ _ hB3 _ c5 Try.isAgg28 ?_))
   refine PgM.region_out (S := fun W => Blk W B2 G 25 ∧ Blk W B3 C 54 ∧ Below w.heap.size w W) hmx ⟨hB2.next (Below.refl _ _).drew, hB3.next (Below.refl _ _).drew, hk.trans ((Below.refl _ _).drew.mono hk.size)⟩ (fun hS => ?_)
   generalize wr.drew = v6 at hS ⊢
   clear hB2 hB3 hk
   by_cases k2 : o.kind = 2
   ·have q1 : Hid (¬ ¬ o.kind = 2) := fun q => q k2
    refine wpAnyH_sym (by kernel_rfl) (fun _ _ _ _ _ h => h) hS [(0, none), (1, some (.int .i64 o.kind)), (2, some (.bool false)), (3, none), (4, some (.agg G)), (5, some (.agg C)), (7, none), (8, some (.int .i64 o.quota))] (l' := #[true, true, true, true, true, true, false, true, true, false, false, false]) (a' := { tmps := #[.agg G, .agg C, .pointer (some ⟨B2, 0, none⟩), .pointer (some ⟨B3, 0, none⟩), u4, .int .i64 k, u6, u7, .int .i64 k, .pointer (some ⟨B3, 5, none⟩), .slice al k cl, .int .i64 k, .bool false, u13, u14, u15, u16, u17, u18, u19, u20, u21, u22, u23, u24, u25, u26, u27, u28, u29, u30, u31, u32, u33, u34, .pointer (some ⟨B3, 1, none⟩), .int .i64 o.kind, .bool false, .bool false, .agg G, .agg C, undef, .pointer (some ⟨B3, 3, none⟩), .int .i64 o.quota, undef, undef], defers := [] }) (obs := [.load 3 B3 1 (.int .i64 o.kind), .test .neq 3 (.tmp 36) (.const (.int .i64 2)) (.int .i64 o.kind) (.int .i64 2) (.bool false), .load 25 B2 0 (.agg G), .load 54 B3 0 (.agg C), .load 3 B3 3 (.int .i64 o.quota)]) (n := 4) (by kernel_rfl) (by kernel_rfl) ⟨ob_load1 (fun _ h => h.2.1) c1 Try.isAgg3, ob_no (fun _ => neg_int _ _ _ _ _ _) q1, ob_loadb (fun _ h => h.1) Try.underlying25 (by kernel_rfl) hzw, ob_loadb (fun _ h => h.2.1) Try.underlying54 (by kernel_rfl) (size40C hz), ob_load1 (fun _ h => h.2.1) c3 Try.isAgg3, trivial⟩ ?_
    refine wpAnyH_callL (i := 6) (fuel := 3) (f := 40) (vs := [.agg G, .agg C]) (d := some 41) (by kernel_rfl) (by kernel_rfl) (by kernel_rfl) Try.call40 (hus _ hS.2.2) ?_
    rintro e v7 ⟨rfl, hb7⟩
    have hS2 : Blk v7 B2 G 25 ∧ Blk v7 B3 C 54 ∧ Below w.heap.size w v7 := ⟨hS.1.next hb7, hS.2.1.next hb7, hS.2.2.trans (hb7.mono hS.2.2.size)⟩
    refine ⟨_, rfl, hS2, ?_⟩
    by_cases q3 : us ≤ o.quota
    ·replace q3 : Hid (us ≤ o.quota) := q3
     refine wpAnyH_sym (by kernel_rfl) (fun _ _ _ _ _ h => h) hS2 [(9, some (.bool true)), (10, none), (11, none)] (l' := #[true, true, true, true, true, true, true, true, true, true, true, true]) (a' := { tmps := #[.agg G, .agg C, .pointer (some ⟨B2, 0, none⟩), .pointer (some ⟨B3, 0, none⟩), .bool true, .int .i64 k, u6, u7, .int .i64 k, .pointer (some ⟨B3, 5, none⟩), .slice al k cl, .int .i64 k, .bool false, u13, u14, u15, u16, u17, u18, u19, u20, u21, u22, u23, u24, u25, u26, u27, u28, u29, u30, u31, u32, u33, u34, .pointer (some ⟨B3, 1, none⟩), .int .i64 o.kind, .bool false, .bool false, .agg G, .agg C, .int .i64 us, .pointer (some ⟨B3, 3, none⟩), .int .i64 o.quota, .bool true, .bool true], defers := [] }) (obs := [.test .leq 3 (.tmp 41) (.tmp 43) (.int .i64 us) (.int .i64 o.quota) (.bool true)]) (n := 0) (by kernel_rfl) (by kernel_rfl) ⟨ob_yes (fun _ => tle_int _ _ _ _ _ _) q3, trivial⟩ ?_
     refine wpAnyH_done (by kernel_rfl) ?_ _
     go_wp2
     go_ret
     exact ⟨by rw [hall.out]; simp [q3.out], hS2.2.2⟩
    ·replace q3 : Hid (¬ us ≤ o.quota) := q3
     refine wpAnyH_sym (by kernel_rfl) (fun _ _ _ _ _ h => h) hS2 [(9, some (.bool false)), (10, none), (11, none)] (l' := #[true, true, true, true, true, true, true, true, true, true, true, true]) (a' := { tmps := #[.agg G, .agg C, .pointer (some ⟨B2, 0, none⟩), .pointer (some ⟨B3, 0, none⟩), .bool false, .int .i64 k, u6, u7, .int .i64 k, .pointer (some ⟨B3, 5, none⟩), .slice al k cl, .int .i64 k, .bool false, u13, u14, u15, u16, u17, u18, u19, u20, u21, u22, u23, u24, u25, u26, u27, u28, u29, u30, u31, u32, u33, u34, .pointer (some ⟨B3, 1, none⟩), .int .i64 o.kind, .bool false, .bool false, .agg G, .agg C, .int .i64 us, .pointer (some ⟨B3, 3, none⟩), .int .i64 o.quota, .bool false, .bool false], defers := [] }) (obs := [.test .leq 3 (.tmp 41) (.tmp 43) (.int .i64 us) (.int .i64 o.quota) (.bool false)]) (n := 0) (by kernel_rfl) (by kernel_rfl) ⟨ob_no (fun _ => tle_int _ _ _ _ _ _) q3, trivial⟩ ?_
     refine wpAnyH_done (by kernel_rfl) ?_ _
     go_wp2
     go_ret
     exact ⟨by rw [hall.out]; simp [q3.out], hS2.2.2⟩
   ·have q1 : Hid (¬ o.kind = 2) := k2
    refine wpAnyH_sym (by kernel_rfl) (fun _ _ _ _ _ h => h) hS [(0, none), (1, some (.int .i64 o.kind)), (2, some (.bool true)), (3, none), (4, none), (5, none), (6, none), (7, none), (8, none), (9, none), (10, none), (11, none)] (l' := #[true, true, true, true, true, true, true, true, true, true, true, true]) (a' := { tmps := #[.agg G, .agg C, .pointer (some ⟨B2, 0, none⟩), .pointer (some ⟨B3, 0, none⟩), .bool true, .int .i64 k, u6, u7, .int .i64 k, .pointer (some ⟨B3, 5, none⟩), .slice al k cl, .int .i64 k, .bool false, u13, u14, u15, u16, u17, u18, u19, u20, u21, u22, u23, u24, u25, u26, u27, u28, u29, u30, u31, u32, u33, u34, .pointer (some ⟨B3, 1, none⟩), .int .i64 o.kind, .bool true, .bool true, undef, undef, undef, undef, undef, undef, .bool true], defers := [] }) (obs := [.load 3 B3 1 (.int .i64 o.kind), .test .neq 3 (.tmp 36) (.const (.int .i64 2)) (.int .i64 o.kind) (.int .i64 2) (.bool true)]) (n := 0) (by kernel_rfl) (by kernel_rfl) ⟨ob_load1 (fun _ h => h.2.1) c1 Try.isAgg3, ob_yes (fun _ => neg_int _ _ _ _ _ _) q1, trivial⟩ ?_
    refine wpAnyH_done (by kernel_rfl) ?_ _
    go_wp2
    go_ret
    exact ⟨by rw [hall.out]; simp [k2], hS.2.2⟩
end Go.Proofs.Ytcmcakandbpjfaa
