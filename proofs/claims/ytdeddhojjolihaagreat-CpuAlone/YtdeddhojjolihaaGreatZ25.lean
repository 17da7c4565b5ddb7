/-
 PROVED HERE: how a map from words to where an object lies is asked and changed; what a view's ownNumbers returns when it is. What is asked stands at each.
-/
import Derived.RangeFuncNested
import Derived.Test.YtdeddhojjolihaaGreatZ16
import Derived.Test.YtdeddhojjolihaaGreatZ18
import Derived.Test.YtdeddhojjolihaaGreatZ20
import Derived.Test.YtdeddhojjolihaaGreatZ24
namespace Go.Proofs.YtdeddhojjolihaaGreat
set_option maxRecDepth 100000
set_option maxHeartbeats 8000000
set_option linter.unusedVariables false
open Go.Proofs.Tryz
section
open Go.RowKit Go.Shelf
attribute [local go_sem] Oper.semAt_some
abbrev Hl := List (Int × (Int × Int))
def hv (p : Int × Int) : Value := .agg #[.int .i64 p.1, .int .u64 p.2]
def lkH (k : Int) : Hl → Int × Int
 | [] => (0, 0)
 | p :: l => if p.1 = k then p.2 else lkH k l
def kv (e : MapEntry) : Value × Value := (e.key, e.val)
def ekv (p : Int × (Int × Int)) : Value × Value := (.int .u64 p.1, hv p.2)
def MapF (W : World) (M : Nat) (f : Int → Int × Int) : Prop := ∃ (es : Array MapEntry) (c : Nat) (l : Hl), W.heap[M]? = some (.map es c) ∧ es.toList.map kv = l.map ekv ∧ ∀ k, lkH k l = f k
variable {f : Int → Int × Int}
theorem MapF.lt {W : World} {M : Nat} (h : MapF W M f) : M < W.heap.size := by
 obtain ⟨es, c, l, h1, _⟩ := h
 exact (Array.getElem?_eq_some_iff.1 h1).1
theorem MapF.block {W W' : World} {M : Nat} (h : MapF W M f) (k : W'.heap[M]? = W.heap[M]?) : MapF W' M f := by
 obtain ⟨es, c, l, h1, h2⟩ := h
 exact ⟨es, c, l, k.trans h1, h2⟩
theorem MapF.next {W W' : World} {M : Nat} (h : MapF W M f) (k : Below W.heap.size W W') : MapF W' M f := h.block (k.block M h.lt)
end
section
open Go.RowKit Go.Shelf
attribute [local go_sem] Oper.semAt_some
def WdO (x : Ob) : Prop := (0 ≤ x.id ∧ x.id < 18446744073709551616) ∧ (0 ≤ x.th.lo ∧ x.th.lo < 18446744073709551616) ∧ (0 ≤ x.th.hi ∧ x.th.hi < 18446744073709551616)
end
section
open Go.ChangeShapes Go.WideShapes Go.ChangeAt Go.RowKit
section
variable {H : Type} {enc : TypeId × Value → H} {w : World} {m : Nat} {y : DataW H × List MemPlace}
theorem jcz {cs : List Value} {o : Nat} {t : TypeId} {k : IntKind} (ho : o < cs.length) (hc : prog.cellsOf t = 1) (hu : prog.underlying t = some (.int k)) (h : DataW.trod enc prog w 0 (fun _ => true) true m t ((cs.drop o).take (prog.cellsOf t)) = some y) : ∃ n, cs[o]? = some (.int k n) ∧ (Lit.int k n).wf = true := by
 rw [hc, kdz ho] at h
 obtain ⟨n, e, _, hw⟩ := DataW.trod_int hu h
 simp at e
 exact ⟨n, by rw [List.getElem?_eq_getElem ho, e], hw⟩
theorem knz {a : Int} (h : (Lit.int .u64 a).wf = true) : 0 ≤ a ∧ a < 18446744073709551616 := by
 simp [Lit.wf, IntKind.min, IntKind.max, IntKind.bits, IntKind.signed] at h
 omega
theorem span_wf {cs : List Value} (h : DataW.trod enc prog w 0 (fun _ => true) true m 43 cs = some y) : ∃ a b, cs[0]? = some (.int .u64 a) ∧ cs[1]? = some (.int .u64 b) ∧ (0 ≤ a ∧ a < 18446744073709551616) ∧ (0 ≤ b ∧ b < 18446744073709551616) := by
 obtain ⟨xs, m', _, _, hl, hx, hg⟩ := DataW.trod_struct underlying43 h
 rw [show prog.cellsOf 43 = 2 from by kernel_rfl] at hl
 obtain ⟨y0, y1, rfl⟩ : ∃ y0 y1, xs = [y0, y1] := by
  match xs, hx with
  | [y0, y1], _ => exact ⟨y0, y1, rfl⟩
 have t0 : DataW.trod enc prog w 0 (fun _ => true) true m' 22 ((cs.drop 0).take (prog.cellsOf 22)) = some y0 := hg 0 _ rfl
 have t1 : DataW.trod enc prog w 0 (fun _ => true) true m' 22 ((cs.drop 1).take (prog.cellsOf 22)) = some y1 := hg 1 _ rfl
 obtain ⟨a, ea, wa⟩ := jcz (o := 0) (by rw [hl]; omega) (by kernel_rfl) underlying22 t0
 obtain ⟨b, eb, wb⟩ := jcz (o := 1) (by rw [hl]; omega) (by kernel_rfl) underlying22 t1
 exact ⟨a, b, ea, eb, knz wa, knz wb⟩
theorem vkz {cs : List Value} {x : Ob} {D : Nat → Prop} (h : DataW.trod enc prog w 0 (fun _ => true) true m 50 cs = some y) (hx : ObD D w cs.toArray x) : WdO x := by
 obtain ⟨xs, m', _, _, hl, hxs, hg⟩ := DataW.trod_struct underlying50 h
 rw [show prog.cellsOf 50 = 51 from by kernel_rfl] at hl
 obtain ⟨y0, y1, y2, y3, y4, y5, y6, y7, y8, y9, y10, y11, rfl⟩ : ∃ y0 y1 y2 y3 y4 y5 y6 y7 y8 y9 y10 y11, xs = [y0, y1, y2, y3, y4, y5, y6, y7, y8, y9, y10, y11] := by
  match xs, hxs with
  | [y0, y1, y2, y3, y4, y5, y6, y7, y8, y9, y10, y11], _ => exact ⟨y0, y1, y2, y3, y4, y5, y6, y7, y8, y9, y10, y11, rfl⟩
 have t0 : DataW.trod enc prog w 0 (fun _ => true) true m' 22 ((cs.drop 0).take (prog.cellsOf 22)) = some y0 := hg 0 _ rfl
 obtain ⟨id, eid, wid⟩ := jcz (o := 0) (by rw [hl]; omega) (by kernel_rfl) underlying22 t0
 have t8 : DataW.trod enc prog w 0 (fun _ => true) true m' 46 ((cs.drop 8).take (prog.cellsOf 46)) = some y8 := hg 8 _ rfl
 rw [show prog.cellsOf 46 = 35 from by kernel_rfl] at t8
 obtain ⟨zs, m2, _, _, hl2, hzs, hg2⟩ := DataW.trod_struct underlying46 t8
 obtain ⟨z0, z1, z2, z3, z4, z5, z6, z7, z8, z9, z10, rfl⟩ : ∃ z0 z1 z2 z3 z4 z5 z6 z7 z8 z9 z10, zs = [z0, z1, z2, z3, z4, z5, z6, z7, z8, z9, z10] := by
  match zs, hzs with
  | [z0, z1, z2, z3, z4, z5, z6, z7, z8, z9, z10], _ => exact ⟨z0, z1, z2, z3, z4, z5, z6, z7, z8, z9, z10, rfl⟩
 have t9 : DataW.trod enc prog w 0 (fun _ => true) true m2 43 ((((cs.drop 8).take 35).drop 29).take (prog.cellsOf 43)) = some z9 := hg2 9 _ rfl
 rw [show prog.cellsOf 43 = 2 from by kernel_rfl] at t9
 obtain ⟨a, b, ea, eb, wa, wb⟩ := span_wf t9
 have c0 : (((((cs.drop 8).take 35).drop 29).take 2)[0]?) = cs[37]? := by simp [List.getElem?_drop]
 have c1 : (((((cs.drop 8).take 35).drop 29).take 2)[1]?) = cs[38]? := by simp [List.getElem?_drop]
 rw [c0] at ea
 rw [c1] at eb
 have i1 : cs[0]? = some (.int .u64 x.id) := by simpa using hx.id
 have i2 : cs[37]? = some (.int .u64 x.th.lo) := by simpa using hx.th.lo
 have i3 : cs[38]? = some (.int .u64 x.th.hi) := by simpa using hx.th.hi
 rw [i1] at eid
 rw [i2] at ea
 rw [i3] at eb
 cases eid
 cases ea
 cases eb
 exact ⟨knz wid, wa, wb⟩
end
end
section
def seeB (L : Lb) (x : Ob) : Bool := leqB (shoC x) (wAz L)
def chgB (L : Lb) (x : Ob) : Bool := seeB L x && leqB L x.label
def dirE (X : List Ob) (L : Lb) (i : Int) (wr : Bool) : Int := if (fnd X i).isSome = true ∧ (fO X i).kind = 2 ∧ seeB L (fO X i) = true then (if wr = true ∧ chgB L (fO X i) = false then 2 else 0) else 1
def lokE (X : List Ob) (L : Lb) (c i : Int) : Int := if dirE X L c false = 0 then (if i ∈ (fO X c).links ∧ (fnd X i).isSome = true then 0 else 1) else dirE X L c false
def allE (X : List Ob) (L : Lb) (c i kd : Int) (may : Ob → Bool) : Int := if lokE X L c i = 0 then (if kd = 0 ∨ kd = (fO X i).kind then (if may (fO X i) = true then 0 else 2) else 3) else lokE X L c i
def seeE (X : List Ob) (L : Lb) (c i kd : Int) : Int := allE X L c i kd (seeB L)
def resO (k : Int) (x : Ob) : Ob := if k = 0 then x else zOb
variable {X : List Ob} {L : Lb} {wr : Bool}
theorem jBz {i : Int} (h : ¬ ((fnd X i).isSome = true ∧ (fO X i).kind = 2 ∧ seeB L (fO X i) = true)) : dirE X L i wr = 1 := by unfold dirE; rw [if_neg h]
theorem gmz {i : Int} (h : (fnd X i).isSome = true ∧ (fO X i).kind = 2 ∧ seeB L (fO X i) = true) (k : wr = true ∧ chgB L (fO X i) = false) : dirE X L i wr = 2 := by unfold dirE; rw [if_pos h, if_pos k]
theorem gnz {i : Int} (h : (fnd X i).isSome = true ∧ (fO X i).kind = 2 ∧ seeB L (fO X i) = true) (k : ¬ (wr = true ∧ chgB L (fO X i) = false)) : dirE X L i wr = 0 := by unfold dirE; rw [if_pos h, if_neg k]
theorem goz (X : List Ob) (L : Lb) (i : Int) (wr : Bool) : (dirE X L i wr = 0 ∧ (fnd X i).isSome = true ∧ (fO X i).kind = 2 ∧ seeB L (fO X i) = true ∧ (wr = true → chgB L (fO X i) = true)) ∨ dirE X L i wr = 1 ∨ (dirE X L i wr = 2 ∧ wr = true) := by
 by_cases h : (fnd X i).isSome = true ∧ (fO X i).kind = 2 ∧ seeB L (fO X i) = true
 ·by_cases k : wr = true ∧ chgB L (fO X i) = false
  ·exact .inr (.inr ⟨gmz h k, k.1⟩)
  ·exact .inl ⟨gnz h k, h.1, h.2.1, h.2.2, fun e => by cases q : chgB L (fO X i) with | true => rfl | false => exact absurd ⟨e, q⟩ k⟩
 ·exact .inr (.inl (jBz h))
theorem uSz {c i : Int} (h : dirE X L c false ≠ 0) : lokE X L c i = dirE X L c false := by unfold lokE; rw [if_neg h]
theorem uRz {c i : Int} (h : dirE X L c false = 0) (k : ¬ (i ∈ (fO X c).links ∧ (fnd X i).isSome = true)) : lokE X L c i = 1 := by unfold lokE; rw [if_pos h, if_neg k]
theorem lok_ok {c i : Int} (h : dirE X L c false = 0) (k : i ∈ (fO X c).links ∧ (fnd X i).isSome = true) : lokE X L c i = 0 := by unfold lokE; rw [if_pos h, if_pos k]
theorem kBz (X : List Ob) (L : Lb) (c i : Int) : (lokE X L c i = 0 ∧ dirE X L c false = 0 ∧ i ∈ (fO X c).links ∧ (fnd X i).isSome = true) ∨ lokE X L c i = 1 := by
 rcases goz X L c false with h | h | h
 ·by_cases k : i ∈ (fO X c).links ∧ (fnd X i).isSome = true
  ·exact .inl ⟨lok_ok h.1 k, h.1, k⟩
  ·exact .inr (uRz h.1 k)
 ·exact .inr ((uSz (by rw [h]; decide)).trans h)
 ·exact absurd h.2 (by decide)
variable {may : Ob → Bool} {c i kd : Int}
theorem gAz (h : lokE X L c i ≠ 0) : allE X L c i kd may = lokE X L c i := by unfold allE; rw [if_neg h]
theorem ylz (h : lokE X L c i = 0) (k : ¬ (kd = 0 ∨ kd = (fO X i).kind)) : allE X L c i kd may = 3 := by unfold allE; rw [if_pos h, if_neg k]
theorem vMz (h : lokE X L c i = 0) (k : kd = 0 ∨ kd = (fO X i).kind) (m : may (fO X i) = false) : allE X L c i kd may = 2 := by unfold allE; rw [if_pos h, if_pos k, m]; rfl
theorem gzz (h : lokE X L c i = 0) (k : kd = 0 ∨ kd = (fO X i).kind) (m : may (fO X i) = true) : allE X L c i kd may = 0 := by unfold allE; rw [if_pos h, if_pos k, m]; rfl
theorem gBz (X : List Ob) (L : Lb) (c i kd : Int) (may : Ob → Bool) : (allE X L c i kd may = 0 ∧ lokE X L c i = 0 ∧ (kd = 0 ∨ kd = (fO X i).kind) ∧ may (fO X i) = true) ∨ (allE X L c i kd may = 1 ∧ lokE X L c i = 1) ∨ (allE X L c i kd may = 3 ∧ lokE X L c i = 0 ∧ ¬ (kd = 0 ∨ kd = (fO X i).kind)) ∨ (allE X L c i kd may = 2 ∧ lokE X L c i = 0 ∧ (kd = 0 ∨ kd = (fO X i).kind) ∧ may (fO X i) = false) := by
 rcases kBz X L c i with h | h
 ·by_cases k : kd = 0 ∨ kd = (fO X i).kind
  ·cases m : may (fO X i) with
   | true => exact .inl ⟨gzz h.1 k m, h.1, k, rfl⟩
   | false => exact .inr (.inr (.inr ⟨vMz h.1 k m, h.1, k, rfl⟩))
  ·exact .inr (.inr (.inl ⟨ylz h.1 k, h.1, k⟩))
 ·exact .inr (.inl ⟨(gAz (by rw [h]; decide)).trans h, h⟩)
end
section
open Go.RowKit Go.Shelf
def StayT {β : Type} (B : Nat) (t : TypeId) (J : β → World → Prop) : Prop := ∀ s A A' row, J s A → A.grownBy A' row → (∀ r, row = some r → B ≤ r ∧ ∃ C, A.heap[r]? = some (.cells C t)) → J s A'
def KT (D : Nat → Prop) (t : TypeId) (B : Nat) (W W' : World) : Prop := Keeps D W W' ∧ ∀ b C, B ≤ b → W.heap[b]? = some (.cells C t) → W'.heap[b]? = some (.cells C t)
theorem KT.trans {D : Nat → Prop} {t : TypeId} {B : Nat} {X Y Z : World} (h : KT D t B X Y) (k : KT D t B Y Z) : KT D t B X Z := ⟨h.1.trans k.1, fun b C hb hc => k.2 b C hb (h.2 b C hb hc)⟩
theorem KT.putObj {D : Nat → Prop} {t : TypeId} {B : Nat} {W : World} {l : Nat} {r : Loop} (o : Obj) (hD : ∀ b, D b → b ≠ l) (h : W.heap[l]? = some (.loop r)) : KT D t B W (W.putObj l o) :=
 ⟨⟨by simp [World.putObj], fun b hb => World.putObj_heap_other (hD b hb)⟩, fun b C _ hc => (World.putObj_heap_other (fun e => by rw [e, h] at hc; cases hc)).trans hc⟩
end
section
open Go.RowKit Go.Shelf
attribute [local go_sem] Oper.semAt_some
theorem Oth.grown {B : Nat} {w W : World} (h : Oth B w W) : w.grownBy W (some B) :=
 have b := h.below B w (Nat.le_refl _) (Below.refl _ _)
 ⟨b.os, b.tape, b.output, b.size, fun k _ hk => h.block k (fun e => hk (by rw [e]))⟩
end
section
open Go.RowKit Go.Shelf
attribute [local go_sem] Oper.semAt_some
theorem StayT.and {β : Type} {B : Nat} {t : TypeId} {I I' : β → World → Prop} (h : StayT B t I) (h' : StayT B t I') : StayT B t (fun s W => I s W ∧ I' s W) := fun s A A' row hs hg hr => ⟨h s A A' row hs.1 hg hr, h' s A A' row hs.2 hg hr⟩
end
section
open Go.RowKit Go.Shelf
attribute [local go_sem] Oper.semAt_some
theorem sound_q {x : Ob} (h : qQz x = true) : (0 ≤ x.quota ∧ x.quota ≤ 4096) ∧ x.label.length < 1048576 := by
 unfold qQz comB q5z at h
 simp only [Bool.and_eq_true, decide_eq_true_eq] at h
 omega
end
section
theorem xIz {X : List Ob} {i : Int} {x : Ob} (h : fnd X i = some x) : x.id = i ∧ x ∈ X :=
 ⟨by simpa using List.find?_some (show X.find? _ = some x from h), List.mem_of_find?_eq_some (show X.find? _ = some x from h)⟩
def upB (X : List Ob) (ro i : Int) : Bool := (decide (i = ro) && decide ((rabv X i).length = 0)) || (decide (0 < (rabv X i).length) && decide ((rabv X i).getLast?.getD 0 = ro))
end
section
def lnkB (X : List Ob) (d : Ob) : Bool := (d.links.all fun i => (fnd X i).isSome && plcB d.label (fO X i).label) && (!decide (d.kind = 2) || decide (kRz X d ≤ d.quota))
def plaB (X : List Ob) (ro : Int) (o : Ob) : Bool :=
 if o.id = ro then decide ((holL X o.id).length = 0) && (decide (o.kind = 2) && decide (o.quota ≤ 1024))
 else (decide (1 ≤ (holL X o.id).length) && !(decide (1 < (holL X o.id).length) && (!o.fixed || sngO o))) && (!decide (o.kind = 2) || upB X ro o.id)
def rapB (a b c d : Nat) : Bool := decide (a = b) || (decide (c = d) || (decide (b ≤ c) || decide (d ≤ a)))
def rowB (key : Nat) (X : List Ob) (i k : Nat) : Bool := !(SrM.hasK key (oat X i).th.lo.toNat (oat X i).th.hi.toNat (oat X k).id.toNat || (decide ((oat X k).kind = 4) && (decide (k ≠ i) && !rapB (oat X i).th.lo.toNat (oat X i).th.hi.toNat (oat X k).th.lo.toNat (oat X k).th.hi.toNat)))
def spaB (key : Nat) (X : List Ob) : Bool := (List.range X.length).all fun i => !decide ((oat X i).kind = 4) || (List.range X.length).all fun k => rowB key X i k
def fitD (t : Int) (key : Nat) (ro : Int) (X : List Ob) : Bool := (fitW ⟨t, key, ro, X⟩ && (fnd X ro).isSome) && (((List.range X.length).all fun j => lnkB X (oat X j) && plaB X ro (oat X j)) && spaB key X)
theorem all_oat {X : List Ob} {p : Ob → Bool} : ((List.range X.length).all fun j => p (oat X j)) = true ↔ ∀ o ∈ X, p o = true := by
 rw [List.all_eq_true]
 constructor
 ·intro h o ho
  obtain ⟨i, hi, e⟩ := List.getElem_of_mem ho
  have := h i (List.mem_range.2 hi)
  rwa [qCz hi, e] at this
 ·intro h j hj
  exact h _ (q4z (List.mem_range.1 hj))
theorem uUz {x : Ob} (h : qQz x = true) (hk : x.kind ≠ 2) : x.links = [] := by
 have ha : aloO x = x := (qUz x).1 (qqz.1 h).2.2
 rw [← ha]
 unfold aloO comO
 rw [if_neg hk]
 split
 ·rfl
 split
 ·rfl
 split
 ·rfl
 split
 ·rfl
 split <;> rfl
theorem id_pos {x : Ob} (h : qQz x = true) : 1 ≤ x.id := by
 have := (q9z.1 (qqz.1 h).1).1
 unfold idB at this
 simp only [Bool.and_eq_true, decide_eq_true_eq] at this
 omega
theorem vIz {t ke ro : Int} {X : List Ob} (h : fitW ⟨t, ke, ro, X⟩ = true) : Srt X ∧ (∀ x ∈ X, qQz x = true) ∧ X.length ≤ 1024 := by
 unfold fitW at h
 simp only [Bool.and_eq_true, decide_eq_true_eq, List.all_eq_true] at h
 exact ⟨idsB_iff.1 h.2.2.2.1, h.2.2.2.2, h.2.2.1⟩
end
end Go.Proofs.YtdeddhojjolihaaGreat
