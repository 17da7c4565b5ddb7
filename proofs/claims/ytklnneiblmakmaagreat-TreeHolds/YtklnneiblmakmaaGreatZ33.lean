/-
 PROVED HERE: how a map from words to where an object lies is asked and changed; where each object of a world lies, as a map. What is asked stands at each.
-/
import Derived.Test.YtklnneiblmakmaaGreatZ22
import Derived.Test.YtklnneiblmakmaaGreatZ25
import Derived.Test.YtklnneiblmakmaaGreatZ27
import Derived.Test.YtklnneiblmakmaaGreatZ32
namespace Go.Proofs.YtklnneiblmakmaaGreat
set_option maxRecDepth 100000
set_option maxHeartbeats 8000000
set_option linter.unusedVariables false
open Go.Proofs.Tryz
section
open Go.RowKit Go.Shelf
attribute [local go_sem] Oper.semAt_some
abbrev Hl := List (Int × (Int × Int))
def hv (p : Int × Int) : Value := .agg #[.int .i64 p.1, .int .u64 p.2]
def lkH (k : Int) : Hl → Int × Int
 | [] => (0, 0)
 | p :: l => if p.1 = k then p.2 else lkH k l
def updH (k : Int) (v : Int × Int) : Hl → Hl
 | [] => [(k, v)]
 | p :: l => if p.1 = k then (k, v) :: l else p :: updH k v l
theorem lk_upd (k : Int) (v : Int × Int) (j : Int) : ∀ l : Hl, lkH j (updH k v l) = if j = k then v else lkH j l
 | [] => by unfold updH lkH; by_cases q : k = j <;> simp [q, lkH]; intro e; exact absurd e.symm q
 | p :: l => by
  have ih := lk_upd k v j l
  unfold updH
  by_cases q : p.1 = k
  ·rw [if_pos q]
   by_cases r : j = k
   ·subst r; simp [lkH]
   ·have r' : ¬k = j := fun e => r e.symm
    have r2 : ¬p.1 = j := fun e => r (e.symm.trans q)
    simp [lkH, r, r', r2]
  ·rw [if_neg q]
   by_cases r : p.1 = j
   ·have : ¬j = k := fun e => q (r.trans e)
    simp [lkH, r, this]
   ·simp only [lkH, if_neg r]; exact ih
def fndI (k : Int) : Hl → Nat → Option (Nat × Value)
 | [], _ => none
 | p :: l, i => if p.1 = k then some (i, hv p.2) else fndI k l (i + 1)
def kv (e : MapEntry) : Value × Value := (e.key, e.val)
def ekv (p : Int × (Int × Int)) : Value × Value := (.int .u64 p.1, hv p.2)
theorem gkz (k : Int) (kd : IntKind) : ∀ (es : List MapEntry) (l : Hl) (i : Nat), es.map kv = l.map ekv → Instr.findNow (.int kd) (.int .u64 k) es i = some (fndI k l i)
 | [], [], i, _ => rfl
 | [], _ :: _, i, h => by cases h
 | _ :: _, [], i, h => by cases h
 | e :: es, p :: l, i, h => by
  simp only [List.map_cons, List.cons.injEq] at h
  obtain ⟨h1, h2⟩ := h
  have hk : e.key = .int .u64 p.1 := congrArg Prod.fst h1
  have hvl : e.val = hv p.2 := congrArg Prod.snd h1
  unfold Instr.findNow fndI
  rw [hk, hvl]
  by_cases q : p.1 = k
  ·subst q; simp [Instr.sameNow]
  ·have q' : ¬k = p.1 := fun e => q e.symm
   rw [if_neg q, ← gkz k kd es l (i + 1) h2]
   have q2 : (k == p.1) = false := by simpa using q'
   simp only [Instr.sameNow, q2, if_true]
theorem fnd_lk (k : Int) : ∀ (l : Hl) (i : Nat), (∀ j v, fndI k l i = some (j, v) → v = hv (lkH k l)) ∧ (fndI k l i = none → lkH k l = (0, 0))
 | [], i => ⟨fun j v h => (by cases h), fun _ => rfl⟩
 | p :: l, i => by
  obtain ⟨h1, h2⟩ := fnd_lk k l (i + 1)
  unfold fndI lkH
  by_cases q : p.1 = k
  ·rw [if_pos q, if_pos q]
   exact ⟨fun j v e => (by cases e; rfl), fun e => (by cases e)⟩
  ·rw [if_neg q, if_neg q]
   exact ⟨h1, h2⟩
theorem giz (k : Int) (v : Int × Int) : ∀ (es : List MapEntry) (l : Hl) (i : Nat), es.map kv = l.map ekv →
  (∀ j u, fndI k l i = some (j, u) → ∃ m, j = i + m ∧ (∃ e, es[m]? = some e ∧ e.key = .int .u64 k) ∧ (es.modify m fun (e : MapEntry) => { e with key := .int .u64 k, val := hv v }).map kv = (updH k v l).map ekv) ∧
  (fndI k l i = none → ∀ b, (es ++ [({ key := .int .u64 k, val := hv v, born := b } : MapEntry)]).map kv = (updH k v l).map ekv)
 | [], [], i, _ => ⟨fun j u h => (by cases h), fun _ b => rfl⟩
 | [], _ :: _, i, h => by cases h
 | _ :: _, [], i, h => by cases h
 | e :: es, p :: l, i, h => by
  simp only [List.map_cons, List.cons.injEq] at h
  obtain ⟨h1, h2⟩ := h
  have hk : e.key = .int .u64 p.1 := congrArg Prod.fst h1
  obtain ⟨g1, g2⟩ := giz k v es l (i + 1) h2
  unfold fndI updH
  by_cases q : p.1 = k
  ·rw [if_pos q, if_pos q]
   refine ⟨fun j u e' => ?_, fun e' => (by cases e')⟩
   cases e'
   refine ⟨0, rfl, ⟨e, rfl, by rw [hk, q]⟩, ?_⟩
   simp only [List.modify_zero_cons, List.map_cons, h2]
   rfl
  ·rw [if_neg q, if_neg q]
   refine ⟨fun j u e' => ?_, fun e' b => ?_⟩
   ·obtain ⟨m, hm, he, hq⟩ := g1 j u e'
    refine ⟨m + 1, by omega, by simpa using he, ?_⟩
    simp only [List.modify_succ_cons, List.map_cons, hq, h1]
   ·simp only [List.cons_append, List.map_cons, g2 e' b, h1]
def MapF (W : World) (M : Nat) (f : Int → Int × Int) : Prop := ∃ (es : Array MapEntry) (c : Nat) (l : Hl), W.heap[M]? = some (.map es c) ∧ es.toList.map kv = l.map ekv ∧ ∀ k, lkH k l = f k
theorem MapF.lt {W : World} {M : Nat} {f : Int → Int × Int} (h : MapF W M f) : M < W.heap.size := by
 obtain ⟨es, c, l, h1, _⟩ := h
 exact (Array.getElem?_eq_some_iff.1 h1).1
theorem MapF.block {W W' : World} {M : Nat} {f : Int → Int × Int} (h : MapF W M f) (k : W'.heap[M]? = W.heap[M]?) : MapF W' M f := by
 obtain ⟨es, c, l, h1, h2⟩ := h
 exact ⟨es, c, l, k.trans h1, h2⟩
theorem MapF.next {W W' : World} {M : Nat} {f : Int → Int × Int} (h : MapF W M f) (k : Below W.heap.size W W') : MapF W' M f := h.block (k.block M h.lt)
theorem vMz (e : Bool) (k : Int) (W : World) : (Instr.checkKey e 10000 22 (.int .u64 k)).run prog W = .ok () W := by
 show (Instr.checkKey e (9999 + 1) 22 (.int .u64 k)).run prog W = .ok () W
 generalize 9999 = n
 unfold Instr.checkKey
 simp [run_underlying underlying22, Result.andThen]
theorem zero_h (w : World) : (zeroValue 126).run prog w = .ok (hv (0, 0)) w := Tryz.zeroValue126 w
theorem uUz {W : World} {M : Nat} {f : Int → Int × Int} (h : MapF W M f) (k : Int) : (Instr.lookup 96 (.map (some M)) (.int .u64 k) false).run prog W = .ok (hv (f k)) W := by
 obtain ⟨es, c, l, h1, h2, h3⟩ := h
 have ho : (getObj M).run prog W = .ok (.map es c) W := by simp [getObj, Sem.run, h1]
 obtain ⟨g1, g2⟩ := fnd_lk k l 0
 have hf : (Instr.findKey 22 (.int .u64 k) es.toList).run prog W = .ok (fndI k l 0) W := by
  simp [Instr.findKey, run_underlying underlying22, Result.andThen, gkz k _ es.toList l 0 h2]
 rw [← h3 k]
 unfold Instr.lookup
 cases hc : fndI k l 0 with
 | none =>
  rw [hc] at hf
  simp [run_underlying underlying96, Result.andThen, ho, vMz, hf, g2 hc]
  rfl
 | some q =>
  obtain ⟨j, v⟩ := q
  rw [hc] at hf
  simp [run_underlying underlying96, Result.andThen, ho, vMz, hf, g1 j v hc]
theorem map_put {W : World} {M : Nat} {f : Int → Int × Int} (h : MapF W M f) (k : Int) (v : Int × Int) : ∃ o, (Instr.mapUpdate 96 (.map (some M)) (.int .u64 k) (hv v)).run prog W = .ok () (W.putObj M o) ∧ MapF (W.putObj M o) M fun j => if j = k then v else f j := by
 have hl := h.lt
 obtain ⟨es, c, l, h1, h2, h3⟩ := h
 have ho : (getObj M).run prog W = .ok (.map es c) W := by simp [getObj, Sem.run, h1]
 have hs : ∀ o, (setObj M o).run prog W = .ok () (W.putObj M o) := fun o => by simp [setObj, Sem.run, h1, World.putObj]
 obtain ⟨g1, g2⟩ := giz k v es.toList l 0 h2
 have hf : (Instr.findKey 22 (.int .u64 k) es.toList).run prog W = .ok (fndI k l 0) W := by
  simp [Instr.findKey, run_underlying underlying22, Result.andThen, gkz k _ es.toList l 0 h2]
 have h4 : ∀ j, lkH j (updH k v l) = if j = k then v else f j := fun j => by rw [lk_upd, h3]
 unfold Instr.mapUpdate
 cases hc : fndI k l 0 with
 | none =>
  rw [hc] at hf
  refine ⟨.map (es.push { key := .int .u64 k, val := hv v, born := c }) (c + 1), ?_, _, _, updH k v l, World.putObj_heap_same hl, ?_, h4⟩
  ·simp [run_underlying underlying96, Result.andThen, ho, vMz, hf, hs]
  ·rw [Array.toList_push]; exact g2 hc c
 | some q =>
  obtain ⟨j, u⟩ := q
  rw [hc] at hf
  obtain ⟨m, hm, ⟨e, he, hek⟩, hq⟩ := g1 j u hc
  obtain rfl : j = m := by omega
  have he' : es[j]? = some e := by simpa using he
  have hst : (Instr.keyThatStays (.int .u64 k) (.int .u64 k)).run prog W = .ok (.int .u64 k) W := by
   have : Instr.sameBits 10000 (.int .u64 k) (.int .u64 k) = true := by unfold Instr.sameBits; simp
   simp [Instr.keyThatStays, this]
  refine ⟨.map (es.modify j fun (e : MapEntry) => { e with key := .int .u64 k, val := hv v }) c, ?_, _, _, updH k v l, World.putObj_heap_same hl, ?_, h4⟩
  ·simp [run_underlying underlying96, Result.andThen, ho, vMz, hf, hs, he', hek, hst]
  ·rw [Array.toList_modify]; exact hq
end
section
open Go.RowKit Go.Shelf
attribute [local go_sem] Oper.semAt_some
theorem kvz (k : IntKind) (x : Int) : (Value.int k x).cells = #[.int k x] := rfl
theorem k7z (k : IntKind) (x : Int) : (Value.int k x).oneCell' = true := rfl
theorem x9z (k k' : IntKind) (x y : Int) : (#[.int k x, .int k' y] : Array Value).all (·.oneCell') = true := by simp [k7z]
theorem xoz (a b a' b' : Value) : (#[a, b] : Array Value).size = (#[a', b'] : Array Value).size := rfl
theorem y8z (a b : Value) : 0 < (#[a, b] : Array Value).size := Nat.zero_lt_succ _
theorem two_lt1 (a b : Value) : 1 < (#[a, b] : Array Value).size := Nat.succ_lt_succ (Nat.zero_lt_succ _)
section
variable {F : Fence} (hF : ∀ f, F.fn f) {N : Nat} {ops : Array Oper} {rest : List Oper} {op : Oper} {a : Act} {Q : Exit → Act → World → Prop} {w w' : World}
include hF
theorem xcz (hw : Region.wanted op (yielded ops a.tmps) = true) (x y : Operand) (ho : op.op = .lookup 96 x y false) (M : Nat) (hx : a.eval x = .map (some M)) (k : Int) (hy : a.eval y = .int .u64 k) (f : Int → Int × Int) (hm : MapF w M f)
  (h : wpListIn F N prog ops Q rest (a.put op.dst (.agg #[.int .i64 (f k).1, .int .u64 (f k).2])) w) : wpListIn F N prog ops Q (op :: rest) a w := by
 refine klz hF (by rw [ho]; intro c hc; cases hc) hw ?_ h
 unfold execOp
 simp [ho, hx, hy, uUz hm k]
 rfl
theorem u9z (hw : Region.wanted op (yielded ops a.tmps) = true) (x y z : Operand) (ho : op.op = .mapUpdate 96 x y z) (M : Nat) (hx : a.eval x = .map (some M)) (k : Int) (hy : a.eval y = .int .u64 k) (v : Int × Int) (hz : a.eval z = .agg #[.int .i64 v.1, .int .u64 v.2]) (f : Int → Int × Int) (hm : MapF w M f)
  (h : ∀ o, MapF (w.putObj M o) M (fun j => if j = k then v else f j) → wpListIn F N prog ops Q rest (a.put op.dst undef) (w.putObj M o)) : wpListIn F N prog ops Q (op :: rest) a w := by
 obtain ⟨o, h1, h2⟩ := map_put hm k v
 rw [show hv v = .agg #[.int .i64 v.1, .int .u64 v.2] from rfl] at h1
 refine jgz hF (by rw [ho]; intro c hc; cases hc) hw (w' := w.putObj M o) ?_ (h o h2)
 unfold execOp
 simp [ho, hx, hy, hz, h1]
theorem inL_make (hw : Region.wanted op (yielded ops a.tmps) = true) (t : TypeId) (ho : op.op = .makeMap t none)
  (h : ∀ M W, Hid (w.heap.size = M ∧ W.heap.size = M + 1) → MapF W M (fun _ => (0, 0)) → Below w.heap.size w W → wpListIn F N prog ops Q rest (a.put op.dst (.map (some M))) W) : wpListIn F N prog ops Q (op :: rest) a w := by
 refine klz hF (by rw [ho]; intro c hc; cases hc) hw (w' := w.alloc (.map #[] 0)) (v := .map (some w.heap.size)) ?_ (h _ _ ⟨rfl, by simp⟩ ⟨#[], 0, [], World.alloc_heap_new w _, rfl, fun _ => rfl⟩ ((Below.refl _ w).alloc (Nat.le_refl _) _))
 unfold execOp
 simp [ho, Instr.makeMap, newObj]
 rfl
theorem wDz (hw : Region.wanted op (yielded ops a.tmps) = true) (ty : TypeId) (x y : Operand) (ho : op.op = .store ty x y) (B j : Nat) (hx : a.eval x = .pointer (some ⟨B, j, none⟩)) (v : Value) (hy : a.eval y = v) (hv : v.cells = #[v]) (C : Array Value) (t : TypeId) (hB : Blk w B C t)
  (hi : (prog.info? ty).map (·.size) = some 1) (hs : j < C.size) (h1 : v.oneCell' = true)
  (h : ∀ W, Blk W B (C.setIfInBounds j v) t → Oth B w W → wpListIn F N prog ops Q rest (a.put op.dst undef) W) : wpListIn F N prog ops Q (op :: rest) a w := by
 have ht : w.there B j 1 := fun i hi => ⟨by rw [hB.cell, Array.getElem?_eq_getElem (by omega)]; rfl, hB.frozen _⟩
 have := run_storeCells_cells (P := prog) B j [v] 0 w (fun i hi => by simpa using (ht i (by simpa using hi)).1) (fun i hi => by simpa using (ht i (by simpa using hi)).2) (fun u hu => by simp at hu; rw [hu]; exact h1)
 cases hq : prog.info? ty with
 | none => simp [hq] at hi
 | some i =>
  have hs : i.size = 1 := by simpa [hq] using hi
  simp only [Nat.add_zero] at this
  have e : (storeVar ty ⟨B, j, none⟩ v).run prog w = .ok () (w.setCells B j [v]) := by simp [storeVar, sizeOf, typeInfo, hq, hv, hs, this]
  refine jgz hF (by rw [ho]; intro c hc; cases hc) hw (w' := w.setCells B j [v]) ?_ (h _ (hB.set j v) (Oth.setCell w B j v))
  unfold execOp
  simp only [ho, hx, hy, Instr.storeAt, Instr.sureAddr, Sem.run_bind, Sem.run_pure, Result.andThen_ok, e]
end
def stpH (d : Int) (f : Int → Int × Int) (i : Int) : Int → Int × Int := fun k => if k = i then ((f i).1 + 1, if (f i).1 = 0 then d else (f i).2) else f k
def stpD (X : List Ob) (f : Int → Int × Int) (d : Ob) : Int → Int × Int := ((hitO X d.links).map fun m => (oat X m).id).foldl (stpH d.id) f
def hldF (X : List Ob) : Int → Int × Int := X.foldl (stpD X) fun _ => (0, 0)
theorem ucz {d : Int} {c : Int} : ∀ (l : List Int) (f : Int → Int × Int), (∀ i, 0 ≤ (f i).1 ∧ (f i).1 ≤ c) → ∀ i, 0 ≤ (l.foldl (stpH d) f i).1 ∧ (l.foldl (stpH d) f i).1 ≤ c + l.length
 | [], f, h, i => by simpa using h i
 | a :: l, f, h, i => by
  have h2 : ∀ i, 0 ≤ (stpH d f a i).1 ∧ (stpH d f a i).1 ≤ c + 1 := fun j => by
   have h3 := h j
   have h4 := h a
   unfold stpH
   split <;> (try dsimp only) <;> omega
  have := ucz (d := d) (c := c + 1) l (stpH d f a) h2 i
  rw [List.foldl_cons, List.length_cons]
  omega
theorem hld_le {X : List Ob} : ∀ (l : List Ob) (f : Int → Int × Int) (c : Int), (∀ x ∈ l, x.links.length < 4294967296) → (∀ i, 0 ≤ (f i).1 ∧ (f i).1 ≤ c) → ∀ i, 0 ≤ (l.foldl (stpD X) f i).1 ∧ (l.foldl (stpD X) f i).1 ≤ c + 4294967296 * l.length
 | [], f, c, _, h, i => by simpa using h i
 | a :: l, f, c, hl, h, i => by
  have h1 : (hitO X a.links).length ≤ a.links.length := List.length_filterMap_le ..
  have h2 := hl a (List.mem_cons_self ..)
  have h3 : ∀ i, 0 ≤ (stpD X f a i).1 ∧ (stpD X f a i).1 ≤ c + 4294967296 := fun j => by
   have := ucz (d := a.id) (c := c) ((hitO X a.links).map fun m => (oat X m).id) f h j
   rw [List.length_map] at this
   unfold stpD
   omega
  have := hld_le (X := X) l (stpD X f a) (c + 4294967296) (fun x hx => hl x (List.mem_cons_of_mem _ hx)) h3 i
  rw [List.foldl_cons, List.length_cons]
  omega
theorem hld_succ {X : List Ob} {k : Nat} (h : k < X.length) (f : Int → Int × Int) : (X.take (k + 1)).foldl (stpD X) f = stpD X ((X.take k).foldl (stpD X) f) (oat X k) := by
 have e : oat X k = X[k] := by unfold oat; rw [List.getD_eq_getElem?_getD, List.getElem?_eq_getElem h]; rfl
 rw [List.take_add_one, List.getElem?_eq_getElem h, Option.toList_some, List.foldl_append, e]
 rfl
theorem kCz {β : Type} {D : Nat → Prop} {w0 : World} {B : Nat} (hD : ∀ b, D b → b < B) (hB : B ≤ w0.heap.size) : OwnFrom B (fun (_ : β) W => Keeps D w0 W) := fun s X Y row hs hg hr =>
 ⟨Nat.le_trans hs.1 hg.size, fun b hb => (hg.block b (Nat.lt_of_lt_of_le (hD b hb) (Nat.le_trans hB hs.1)) (fun e => by have := (hr b e.symm).1; have := hD b hb; omega)).trans (hs.2 b hb)⟩
theorem vzz {β : Type} {M B : Nat} (hM : M < B) (f : β → Int → Int × Int) : OwnFrom B (fun s W => MapF W M (f s)) := fun s X Y row hs hg hr =>
 hs.block (hg.block M hs.lt (fun e => by have := (hr M e.symm).1; omega))
def mks (Ds : List Nat) : List Deferred := Ds.map fun D => { target := .collected D, args := #[] }
theorem kOz {F : Fence} {n : Nat} {fn : Func} {tmps : Array Value} {R : Ending → World → Prop} {B : Nat} : ∀ (Ds : List Nat) (W : World), Ds.Nodup → (∀ D ∈ Ds, B ≤ D ∧ W.heap[D]? = some (.deferred (some []))) →
  (∀ W', Below B W W' → (∀ b, b ∉ Ds → W'.heap[b]? = W.heap[b]?) → LeavesInM F n prog fn tmps R [] .returning W') → LeavesInM F n prog fn tmps R (mks Ds) .returning W
 | [], W, _, _, h => h W (Below.refl _ _) fun _ _ => rfl
 | D :: Ds, W, hn, hD, h => by
  obtain ⟨hb, hK⟩ := hD D (List.mem_cons_self ..)
  obtain ⟨hn1, hn2⟩ := List.nodup_cons.1 hn
  refine ⟨by simp, .inl ⟨D, W.putObj D (.deferred none), rfl, run_takeDeferred hK, ?_⟩⟩
  have ho : ∀ b, b ≠ D → (W.putObj D (.deferred none)).heap[b]? = W.heap[b]? := fun b hb => World.putObj_heap_other hb
  have hbl : Below B W (W.putObj D (.deferred none)) := ⟨rfl, rfl, rfl, by simp [World.putObj], fun k hk => ho k (by omega)⟩
  refine kOz Ds _ hn2 (fun E hE => ⟨(hD E (List.mem_cons_of_mem _ hE)).1, (ho E (fun e => hn1 (e ▸ hE))).trans (hD E (List.mem_cons_of_mem _ hE)).2⟩) fun W' k1 k2 => ?_
  exact h W' (hbl.trans k1) fun b hb => (k2 b (fun e => hb (List.mem_cons_of_mem _ e))).trans (ho b (fun e => hb (e ▸ List.mem_cons_self ..)))
end
section
open Go.RowKit Go.Shelf
attribute [local go_sem] Oper.semAt_some
def WdO (x : Ob) : Prop := (0 ≤ x.id ∧ x.id < 18446744073709551616) ∧ (0 ≤ x.th.lo ∧ x.th.lo < 18446744073709551616) ∧ (0 ≤ x.th.hi ∧ x.th.hi < 18446744073709551616)
def ownO (key : Nat) (X : List Ob) (o : Ob) : Bool := (List.range X.length).all fun j => ownN key o.th.lo.toNat o.th.hi.toNat o.id (oat X j).kind (oat X j).id.toNat (oat X j).th.lo.toNat (oat X j).th.hi.toNat
theorem jOz {w : World} {t ro : Int} {key : Nat} {ao : Option Addr} {n cap : Nat} {X : List Ob} {Cf : Nat → Array Value} {C : Array Value} {o : Ob} (h : ObsF (LtN w) (LtN w) w ao n cap X Cf) (hw : ∀ x ∈ X, WdO x) (ho : ObD (LtN w) w C o) (hwo : WdO o) : Calls prog 99 #[.agg #[.int .i64 t, .int .u64 (key : Int), .int .u64 ro, .slice ao n cap], .agg C] w fun e w' => e = .returned (.bool (ownO key X o)) ∧ Below w.heap.size w w' := by
 have hn : Hid (X.length = n) := h.1
 have hz := ho.size
 have hzv : (prog.info? 74).map (·.size) = some (#[.int .i64 t, .int .u64 (key : Int), .int .u64 ro, .slice ao n cap] : Array Value).size := by kernel_rfl
 have k1 : (#[.int .i64 t, .int .u64 (key : Int), .int .u64 ro, .slice ao n cap] : Array Value)[1]? = some (.int .u64 (key : Int)) := rfl
 have e1 : ((o.th.lo.toNat : Nat) : Int) = o.th.lo := Int.toNat_of_nonneg hwo.2.1.1
 have e2 : ((o.th.hi.toNat : Nat) : Int) = o.th.hi := Int.toNat_of_nonneg hwo.2.2.1
 have hV : C.extract 37 (37 + 2) = #[.int .u64 ((o.th.lo.toNat : Nat) : Int), .int .u64 ((o.th.hi.toNat : Nat) : Int)] := by rw [e1, e2]; exact ext2 ho.th.lo ho.th.hi
 have hr : Hid (ownO key X o = (List.range n).all fun j => ownN key o.th.lo.toNat o.th.hi.toNat o.id (oat X j).kind (oat X j).id.toNat (oat X j).th.lo.toNat (oat X j).th.hi.toNat) := by show ownO key X o = _; unfold ownO; rw [hn.out]
 rw [hr.out]
 have c0 := ho.id
 obtain ⟨a, ha⟩ : ∃ a, Hid (o.th.lo.toNat = a) := ⟨_, rfl⟩
 obtain ⟨b, hb⟩ : ∃ b, Hid (o.th.hi.toNat = b) := ⟨_, rfl⟩
 rw [ha.out, hb.out] at hV ⊢
 have hev := fun (W : World) (g : Nat) (lb : Array Value) (P : Nat → Bool) (hk : Below w.heap.size w W) => gpz (t := t) (ke := (key : Int)) (ro := ro) (g := g) (lb := lb) (P := P) (h.next hk)
 obtain ⟨G, hG⟩ : ∃ G : Array Value, Hid (G = #[.int .i64 t, .int .u64 (key : Int), .int .u64 ro, .slice ao n cap]) := ⟨_, rfl⟩
 rw [← hG.out] at hzv k1 hev
 rw [← hG.out]
 clear e1 e2 hr
 go_enter func99, ntmps99
 go_wp2_with (first
  | (with_reducible refine qdz rfl 74 _ rfl G rfl ?_; intro B2 W2 hN2 hB2 hk)
  | (with_reducible refine qdz rfl 43 _ rfl C rfl ?_; intro B3 W3 hN3 hB3 hk3; replace hB2 := hB2.next hk3; replace hk := btz hk hk3)
  | (with_reducible refine qoz (by kernel_rfl) _ _ rfl B3 37 rfl 2 C _ hB3 #[.int .u64 (a : Int), .int .u64 (b : Int)] hV (by omega) _ underlying36 (by kernel_rfl) (by kernel_rfl) ?_)
  | ((with_reducible refine qcz rfl _ rfl #[.int .u64 0, .int .u64 0] Tryz.zeroValue36 ?_); intro R W4 hN4 hR4 hk4; have hne : B2 ≠ R ∧ B3 ≠ R := (by have := hN4.out; have := hB2.lt; have := hB3.lt; omega); have hwR : w.heap.size ≤ R := (by have := hN4.out; have := hk.size; omega); replace hB2 := hB2.next hk4; replace hB3 := hB3.next hk4; replace hk := btz hk hk4)
  | ((with_reducible refine qaz rfl _ _ _ rfl R rfl #[.int .u64 (a : Int), .int .u64 (b : Int)] rfl _ hR4 (by kernel_rfl) (xoz _ _ _ _) (x9z _ _ _ _) ?_); intro W5 hR5 o5; have hk5 := o5.below w.heap.size w hwR hk; have hB25 : Blk W5 B2 G 74 := (o5.block B2 hne.1).trans hB2; have hB35 : Blk W5 B3 C 43 := (o5.block B3 hne.2).trans hB3; have hP := fun (j : Nat) (W : World) (hj : j < n) (q : Below W5.heap.size W5 W) => own1_v (key := key) (h.2.2.2.2 j hj).size (by rw [Int.toNat_of_nonneg (hw _ (qXz (by rw [hn.out]; exact hj))).1.1]; exact (h.2.2.2.2 j hj).id) (h.2.2.2.2 j hj).kind (by rw [Int.toNat_of_nonneg (hw _ (qXz (by rw [hn.out]; exact hj))).2.1.1]; exact (h.2.2.2.2 j hj).th.lo) (by rw [Int.toNat_of_nonneg (hw _ (qXz (by rw [hn.out]; exact hj))).2.2.1]; exact (h.2.2.2.2 j hj).th.hi) (by have := (hw _ (qXz (show j < X.length by rw [hn.out]; exact hj))).1; omega) (hB35.next q) c0 (hR5.next q) (hB25.next q) k1; have hcall := hev W5 122 #[.pointer (some ⟨B3, 0, none⟩), .pointer (some ⟨R, 0, none⟩), .pointer (some ⟨B2, 0, none⟩)] (fun j => ownN key a b o.id (oat X j).kind (oat X j).id.toNat (oat X j).th.lo.toNat (oat X j).th.hi.toNat) hk5 (enters_of func122 (by kernel_rfl) rfl) (fun j W hj q => hP j W hj q))
  | (with_reducible refine qez (by kernel_rfl) _ _ rfl B2 rfl G hB25 _ underlying74 (by kernel_rfl) hzv ?_)
  | (go_at_call 66; (with_reducible refine hcall.mono ?_); rintro e w6 ⟨rfl, hb6⟩))
 go_ret
 exact ⟨rfl, btz hk5 hb6⟩
end
section
open Go.ChangeShapes Go.WideShapes Go.ChangeAt Go.RowKit
section
variable {H : Type} {enc : TypeId × Value → H} {w : World} {m : Nat} {y : DataW H × List MemPlace}
theorem yiz {cs : List Value} {o : Nat} {t : TypeId} {k : IntKind} (ho : o < cs.length) (hc : prog.cellsOf t = 1) (hu : prog.underlying t = some (.int k)) (h : DataW.trod enc prog w 0 (fun _ => true) true m t ((cs.drop o).take (prog.cellsOf t)) = some y) : ∃ n, cs[o]? = some (.int k n) ∧ (Lit.int k n).wf = true := by
 rw [hc, xYz ho] at h
 obtain ⟨n, e, _, hw⟩ := DataW.trod_int hu h
 simp at e
 exact ⟨n, by rw [List.getElem?_eq_getElem ho, e], hw⟩
theorem vLz {a : Int} (h : (Lit.int .u64 a).wf = true) : 0 ≤ a ∧ a < 18446744073709551616 := by
 simp [Lit.wf, IntKind.min, IntKind.max, IntKind.bits, IntKind.signed] at h
 omega
theorem span_wf {cs : List Value} (h : DataW.trod enc prog w 0 (fun _ => true) true m 36 cs = some y) : ∃ a b, cs[0]? = some (.int .u64 a) ∧ cs[1]? = some (.int .u64 b) ∧ (0 ≤ a ∧ a < 18446744073709551616) ∧ (0 ≤ b ∧ b < 18446744073709551616) := by
 obtain ⟨xs, m', _, _, hl, hx, hg⟩ := DataW.trod_struct underlying36 h
 rw [show prog.cellsOf 36 = 2 from by kernel_rfl] at hl
 obtain ⟨y0, y1, rfl⟩ : ∃ y0 y1, xs = [y0, y1] := by
  match xs, hx with
  | [y0, y1], _ => exact ⟨y0, y1, rfl⟩
 have t0 : DataW.trod enc prog w 0 (fun _ => true) true m' 22 ((cs.drop 0).take (prog.cellsOf 22)) = some y0 := hg 0 _ rfl
 have t1 : DataW.trod enc prog w 0 (fun _ => true) true m' 22 ((cs.drop 1).take (prog.cellsOf 22)) = some y1 := hg 1 _ rfl
 obtain ⟨a, ea, wa⟩ := yiz (o := 0) (by rw [hl]; omega) (by kernel_rfl) underlying22 t0
 obtain ⟨b, eb, wb⟩ := yiz (o := 1) (by rw [hl]; omega) (by kernel_rfl) underlying22 t1
 exact ⟨a, b, ea, eb, vLz wa, vLz wb⟩
theorem viz {cs : List Value} {x : Ob} {D : Nat → Prop} (h : DataW.trod enc prog w 0 (fun _ => true) true m 43 cs = some y) (hx : ObD D w cs.toArray x) : WdO x := by
 obtain ⟨xs, m', _, _, hl, hxs, hg⟩ := DataW.trod_struct underlying43 h
 rw [show prog.cellsOf 43 = 51 from by kernel_rfl] at hl
 obtain ⟨y0, y1, y2, y3, y4, y5, y6, y7, y8, y9, y10, y11, rfl⟩ : ∃ y0 y1 y2 y3 y4 y5 y6 y7 y8 y9 y10 y11, xs = [y0, y1, y2, y3, y4, y5, y6, y7, y8, y9, y10, y11] := by
  match xs, hxs with
  | [y0, y1, y2, y3, y4, y5, y6, y7, y8, y9, y10, y11], _ => exact ⟨y0, y1, y2, y3, y4, y5, y6, y7, y8, y9, y10, y11, rfl⟩
 have t0 : DataW.trod enc prog w 0 (fun _ => true) true m' 22 ((cs.drop 0).take (prog.cellsOf 22)) = some y0 := hg 0 _ rfl
 obtain ⟨id, eid, wid⟩ := yiz (o := 0) (by rw [hl]; omega) (by kernel_rfl) underlying22 t0
 have t8 : DataW.trod enc prog w 0 (fun _ => true) true m' 39 ((cs.drop 8).take (prog.cellsOf 39)) = some y8 := hg 8 _ rfl
 rw [show prog.cellsOf 39 = 35 from by kernel_rfl] at t8
 obtain ⟨zs, m2, _, _, hl2, hzs, hg2⟩ := DataW.trod_struct underlying39 t8
 obtain ⟨z0, z1, z2, z3, z4, z5, z6, z7, z8, z9, z10, rfl⟩ : ∃ z0 z1 z2 z3 z4 z5 z6 z7 z8 z9 z10, zs = [z0, z1, z2, z3, z4, z5, z6, z7, z8, z9, z10] := by
  match zs, hzs with
  | [z0, z1, z2, z3, z4, z5, z6, z7, z8, z9, z10], _ => exact ⟨z0, z1, z2, z3, z4, z5, z6, z7, z8, z9, z10, rfl⟩
 have t9 : DataW.trod enc prog w 0 (fun _ => true) true m2 36 ((((cs.drop 8).take 35).drop 29).take (prog.cellsOf 36)) = some z9 := hg2 9 _ rfl
 rw [show prog.cellsOf 36 = 2 from by kernel_rfl] at t9
 obtain ⟨a, b, ea, eb, wa, wb⟩ := span_wf t9
 have c0 : (((((cs.drop 8).take 35).drop 29).take 2)[0]?) = cs[37]? := by simp [List.getElem?_drop]
 have c1 : (((((cs.drop 8).take 35).drop 29).take 2)[1]?) = cs[38]? := by simp [List.getElem?_drop]
 rw [c0] at ea
 rw [c1] at eb
 have i1 : cs[0]? = some (.int .u64 x.id) := by simpa using hx.id
 have i2 : cs[37]? = some (.int .u64 x.th.lo) := by simpa using hx.th.lo
 have i3 : cs[38]? = some (.int .u64 x.th.hi) := by simpa using hx.th.hi
 rw [i1] at eid
 rw [i2] at ea
 rw [i3] at eb
 cases eid
 cases ea
 cases eb
 exact ⟨vLz wid, wa, wb⟩
theorem jUz {ao : Option Addr} {n cap : Nat} {d : DataW H} {ps : List MemPlace} (h : DataW.Trod enc prog w 0 (fun _ => true) true 23 (.slice ao n cap) d ps) : ∃ l, Obs w ao n cap l ∧ ∀ x ∈ l, WdO x := by
 obtain ⟨fuel, hf⟩ := h
 have c51 : prog.cellsOf 43 = 51 := by kernel_rfl
 rcases Go.Deep.open_slice underlying23 hf with ⟨e, _⟩ | ⟨a, len, cap', m, n', D, Pl, e, hb, hl, hm, hmm, hdd, hx⟩
 ·simp [Value.cells] at e
  obtain ⟨rfl, rfl, rfl⟩ := e
  exact ⟨[], ObsD.nil _ _ _, fun x hx => absurd hx (by simp)⟩
 ·simp [Value.cells] at e
  obtain ⟨rfl, rfl, rfl⟩ := e
  have hmc : m = cap := by rw [hmm]; rfl
  have key : ∀ i, ∃ (x : Ob) (C : Array Value), i < n → (ObD (LtN w) w C x ∧ WdO x) ∧ ∀ j v, C[j]? = some v → w.cell? ((a.add (i * 51)).add j) = some v := by
   intro i
   by_cases hi : i < n
   ·obtain ⟨cs, h1, h2⟩ := hx i (by omega)
    rw [c51] at h1
    obtain ⟨_, hlen, hcell⟩ := World.cells?_some h1
    obtain ⟨x, hxx⟩ := kjz h2
    refine ⟨x, cs.toArray, fun _ => ⟨⟨hxx, viz h2 hxx⟩, fun j v hv => ?_⟩⟩
    have hv' : cs[j]? = some v := by simpa using hv
    have hj : j < 51 := by rw [← hlen]; exact (List.getElem?_eq_some_iff.1 hv').1
    rw [hcell j hj, hv']
   ·exact ⟨zOb, #[], fun h => absurd h hi⟩
  have hkey : ∀ i, i < n → ∃ C, (ObD (LtN w) w C (Classical.choose (key i)) ∧ WdO (Classical.choose (key i))) ∧ ∀ j v, C[j]? = some v → w.cell? ((a.add (i * 51)).add j) = some v := fun i hi => by
   obtain ⟨C, hC⟩ := Classical.choose_spec (key i)
   exact ⟨C, hC hi⟩
  refine ⟨(List.range n).map fun i => Classical.choose (key i), ⟨by simp, hl, ⟨by unfold maxLen at hm; omega, fun e => by cases e⟩, fun hn => ?_⟩, fun x hx => ?_⟩
  ·obtain ⟨v0, z⟩ : ∃ v0, w.cell? ((a.add (0 * 51)).add 0) = some v0 := by
    obtain ⟨C, hC, hr⟩ := hkey 0 hn
    exact ⟨_, hr 0 _ hC.1.id⟩
   have ha0 : (a.add (0 * 51)).add 0 = a := by simp [Addr.add]
   rw [ha0] at z
   obtain ⟨hea, hadd⟩ := PgM.spotK z
   refine ⟨a.block, a.off, by rw [← hea], World.block_lt_of_cell? w _ z, fun i hi => ?_⟩
   have hg : oat ((List.range n).map fun i => Classical.choose (key i)) i = Classical.choose (key i) := by
    unfold oat; rw [List.getD_eq_getElem?_getD, List.getElem?_eq_getElem (by simpa using hi)]; simp
   obtain ⟨C, hC, hr⟩ := hkey i hi
   refine ⟨C, by rw [hg]; exact hC.1, fun j v hv => ?_⟩
   have q := hr j v (by simpa using hv)
   rw [hadd, Addr.add_mid] at q
   exact q
  ·obtain ⟨i, hi, rfl⟩ := List.mem_map.1 hx
   obtain ⟨C, hC, _⟩ := hkey i (List.mem_range.1 hi)
   exact hC.2
theorem kyz {base : Nat} {v : Value} {d : DataW H} {ps : List MemPlace} (hv : Value.okWide prog w .any base 25 v)
  (h : DataW.Trod enc prog w 0 (fun _ => true) true 25 v d ps) : ∃ (t : Int) (ke : Nat) (ro : Int) (ao : Option Addr) (n cap : Nat) (X : List Ob), v = .agg #[.int .i64 t, .int .u64 (ke : Int), .int .u64 ro, .slice ao n cap] ∧ (Obs w ao n cap X ∧ ∀ x ∈ X, WdO x) := by
 unfold Value.okWide at hv
 rw [underlying25] at hv
 obtain ⟨cs, rfl, hs, _⟩ := hv
 rw [show prog.cellsOf 25 = 4 from by kernel_rfl] at hs
 obtain ⟨fuel, hf⟩ := h
 obtain ⟨x0, x1, x2, x3, rfl⟩ : ∃ x0 x1 x2 x3, cs = #[x0, x1, x2, x3] := by
  match cs, hs with
  | ⟨[x0, x1, x2, x3]⟩, _ => exact ⟨x0, x1, x2, x3, rfl⟩
 have hf' : DataW.trod enc prog w 0 (fun _ => true) true fuel 25 [x0, x1, x2, x3] = some (d, ps) := hf
 obtain ⟨xs, m', _, _, hl, hx, hg⟩ := DataW.trod_struct underlying25 hf'
 obtain ⟨y0, y1, y2, y3, rfl⟩ : ∃ y0 y1 y2 y3, xs = [y0, y1, y2, y3] := by
  match xs, hx with
  | [y0, y1, y2, y3], _ => exact ⟨y0, y1, y2, y3, rfl⟩
 obtain ⟨t, et⟩ := wSz (t := 3) (o := 0) (y := y0) (by simp) (by kernel_rfl) underlying3 (hg 0 _ rfl)
 obtain ⟨ke, eke, wke⟩ := yiz (t := 22) (o := 1) (y := y1) (by simp) (by kernel_rfl) underlying22 (hg 1 _ rfl)
 obtain ⟨ro, ero⟩ := wSz (t := 22) (o := 2) (y := y2) (by simp) (by kernel_rfl) underlying22 (hg 2 _ rfl)
 obtain ⟨ao, n, cap, ea, hT⟩ := jkz (t := 23) (o := 3) (y := y3) (by simp) (by kernel_rfl) underlying23 (hg 3 _ rfl)
 obtain ⟨X, hX, hW⟩ := jUz hT
 have hk := vLz wke
 obtain ⟨kn, rfl⟩ : ∃ kn : Nat, ke = kn := ⟨ke.toNat, by omega⟩
 simp at et eke ero ea
 subst et eke ero ea
 exact ⟨t, kn, ro, ao, n, cap, X, rfl, hX, hW⟩
end
end
end Go.Proofs.YtklnneiblmakmaaGreat
