/-
 PROVED HERE: what a view's ownNumbers returns when it is called (contracts over this translation); how a map from words to . What is asked stands at each.
-/
import Derived.Test.YthnpckhmdnjikaaGreatZ8
import Derived.Test.YthnpckhmdnjikaaGreatZ9
import Derived.Test.YthnpckhmdnjikaaGreatZ11
import Derived.Test.YthnpckhmdnjikaaGreatZ15
namespace Go.Proofs.YthnpckhmdnjikaaGreat
set_option maxRecDepth 100000
set_option maxHeartbeats 8000000
set_option linter.unusedVariables false
open Go.Proofs.Tryz
section
open Go.RowKit Go.Shelf
attribute [local go_sem] Oper.semAt_some
def ownN (key a b : Nat) (tid : Int) (kd : Int) (id c d : Nat) : Bool := (decide (kd ≠ 4) || (decide ((id : Int) = tid) || SrM.apartB a b c d)) && !SrM.hasK key a b id
theorem own1_v {w : World} {C Ct G : Array Value} {Bt Bs Bv key a b m c d : Nat} {tid kd : Int} (hz : C.size = 51) (c0 : C[0]? = some (.int .u64 (m : Int))) (c1 : C[1]? = some (.int .i64 kd)) (c37 : C[37]? = some (.int .u64 (c : Int))) (c38 : C[38]? = some (.int .u64 (d : Int))) (hm : m < 18446744073709551616)
  (ht : Blk w Bt Ct 43) (e0 : Ct[0]? = some (.int .u64 tid)) (hs : Blk w Bs #[.int .u64 (a : Int), .int .u64 (b : Int)] 36) (hv : Blk w Bv G 68) (k0 : G[1]? = some (.int .u64 (key : Int))) :
  Calls prog 109 #[.agg C, .pointer (some ⟨Bt, 0, none⟩), .pointer (some ⟨Bs, 0, none⟩), .pointer (some ⟨Bv, 0, none⟩)] w fun e w' => e = .returned (.bool (ownN key a b tid kd m c d)) ∧ Below w.heap.size w w' := by
 have hV : C.extract 37 (37 + 2) = #[.int .u64 (c : Int), .int .u64 (d : Int)] := ext2 c37 c38
 replace e0 := (ht.cell 0).trans e0
 replace k0 := (hv.cell 1).trans k0
 have hr : Hid (ownN key a b tid kd m c d = ((decide (kd ≠ 4) || (decide ((m : Int) = tid) || SrM.apartB a b c d)) && !SrM.hasK key a b m)) := rfl
 rw [hr.out]
 by_cases hk4 : kd = 4
 subst hk4
 have hq : decide ((4 : Int) ≠ 4) = false := rfl
 rw [hq, Bool.false_or]
 by_cases hid : (m : Int) = tid
 subst hid
 have hq : decide ((m : Int) = (m : Int)) = true := decide_eq_true rfl
 rw [hq, Bool.true_or, Bool.true_and]
 rotate_left
 have hq : decide ((m : Int) = tid) = false := decide_eq_false hid
 have hq2 : ((m : Int) == tid) = false := by simpa using hid
 rw [hq, Bool.false_or]
 cases hap : SrM.apartB a b c d
 rw [Bool.false_and]
 rotate_left
 rw [Bool.true_and]
 rotate_left
 have hq : decide (kd ≠ 4) = true := decide_eq_true hk4
 have hq2 : (kd == 4) = false := by simpa using hk4
 have hq3 : (kd != 4) = true := by simpa using hk4
 rw [hq, Bool.true_or, Bool.true_and]
 rotate_left
 all_goals go_enter func109, ntmps109
 all_goals go_wp2_with (first
  | go_skip
  | (with_reducible refine qcz rfl 43 _ rfl C rfl ?_; intro B4 W hN hb hk; replace c0 := (hb.cell 0).trans c0; replace c1 := (hb.cell 1).trans c1; replace e0 := (hk.cell (p := ⟨Bt, 0, none⟩) ht.lt).trans e0; replace k0 := (hk.cell (p := ⟨Bv, 1, none⟩) hv.lt).trans k0; replace hs := hs.next hk; have hkW := hk.size)
  | (with_reducible refine qdz (by with_unfolding_all rfl) _ _ rfl Bs rfl #[.int .u64 (a : Int), .int .u64 (b : Int)] hs _ underlying36 (by kernel_rfl) (by kernel_rfl) ?_)
  | (with_reducible refine qiz (by kernel_rfl) _ _ rfl B4 37 rfl 2 C _ hb #[.int .u64 (c : Int), .int .u64 (d : Int)] hV (by omega) _ underlying36 (by kernel_rfl) (by kernel_rfl) ?_)
  | (go_at_call 110; (with_reducible refine (SrM.apart_any a b c d _).mono ?_); rintro e w1 ⟨rfl, hb1⟩; replace hk := btz hk hb1; replace hs := hs.next hb1; replace k0 := (hb1.cell (p := ⟨Bv, 1, none⟩) (ltz hv.lt hkW)).trans k0; replace c0 := (hb1.cell (p := ⟨B4, 0, none⟩) hb.lt).trans c0; rw [hap])
  | (go_at_call 111; (with_reducible refine (SrM.Has_any hm _).mono ?_); rintro e w2 ⟨rfl, hb2⟩; replace hk := btz hk hb2))
 ·go_ret
  exact ⟨rfl, hk⟩
 ·go_ret
  exact ⟨rfl, hk⟩
 ·go_ret
  exact ⟨rfl, hk⟩
 ·go_ret
  exact ⟨rfl, hk⟩
abbrev Hl := List (Int × (Int × Int))
def hv (p : Int × Int) : Value := .agg #[.int .i64 p.1, .int .u64 p.2]
def lkH (k : Int) : Hl → Int × Int
 | [] => (0, 0)
 | p :: l => if p.1 = k then p.2 else lkH k l
def updH (k : Int) (v : Int × Int) : Hl → Hl
 | [] => [(k, v)]
 | p :: l => if p.1 = k then (k, v) :: l else p :: updH k v l
theorem lk_upd (k : Int) (v : Int × Int) (j : Int) : ∀ l : Hl, lkH j (updH k v l) = if j = k then v else lkH j l
 | [] => by unfold updH lkH; by_cases q : k = j <;> simp [q, lkH]; intro e; exact absurd e.symm q
 | p :: l => by
  have ih := lk_upd k v j l
  unfold updH
  by_cases q : p.1 = k
  ·rw [if_pos q]
   by_cases r : j = k
   ·subst r; simp [lkH]
   ·have r' : ¬k = j := fun e => r e.symm
    have r2 : ¬p.1 = j := fun e => r (e.symm.trans q)
    simp [lkH, r, r', r2]
  ·rw [if_neg q]
   by_cases r : p.1 = j
   ·have : ¬j = k := fun e => q (r.trans e)
    simp [lkH, r, this]
   ·simp only [lkH, if_neg r]; exact ih
def fndI (k : Int) : Hl → Nat → Option (Nat × Value)
 | [], _ => none
 | p :: l, i => if p.1 = k then some (i, hv p.2) else fndI k l (i + 1)
def kv (e : MapEntry) : Value × Value := (e.key, e.val)
def ekv (p : Int × (Int × Int)) : Value × Value := (.int .u64 p.1, hv p.2)
theorem boz (k : Int) (kd : IntKind) : ∀ (es : List MapEntry) (l : Hl) (i : Nat), es.map kv = l.map ekv → Instr.findNow (.int kd) (.int .u64 k) es i = some (fndI k l i)
 | [], [], i, _ => rfl
 | [], _ :: _, i, h => by cases h
 | _ :: _, [], i, h => by cases h
 | e :: es, p :: l, i, h => by
  simp only [List.map_cons, List.cons.injEq] at h
  obtain ⟨h1, h2⟩ := h
  have hk : e.key = .int .u64 p.1 := congrArg Prod.fst h1
  have hvl : e.val = hv p.2 := congrArg Prod.snd h1
  unfold Instr.findNow fndI
  rw [hk, hvl]
  by_cases q : p.1 = k
  ·subst q; simp [Instr.sameNow]
  ·have q' : ¬k = p.1 := fun e => q e.symm
   rw [if_neg q, ← boz k kd es l (i + 1) h2]
   have q2 : (k == p.1) = false := by simpa using q'
   simp only [Instr.sameNow, q2, if_true]
theorem fnd_lk (k : Int) : ∀ (l : Hl) (i : Nat), (∀ j v, fndI k l i = some (j, v) → v = hv (lkH k l)) ∧ (fndI k l i = none → lkH k l = (0, 0))
 | [], i => ⟨fun j v h => (by cases h), fun _ => rfl⟩
 | p :: l, i => by
  obtain ⟨h1, h2⟩ := fnd_lk k l (i + 1)
  unfold fndI lkH
  by_cases q : p.1 = k
  ·rw [if_pos q, if_pos q]
   exact ⟨fun j v e => (by cases e; rfl), fun e => (by cases e)⟩
  ·rw [if_neg q, if_neg q]
   exact ⟨h1, h2⟩
theorem blz (k : Int) (v : Int × Int) : ∀ (es : List MapEntry) (l : Hl) (i : Nat), es.map kv = l.map ekv →
  (∀ j u, fndI k l i = some (j, u) → ∃ m, j = i + m ∧ (∃ e, es[m]? = some e ∧ e.key = .int .u64 k) ∧ (es.modify m fun (e : MapEntry) => { e with key := .int .u64 k, val := hv v }).map kv = (updH k v l).map ekv) ∧
  (fndI k l i = none → ∀ b, (es ++ [({ key := .int .u64 k, val := hv v, born := b } : MapEntry)]).map kv = (updH k v l).map ekv)
 | [], [], i, _ => ⟨fun j u h => (by cases h), fun _ b => rfl⟩
 | [], _ :: _, i, h => by cases h
 | _ :: _, [], i, h => by cases h
 | e :: es, p :: l, i, h => by
  simp only [List.map_cons, List.cons.injEq] at h
  obtain ⟨h1, h2⟩ := h
  have hk : e.key = .int .u64 p.1 := congrArg Prod.fst h1
  obtain ⟨g1, g2⟩ := blz k v es l (i + 1) h2
  unfold fndI updH
  by_cases q : p.1 = k
  ·rw [if_pos q, if_pos q]
   refine ⟨fun j u e' => ?_, fun e' => (by cases e')⟩
   cases e'
   refine ⟨0, rfl, ⟨e, rfl, by rw [hk, q]⟩, ?_⟩
   simp only [List.modify_zero_cons, List.map_cons, h2]
   rfl
  ·rw [if_neg q, if_neg q]
   refine ⟨fun j u e' => ?_, fun e' b => ?_⟩
   ·obtain ⟨m, hm, he, hq⟩ := g1 j u e'
    refine ⟨m + 1, by omega, by simpa using he, ?_⟩
    simp only [List.modify_succ_cons, List.map_cons, hq, h1]
   ·simp only [List.cons_append, List.map_cons, g2 e' b, h1]
def MapF (W : World) (M : Nat) (f : Int → Int × Int) : Prop := ∃ (es : Array MapEntry) (c : Nat) (l : Hl), W.heap[M]? = some (.map es c) ∧ es.toList.map kv = l.map ekv ∧ ∀ k, lkH k l = f k
variable {f : Int → Int × Int} {M : Nat} {W : World}
theorem MapF.lt (h : MapF W M f) : M < W.heap.size := by
 obtain ⟨es, c, l, h1, _⟩ := h
 exact (Array.getElem?_eq_some_iff.1 h1).1
theorem MapF.block {W W' : World} (h : MapF W M f) (k : W'.heap[M]? = W.heap[M]?) : MapF W' M f := by
 obtain ⟨es, c, l, h1, h2⟩ := h
 exact ⟨es, c, l, k.trans h1, h2⟩
theorem MapF.next {W W' : World} (h : MapF W M f) (k : Below W.heap.size W W') : MapF W' M f := h.block (k.block M h.lt)
theorem yqz (e : Bool) (k : Int) (W : World) : (Instr.checkKey e 10000 22 (.int .u64 k)).run prog W = .ok () W := by
 show (Instr.checkKey e (9999 + 1) 22 (.int .u64 k)).run prog W = .ok () W
 generalize 9999 = n
 unfold Instr.checkKey
 simp [run_underlying underlying22, Result.andThen]
theorem zero_h (w : World) : (zeroValue 118).run prog w = .ok (hv (0, 0)) w := Tryz.zeroValue118 w
theorem gRz (h : MapF W M f) (k : Int) : (Instr.lookup 87 (.map (some M)) (.int .u64 k) false).run prog W = .ok (hv (f k)) W := by
 obtain ⟨es, c, l, h1, h2, h3⟩ := h
 have ho : (getObj M).run prog W = .ok (.map es c) W := by simp [getObj, Sem.run, h1]
 obtain ⟨g1, g2⟩ := fnd_lk k l 0
 have hf : (Instr.findKey 22 (.int .u64 k) es.toList).run prog W = .ok (fndI k l 0) W := by
  simp [Instr.findKey, run_underlying underlying22, Result.andThen, boz k _ es.toList l 0 h2]
 rw [← h3 k]
 unfold Instr.lookup
 cases hc : fndI k l 0 with
 | none =>
  rw [hc] at hf
  simp [run_underlying underlying87, Result.andThen, ho, yqz, hf, g2 hc]
  rfl
 | some q =>
  obtain ⟨j, v⟩ := q
  rw [hc] at hf
  simp [run_underlying underlying87, Result.andThen, ho, yqz, hf, g1 j v hc]
theorem map_put (h : MapF W M f) (k : Int) (v : Int × Int) : ∃ o, (Instr.mapUpdate 87 (.map (some M)) (.int .u64 k) (hv v)).run prog W = .ok () (W.putObj M o) ∧ MapF (W.putObj M o) M fun j => if j = k then v else f j := by
 have hl := h.lt
 obtain ⟨es, c, l, h1, h2, h3⟩ := h
 have ho : (getObj M).run prog W = .ok (.map es c) W := by simp [getObj, Sem.run, h1]
 have hs : ∀ o, (setObj M o).run prog W = .ok () (W.putObj M o) := fun o => by simp [setObj, Sem.run, h1, World.putObj]
 obtain ⟨g1, g2⟩ := blz k v es.toList l 0 h2
 have hf : (Instr.findKey 22 (.int .u64 k) es.toList).run prog W = .ok (fndI k l 0) W := by
  simp [Instr.findKey, run_underlying underlying22, Result.andThen, boz k _ es.toList l 0 h2]
 have h4 : ∀ j, lkH j (updH k v l) = if j = k then v else f j := fun j => by rw [lk_upd, h3]
 unfold Instr.mapUpdate
 cases hc : fndI k l 0 with
 | none =>
  rw [hc] at hf
  refine ⟨.map (es.push { key := .int .u64 k, val := hv v, born := c }) (c + 1), ?_, _, _, updH k v l, World.putObj_heap_same hl, ?_, h4⟩
  ·simp [run_underlying underlying87, Result.andThen, ho, yqz, hf, hs]
  ·rw [Array.toList_push]; exact g2 hc c
 | some q =>
  obtain ⟨j, u⟩ := q
  rw [hc] at hf
  obtain ⟨m, hm, ⟨e, he, hek⟩, hq⟩ := g1 j u hc
  obtain rfl : j = m := by omega
  have he' : es[j]? = some e := by simpa using he
  have hst : (Instr.keyThatStays (.int .u64 k) (.int .u64 k)).run prog W = .ok (.int .u64 k) W := by
   have : Instr.sameBits 10000 (.int .u64 k) (.int .u64 k) = true := by unfold Instr.sameBits; simp
   simp [Instr.keyThatStays, this]
  refine ⟨.map (es.modify j fun (e : MapEntry) => { e with key := .int .u64 k, val := hv v }) c, ?_, _, _, updH k v l, World.putObj_heap_same hl, ?_, h4⟩
  ·simp [run_underlying underlying87, Result.andThen, ho, yqz, hf, hs, he', hek, hst]
  ·rw [Array.toList_modify]; exact hq
theorem kQz (k : IntKind) (x : Int) : (Value.int k x).cells = #[.int k x] := rfl
theorem jyz (k : IntKind) (x : Int) : (Value.int k x).oneCell' = true := rfl
theorem ktz (k k' : IntKind) (x y : Int) : (#[.int k x, .int k' y] : Array Value).all (·.oneCell') = true := by simp [jyz]
theorem xCz (a b a' b' : Value) : (#[a, b] : Array Value).size = (#[a', b'] : Array Value).size := rfl
theorem uZz (a b : Value) : 0 < (#[a, b] : Array Value).size := Nat.zero_lt_succ _
theorem two_lt1 (a b : Value) : 1 < (#[a, b] : Array Value).size := Nat.succ_lt_succ (Nat.zero_lt_succ _)
section
variable {F : Fence} (hF : ∀ f, F.fn f) {N : Nat} {ops : Array Oper} {rest : List Oper} {op : Oper} {a : Act} {Q : Exit → Act → World → Prop} {w w' : World}
include hF
theorem xqz (hw : Region.wanted op (yielded ops a.tmps) = true) (x y : Operand) (ho : op.op = .lookup 87 x y false) (M : Nat) (hx : a.eval x = .map (some M)) (k : Int) (hy : a.eval y = .int .u64 k) (f : Int → Int × Int) (hm : MapF w M f)
  (h : wpListIn F N prog ops Q rest (a.put op.dst (.agg #[.int .i64 (f k).1, .int .u64 (f k).2])) w) : wpListIn F N prog ops Q (op :: rest) a w := by
 refine kHz hF (by rw [ho]; intro c hc; cases hc) hw ?_ h
 unfold execOp
 simp [ho, hx, hy, gRz hm k]
 rfl
theorem bbz (hw : Region.wanted op (yielded ops a.tmps) = true) (x y z : Operand) (ho : op.op = .mapUpdate 87 x y z) (M : Nat) (hx : a.eval x = .map (some M)) (k : Int) (hy : a.eval y = .int .u64 k) (v : Int × Int) (hz : a.eval z = .agg #[.int .i64 v.1, .int .u64 v.2]) (f : Int → Int × Int) (hm : MapF w M f)
  (h : ∀ o, MapF (w.putObj M o) M (fun j => if j = k then v else f j) → wpListIn F N prog ops Q rest (a.put op.dst undef) (w.putObj M o)) : wpListIn F N prog ops Q (op :: rest) a w := by
 obtain ⟨o, h1, h2⟩ := map_put hm k v
 rw [show hv v = .agg #[.int .i64 v.1, .int .u64 v.2] from rfl] at h1
 refine jHz hF (by rw [ho]; intro c hc; cases hc) hw (w' := w.putObj M o) ?_ (h o h2)
 unfold execOp
 simp [ho, hx, hy, hz, h1]
theorem inL_make (hw : Region.wanted op (yielded ops a.tmps) = true) (t : TypeId) (ho : op.op = .makeMap t none)
  (h : ∀ M W, Hid (w.heap.size = M ∧ W.heap.size = M + 1) → MapF W M (fun _ => (0, 0)) → Below w.heap.size w W → wpListIn F N prog ops Q rest (a.put op.dst (.map (some M))) W) : wpListIn F N prog ops Q (op :: rest) a w := by
 refine kHz hF (by rw [ho]; intro c hc; cases hc) hw (w' := w.alloc (.map #[] 0)) (v := .map (some w.heap.size)) ?_ (h _ _ ⟨rfl, by simp⟩ ⟨#[], 0, [], World.alloc_heap_new w _, rfl, fun _ => rfl⟩ ((brz _ w).alloc (lrz _) _))
 unfold execOp
 simp [ho, Instr.makeMap, newObj]
 rfl
theorem wLz (hw : Region.wanted op (yielded ops a.tmps) = true) (ty : TypeId) (x y : Operand) (ho : op.op = .store ty x y) (B j : Nat) (hx : a.eval x = .pointer (some ⟨B, j, none⟩)) (v : Value) (hy : a.eval y = v) (hv : v.cells = #[v]) (C : Array Value) (t : TypeId) (hB : Blk w B C t)
  (hi : (prog.info? ty).map (·.size) = some 1) (hs : j < C.size) (h1 : v.oneCell' = true)
  (h : ∀ W, Blk W B (C.setIfInBounds j v) t → Oth B w W → wpListIn F N prog ops Q rest (a.put op.dst undef) W) : wpListIn F N prog ops Q (op :: rest) a w := by
 have ht : w.there B j 1 := fun i hi => ⟨by rw [hB.cell, Array.getElem?_eq_getElem (by omega)]; rfl, hB.frozen _⟩
 have := run_storeCells_cells (P := prog) B j [v] 0 w (fun i hi => by simpa using (ht i (by simpa using hi)).1) (fun i hi => by simpa using (ht i (by simpa using hi)).2) (fun u hu => by simp at hu; rw [hu]; exact h1)
 cases hq : prog.info? ty with
 | none => simp [hq] at hi
 | some i =>
  have hs : i.size = 1 := by simpa [hq] using hi
  simp only [Nat.add_zero] at this
  have e : (storeVar ty ⟨B, j, none⟩ v).run prog w = .ok () (w.setCells B j [v]) := by simp [storeVar, sizeOf, typeInfo, hq, hv, hs, this]
  refine jHz hF (by rw [ho]; intro c hc; cases hc) hw (w' := w.setCells B j [v]) ?_ (h _ (hB.set j v) (Oth.setCell w B j v))
  unfold execOp
  simp only [ho, hx, hy, Instr.storeAt, Instr.sureAddr, Sem.run_bind, Sem.run_pure, Result.andThen_ok, e]
end
def stpH (d : Int) (f : Int → Int × Int) (i : Int) : Int → Int × Int := fun k => if k = i then ((f i).1 + 1, if (f i).1 = 0 then d else (f i).2) else f k
def stpD (X : List Ob) (f : Int → Int × Int) (d : Ob) : Int → Int × Int := ((hitO X d.links).map fun m => (oat X m).id).foldl (stpH d.id) f
def hldF (X : List Ob) : Int → Int × Int := X.foldl (stpD X) fun _ => (0, 0)
theorem u4z {d : Int} {c : Int} : ∀ (l : List Int) (f : Int → Int × Int), (∀ i, 0 ≤ (f i).1 ∧ (f i).1 ≤ c) → ∀ i, 0 ≤ (l.foldl (stpH d) f i).1 ∧ (l.foldl (stpH d) f i).1 ≤ c + l.length
 | [], f, h, i => by simpa using h i
 | a :: l, f, h, i => by
  have h2 : ∀ i, 0 ≤ (stpH d f a i).1 ∧ (stpH d f a i).1 ≤ c + 1 := fun j => by
   have h3 := h j
   have h4 := h a
   unfold stpH
   split <;> (try dsimp only) <;> omega
  have := u4z (d := d) (c := c + 1) l (stpH d f a) h2 i
  rw [List.foldl_cons, List.length_cons]
  omega
variable {X : List Ob}
theorem hld_le : ∀ (l : List Ob) (f : Int → Int × Int) (c : Int), (∀ x ∈ l, x.links.length < 4294967296) → (∀ i, 0 ≤ (f i).1 ∧ (f i).1 ≤ c) → ∀ i, 0 ≤ (l.foldl (stpD X) f i).1 ∧ (l.foldl (stpD X) f i).1 ≤ c + 4294967296 * l.length
 | [], f, c, _, h, i => by simpa using h i
 | a :: l, f, c, hl, h, i => by
  have h1 : (hitO X a.links).length ≤ a.links.length := List.length_filterMap_le ..
  have h2 := hl a (List.mem_cons_self ..)
  have h3 : ∀ i, 0 ≤ (stpD X f a i).1 ∧ (stpD X f a i).1 ≤ c + 4294967296 := fun j => by
   have := u4z (d := a.id) (c := c) ((hitO X a.links).map fun m => (oat X m).id) f h j
   rw [List.length_map] at this
   unfold stpD
   omega
  have := hld_le l (stpD X f a) (c + 4294967296) (fun x hx => hl x (List.mem_cons_of_mem _ hx)) h3 i
  rw [List.foldl_cons, List.length_cons]
  omega
theorem hld_succ {k : Nat} (h : k < X.length) (f : Int → Int × Int) : (X.take (k + 1)).foldl (stpD X) f = stpD X ((X.take k).foldl (stpD X) f) (oat X k) := by
 have e : oat X k = X[k] := by unfold oat; rw [List.getD_eq_getElem?_getD, List.getElem?_eq_getElem h]; rfl
 rw [List.take_add_one, List.getElem?_eq_getElem h, Option.toList_some, List.foldl_append, e]
 rfl
theorem kXz {β : Type} {D : Nat → Prop} {w0 : World} {B : Nat} (hD : ∀ b, D b → b < B) (hB : B ≤ w0.heap.size) : OwnFrom B (fun (_ : β) W => Keeps D w0 W) := fun s X Y row hs hg hr =>
 ⟨Nat.le_trans hs.1 hg.size, fun b hb => (hg.block b (ltz (hD b hb) (Nat.le_trans hB hs.1)) (fun e => by have := (hr b e.symm).1; have := hD b hb; omega)).trans (hs.2 b hb)⟩
theorem v7z {β : Type} {M B : Nat} (hM : M < B) (f : β → Int → Int × Int) : OwnFrom B (fun s W => MapF W M (f s)) := fun s X Y row hs hg hr =>
 hs.block (hg.block M hs.lt (fun e => by have := (hr M e.symm).1; omega))
def mks (Ds : List Nat) : List Deferred := Ds.map fun D => { target := .collected D, args := #[] }
theorem jaz {F : Fence} {n : Nat} {fn : Func} {tmps : Array Value} {R : Ending → World → Prop} {B : Nat} : ∀ (Ds : List Nat) (W : World), Ds.Nodup → (∀ D ∈ Ds, B ≤ D ∧ W.heap[D]? = some (.deferred (some []))) →
  (∀ W', Below B W W' → (∀ b, b ∉ Ds → W'.heap[b]? = W.heap[b]?) → LeavesInM F n prog fn tmps R [] .returning W') → LeavesInM F n prog fn tmps R (mks Ds) .returning W
 | [], W, _, _, h => h W (brz _ _) fun _ _ => rfl
 | D :: Ds, W, hn, hD, h => by
  obtain ⟨hb, hK⟩ := hD D (List.mem_cons_self ..)
  obtain ⟨hn1, hn2⟩ := List.nodup_cons.1 hn
  refine ⟨by simp, .inl ⟨D, W.putObj D (.deferred none), rfl, run_takeDeferred hK, ?_⟩⟩
  have ho : ∀ b, b ≠ D → (W.putObj D (.deferred none)).heap[b]? = W.heap[b]? := fun b hb => World.putObj_heap_other hb
  have hbl : Below B W (W.putObj D (.deferred none)) := ⟨rfl, rfl, rfl, by simp [World.putObj], fun k hk => ho k (by omega)⟩
  refine jaz Ds _ hn2 (fun E hE => ⟨(hD E (List.mem_cons_of_mem _ hE)).1, (ho E (fun e => hn1 (e ▸ hE))).trans (hD E (List.mem_cons_of_mem _ hE)).2⟩) fun W' k1 k2 => ?_
  exact h W' (hbl.trans k1) fun b hb => (k2 b (fun e => hb (List.mem_cons_of_mem _ e))).trans (ho b (fun e => hb (e ▸ List.mem_cons_self ..)))
def WdO (x : Ob) : Prop := (0 ≤ x.id ∧ x.id < 18446744073709551616) ∧ (0 ≤ x.th.lo ∧ x.th.lo < 18446744073709551616) ∧ (0 ≤ x.th.hi ∧ x.th.hi < 18446744073709551616)
def ownO (key : Nat) (X : List Ob) (o : Ob) : Bool := (List.range X.length).all fun j => ownN key o.th.lo.toNat o.th.hi.toNat o.id (oat X j).kind (oat X j).id.toNat (oat X j).th.lo.toNat (oat X j).th.hi.toNat
theorem vmz {w : World} {t ro : Int} {key : Nat} {ao : Option Addr} {n cap : Nat} {Cf : Nat → Array Value} {C : Array Value} {o : Ob} (h : ObsF (LtN w) (LtN w) w ao n cap X Cf) (hw : ∀ x ∈ X, WdO x) (ho : ObD (LtN w) w C o) (hwo : WdO o) : Calls prog 86 #[.agg #[.int .i64 t, .int .u64 (key : Int), .int .u64 ro, .slice ao n cap], .agg C] w fun e w' => e = .returned (.bool (ownO key X o)) ∧ Below w.heap.size w w' := by
 have hn : Hid (X.length = n) := h.1
 have hz := ho.size
 have hzv : (prog.info? 68).map (·.size) = some (#[.int .i64 t, .int .u64 (key : Int), .int .u64 ro, .slice ao n cap] : Array Value).size := by kernel_rfl
 have k1 : (#[.int .i64 t, .int .u64 (key : Int), .int .u64 ro, .slice ao n cap] : Array Value)[1]? = some (.int .u64 (key : Int)) := rfl
 have e1 : ((o.th.lo.toNat : Nat) : Int) = o.th.lo := Int.toNat_of_nonneg hwo.2.1.1
 have e2 : ((o.th.hi.toNat : Nat) : Int) = o.th.hi := Int.toNat_of_nonneg hwo.2.2.1
 have hV : C.extract 37 (37 + 2) = #[.int .u64 ((o.th.lo.toNat : Nat) : Int), .int .u64 ((o.th.hi.toNat : Nat) : Int)] := by rw [e1, e2]; exact ext2 ho.th.lo ho.th.hi
 have hr : Hid (ownO key X o = (List.range n).all fun j => ownN key o.th.lo.toNat o.th.hi.toNat o.id (oat X j).kind (oat X j).id.toNat (oat X j).th.lo.toNat (oat X j).th.hi.toNat) := by show ownO key X o = _; unfold ownO; rw [hn.out]
 rw [hr.out]
 have c0 := ho.id
 obtain ⟨a, ha⟩ : ∃ a, Hid (o.th.lo.toNat = a) := ⟨_, rfl⟩
 obtain ⟨b, hb⟩ : ∃ b, Hid (o.th.hi.toNat = b) := ⟨_, rfl⟩
 rw [ha.out, hb.out] at hV ⊢
 have hev := fun (W : World) (g : Nat) (lb : Array Value) (P : Nat → Bool) (hk : Below w.heap.size w W) => buz (t := t) (ke := (key : Int)) (ro := ro) (g := g) (lb := lb) (P := P) (h.next hk)
 obtain ⟨G, hG⟩ : ∃ G : Array Value, Hid (G = #[.int .i64 t, .int .u64 (key : Int), .int .u64 ro, .slice ao n cap]) := ⟨_, rfl⟩
 rw [← hG.out] at hzv k1 hev
 rw [← hG.out]
 clear e1 e2 hr
 go_enter func86, ntmps86
 go_wp2_with (first
  | (with_reducible refine qcz rfl 68 _ rfl G rfl ?_; intro B2 W2 hN2 hB2 hk)
  | (with_reducible refine qcz rfl 43 _ rfl C rfl ?_; intro B3 W3 hN3 hB3 hk3; replace hB2 := hB2.next hk3; replace hk := btz hk hk3)
  | (with_reducible refine qiz (by kernel_rfl) _ _ rfl B3 37 rfl 2 C _ hB3 #[.int .u64 (a : Int), .int .u64 (b : Int)] hV (by omega) _ underlying36 (by kernel_rfl) (by kernel_rfl) ?_)
  | ((with_reducible refine qgz rfl _ rfl #[.int .u64 0, .int .u64 0] Tryz.zeroValue36 ?_); intro R W4 hN4 hR4 hk4; have hne : B2 ≠ R ∧ B3 ≠ R := (by have := hN4.out; have := hB2.lt; have := hB3.lt; omega); have hwR : w.heap.size ≤ R := (by have := hN4.out; have := hk.size; omega); replace hB2 := hB2.next hk4; replace hB3 := hB3.next hk4; replace hk := btz hk hk4)
  | ((with_reducible refine qbz rfl _ _ _ rfl R rfl #[.int .u64 (a : Int), .int .u64 (b : Int)] rfl _ hR4 (by kernel_rfl) (xCz _ _ _ _) (ktz _ _ _ _) ?_); intro W5 hR5 o5; have hk5 := o5.below w.heap.size w hwR hk; have hB25 : Blk W5 B2 G 68 := (o5.block B2 hne.1).trans hB2; have hB35 : Blk W5 B3 C 43 := (o5.block B3 hne.2).trans hB3; have hP := fun (j : Nat) (W : World) (hj : j < n) (q : Below W5.heap.size W5 W) => own1_v (key := key) (h.2.2.2.2 j hj).size (by rw [Int.toNat_of_nonneg (hw _ (qQz (by rw [hn.out]; exact hj))).1.1]; exact (h.2.2.2.2 j hj).id) (h.2.2.2.2 j hj).kind (by rw [Int.toNat_of_nonneg (hw _ (qQz (by rw [hn.out]; exact hj))).2.1.1]; exact (h.2.2.2.2 j hj).th.lo) (by rw [Int.toNat_of_nonneg (hw _ (qQz (by rw [hn.out]; exact hj))).2.2.1]; exact (h.2.2.2.2 j hj).th.hi) (by have := (hw _ (qQz (show j < X.length by rw [hn.out]; exact hj))).1; omega) (hB35.next q) c0 (hR5.next q) (hB25.next q) k1; have hcall := hev W5 109 #[.pointer (some ⟨B3, 0, none⟩), .pointer (some ⟨R, 0, none⟩), .pointer (some ⟨B2, 0, none⟩)] (fun j => ownN key a b o.id (oat X j).kind (oat X j).id.toNat (oat X j).th.lo.toNat (oat X j).th.hi.toNat) hk5 (enters_of func109 (by kernel_rfl) rfl) (fun j W hj q => hP j W hj q))
  | (with_reducible refine qdz (by kernel_rfl) _ _ rfl B2 rfl G hB25 _ underlying68 (by kernel_rfl) hzv ?_)
  | (go_at_call 53; (with_reducible refine hcall.mono ?_); rintro e w6 ⟨rfl, hb6⟩))
 go_ret
 exact ⟨rfl, btz hk5 hb6⟩
end
section
open Go.ChangeShapes Go.WideShapes Go.ChangeAt Go.RowKit
section
variable {H : Type} {enc : TypeId × Value → H} {w : World} {m : Nat} {y : DataW H × List MemPlace}
theorem y1z {cs : List Value} {o : Nat} {t : TypeId} {k : IntKind} (ho : o < cs.length) (hc : prog.cellsOf t = 1) (hu : prog.underlying t = some (.int k)) (h : DataW.trod enc prog w 0 (fun _ => true) true m t ((cs.drop o).take (prog.cellsOf t)) = some y) : ∃ n, cs[o]? = some (.int k n) ∧ (Lit.int k n).wf = true := by
 rw [hc, kiz ho] at h
 obtain ⟨n, e, _, hw⟩ := DataW.trod_int hu h
 simp at e
 exact ⟨n, by rw [List.getElem?_eq_getElem ho, e], hw⟩
theorem ypz {a : Int} (h : (Lit.int .u64 a).wf = true) : 0 ≤ a ∧ a < 18446744073709551616 := by
 simp [Lit.wf, IntKind.min, IntKind.max, IntKind.bits, IntKind.signed] at h
 omega
theorem span_wf {cs : List Value} (h : DataW.trod enc prog w 0 (fun _ => true) true m 36 cs = some y) : ∃ a b, cs[0]? = some (.int .u64 a) ∧ cs[1]? = some (.int .u64 b) ∧ (0 ≤ a ∧ a < 18446744073709551616) ∧ (0 ≤ b ∧ b < 18446744073709551616) := by
 obtain ⟨xs, m', _, _, hl, hx, hg⟩ := DataW.trod_struct underlying36 h
 rw [show prog.cellsOf 36 = 2 from by kernel_rfl] at hl
 obtain ⟨y0, y1, rfl⟩ : ∃ y0 y1, xs = [y0, y1] := by
  match xs, hx with
  | [y0, y1], _ => exact ⟨y0, y1, rfl⟩
 have t0 : DataW.trod enc prog w 0 (fun _ => true) true m' 22 ((cs.drop 0).take (prog.cellsOf 22)) = some y0 := hg 0 _ rfl
 have t1 : DataW.trod enc prog w 0 (fun _ => true) true m' 22 ((cs.drop 1).take (prog.cellsOf 22)) = some y1 := hg 1 _ rfl
 obtain ⟨a, ea, wa⟩ := y1z (o := 0) (by rw [hl]; omega) (by kernel_rfl) underlying22 t0
 obtain ⟨b, eb, wb⟩ := y1z (o := 1) (by rw [hl]; omega) (by kernel_rfl) underlying22 t1
 exact ⟨a, b, ea, eb, ypz wa, ypz wb⟩
theorem ksz {cs : List Value} {x : Ob} {D : Nat → Prop} (h : DataW.trod enc prog w 0 (fun _ => true) true m 43 cs = some y) (hx : ObD D w cs.toArray x) : WdO x := by
 obtain ⟨xs, m', _, _, hl, hxs, hg⟩ := DataW.trod_struct underlying43 h
 rw [show prog.cellsOf 43 = 51 from by kernel_rfl] at hl
 obtain ⟨y0, y1, y2, y3, y4, y5, y6, y7, y8, y9, y10, y11, rfl⟩ : ∃ y0 y1 y2 y3 y4 y5 y6 y7 y8 y9 y10 y11, xs = [y0, y1, y2, y3, y4, y5, y6, y7, y8, y9, y10, y11] := by
  match xs, hxs with
  | [y0, y1, y2, y3, y4, y5, y6, y7, y8, y9, y10, y11], _ => exact ⟨y0, y1, y2, y3, y4, y5, y6, y7, y8, y9, y10, y11, rfl⟩
 have t0 : DataW.trod enc prog w 0 (fun _ => true) true m' 22 ((cs.drop 0).take (prog.cellsOf 22)) = some y0 := hg 0 _ rfl
 obtain ⟨id, eid, wid⟩ := y1z (o := 0) (by rw [hl]; omega) (by kernel_rfl) underlying22 t0
 have t8 : DataW.trod enc prog w 0 (fun _ => true) true m' 39 ((cs.drop 8).take (prog.cellsOf 39)) = some y8 := hg 8 _ rfl
 rw [show prog.cellsOf 39 = 35 from by kernel_rfl] at t8
 obtain ⟨zs, m2, _, _, hl2, hzs, hg2⟩ := DataW.trod_struct underlying39 t8
 obtain ⟨z0, z1, z2, z3, z4, z5, z6, z7, z8, z9, z10, rfl⟩ : ∃ z0 z1 z2 z3 z4 z5 z6 z7 z8 z9 z10, zs = [z0, z1, z2, z3, z4, z5, z6, z7, z8, z9, z10] := by
  match zs, hzs with
  | [z0, z1, z2, z3, z4, z5, z6, z7, z8, z9, z10], _ => exact ⟨z0, z1, z2, z3, z4, z5, z6, z7, z8, z9, z10, rfl⟩
 have t9 : DataW.trod enc prog w 0 (fun _ => true) true m2 36 ((((cs.drop 8).take 35).drop 29).take (prog.cellsOf 36)) = some z9 := hg2 9 _ rfl
 rw [show prog.cellsOf 36 = 2 from by kernel_rfl] at t9
 obtain ⟨a, b, ea, eb, wa, wb⟩ := span_wf t9
 have c0 : (((((cs.drop 8).take 35).drop 29).take 2)[0]?) = cs[37]? := by simp [List.getElem?_drop]
 have c1 : (((((cs.drop 8).take 35).drop 29).take 2)[1]?) = cs[38]? := by simp [List.getElem?_drop]
 rw [c0] at ea
 rw [c1] at eb
 have i1 : cs[0]? = some (.int .u64 x.id) := by simpa using hx.id
 have i2 : cs[37]? = some (.int .u64 x.th.lo) := by simpa using hx.th.lo
 have i3 : cs[38]? = some (.int .u64 x.th.hi) := by simpa using hx.th.hi
 rw [i1] at eid
 rw [i2] at ea
 rw [i3] at eb
 cases eid
 cases ea
 cases eb
 exact ⟨ypz wid, wa, wb⟩
theorem vsz {ao : Option Addr} {n cap : Nat} {d : DataW H} {ps : List MemPlace} (h : DataW.Trod enc prog w 0 (fun _ => true) true 23 (.slice ao n cap) d ps) : ∃ l, Obs w ao n cap l ∧ ∀ x ∈ l, WdO x := by
 obtain ⟨fuel, hf⟩ := h
 have c51 : prog.cellsOf 43 = 51 := by kernel_rfl
 rcases Go.Deep.open_slice underlying23 hf with ⟨e, _⟩ | ⟨a, len, cap', m, n', D, Pl, e, hb, hl, hm, hmm, hdd, hx⟩
 ·simp [Value.cells] at e
  obtain ⟨rfl, rfl, rfl⟩ := e
  exact ⟨[], ObsD.nil _ _ _, fun x hx => absurd hx (by simp)⟩
 ·simp [Value.cells] at e
  obtain ⟨rfl, rfl, rfl⟩ := e
  have hmc : m = cap := by rw [hmm]; rfl
  have key : ∀ i, ∃ (x : Ob) (C : Array Value), i < n → (ObD (LtN w) w C x ∧ WdO x) ∧ ∀ j v, C[j]? = some v → w.cell? ((a.add (i * 51)).add j) = some v := by
   intro i
   by_cases hi : i < n
   ·obtain ⟨cs, h1, h2⟩ := hx i (by omega)
    rw [c51] at h1
    obtain ⟨_, hlen, hcell⟩ := World.cells?_some h1
    obtain ⟨x, hxx⟩ := kEz h2
    refine ⟨x, cs.toArray, fun _ => ⟨⟨hxx, ksz h2 hxx⟩, fun j v hv => ?_⟩⟩
    have hv' : cs[j]? = some v := by simpa using hv
    have hj : j < 51 := by rw [← hlen]; exact (List.getElem?_eq_some_iff.1 hv').1
    rw [hcell j hj, hv']
   ·exact ⟨zOb, #[], fun h => absurd h hi⟩
  have hkey : ∀ i, i < n → ∃ C, (ObD (LtN w) w C (Classical.choose (key i)) ∧ WdO (Classical.choose (key i))) ∧ ∀ j v, C[j]? = some v → w.cell? ((a.add (i * 51)).add j) = some v := fun i hi => by
   obtain ⟨C, hC⟩ := Classical.choose_spec (key i)
   exact ⟨C, hC hi⟩
  refine ⟨(List.range n).map fun i => Classical.choose (key i), ⟨by simp, hl, ⟨by unfold maxLen at hm; omega, fun e => by cases e⟩, fun hn => ?_⟩, fun x hx => ?_⟩
  ·obtain ⟨v0, z⟩ : ∃ v0, w.cell? ((a.add (0 * 51)).add 0) = some v0 := by
    obtain ⟨C, hC, hr⟩ := hkey 0 hn
    exact ⟨_, hr 0 _ hC.1.id⟩
   have ha0 : (a.add (0 * 51)).add 0 = a := by simp [Addr.add]
   rw [ha0] at z
   obtain ⟨hea, hadd⟩ := PgM.spotK z
   refine ⟨a.block, a.off, by rw [← hea], World.block_lt_of_cell? w _ z, fun i hi => ?_⟩
   have hg : oat ((List.range n).map fun i => Classical.choose (key i)) i = Classical.choose (key i) := by
    unfold oat; rw [List.getD_eq_getElem?_getD, List.getElem?_eq_getElem (by simpa using hi)]; simp
   obtain ⟨C, hC, hr⟩ := hkey i hi
   refine ⟨C, by rw [hg]; exact hC.1, fun j v hv => ?_⟩
   have q := hr j v (by simpa using hv)
   rw [hadd, Addr.add_mid] at q
   exact q
  ·obtain ⟨i, hi, rfl⟩ := List.mem_map.1 hx
   obtain ⟨C, hC, _⟩ := hkey i (List.mem_range.1 hi)
   exact hC.2
theorem kTz {base : Nat} {v : Value} {d : DataW H} {ps : List MemPlace} (hv : Value.okWide prog w .any base 25 v)
  (h : DataW.Trod enc prog w 0 (fun _ => true) true 25 v d ps) : ∃ (t : Int) (ke : Nat) (ro : Int) (ao : Option Addr) (n cap : Nat) (X : List Ob), v = .agg #[.int .i64 t, .int .u64 (ke : Int), .int .u64 ro, .slice ao n cap] ∧ (Obs w ao n cap X ∧ ∀ x ∈ X, WdO x) := by
 unfold Value.okWide at hv
 rw [underlying25] at hv
 obtain ⟨cs, rfl, hs, _⟩ := hv
 rw [show prog.cellsOf 25 = 4 from by kernel_rfl] at hs
 obtain ⟨fuel, hf⟩ := h
 obtain ⟨x0, x1, x2, x3, rfl⟩ : ∃ x0 x1 x2 x3, cs = #[x0, x1, x2, x3] := by
  match cs, hs with
  | ⟨[x0, x1, x2, x3]⟩, _ => exact ⟨x0, x1, x2, x3, rfl⟩
 have hf' : DataW.trod enc prog w 0 (fun _ => true) true fuel 25 [x0, x1, x2, x3] = some (d, ps) := hf
 obtain ⟨xs, m', _, _, hl, hx, hg⟩ := DataW.trod_struct underlying25 hf'
 obtain ⟨y0, y1, y2, y3, rfl⟩ : ∃ y0 y1 y2 y3, xs = [y0, y1, y2, y3] := by
  match xs, hx with
  | [y0, y1, y2, y3], _ => exact ⟨y0, y1, y2, y3, rfl⟩
 obtain ⟨t, et⟩ := w2z (t := 3) (o := 0) (y := y0) (by simp) (by kernel_rfl) underlying3 (hg 0 _ rfl)
 obtain ⟨ke, eke, wke⟩ := y1z (t := 22) (o := 1) (y := y1) (by simp) (by kernel_rfl) underlying22 (hg 1 _ rfl)
 obtain ⟨ro, ero⟩ := w2z (t := 22) (o := 2) (y := y2) (by simp) (by kernel_rfl) underlying22 (hg 2 _ rfl)
 obtain ⟨ao, n, cap, ea, hT⟩ := jMz (t := 23) (o := 3) (y := y3) (by simp) (by kernel_rfl) underlying23 (hg 3 _ rfl)
 obtain ⟨X, hX, hW⟩ := vsz hT
 have hk := ypz wke
 obtain ⟨kn, rfl⟩ : ∃ kn : Nat, ke = kn := ⟨ke.toNat, by omega⟩
 simp at et eke ero ea
 subst et eke ero ea
 exact ⟨t, kn, ro, ao, n, cap, X, rfl, hX, hW⟩
end
section
variable {H : Type} {enc : TypeId × Value → H} {w : World}
theorem vuz {base : Nat} {v : Value} {d : DataW H} {ps : List MemPlace} (hv : Value.okWide prog w .any base 43 v)
  (h : DataW.Trod enc prog w 0 (fun _ => true) true 43 v d ps) : ∃ C x, v = .agg C ∧ (ObD (LtN w) w C x ∧ WdO x) := by
 unfold Value.okWide at hv
 rw [underlying43] at hv
 obtain ⟨cs, rfl, hs, _⟩ := hv
 obtain ⟨fuel, hf⟩ := h
 obtain ⟨x, hx⟩ := kEz (cs := cs.toList) (m := fuel) hf
 exact ⟨cs, x, rfl, by simpa using hx, ksz (cs := cs.toList) (m := fuel) hf hx⟩
end
end
section
open Go.RowKit Go.Shelf
def StayT {β : Type} (B : Nat) (t : TypeId) (J : β → World → Prop) : Prop := ∀ s A A' row, J s A → A.grownBy A' row → (∀ r, row = some r → B ≤ r ∧ ∃ C, A.heap[r]? = some (.cells C t)) → J s A'
def KT (D : Nat → Prop) (t : TypeId) (B : Nat) (W W' : World) : Prop := Keeps D W W' ∧ ∀ b C, B ≤ b → W.heap[b]? = some (.cells C t) → W'.heap[b]? = some (.cells C t)
theorem KT.trans {D : Nat → Prop} {t : TypeId} {B : Nat} {X Y Z : World} (h : KT D t B X Y) (k : KT D t B Y Z) : KT D t B X Z := ⟨h.1.trans k.1, fun b C hb hc => k.2 b C hb (h.2 b C hb hc)⟩
theorem KT.putObj {D : Nat → Prop} {t : TypeId} {B : Nat} {W : World} {l : Nat} {r : Loop} (o : Obj) (hD : ∀ b, D b → b ≠ l) (h : W.heap[l]? = some (.loop r)) : KT D t B W (W.putObj l o) :=
 ⟨⟨by simp [World.putObj], fun b hb => World.putObj_heap_other (hD b hb)⟩, fun b C _ hc => (World.putObj_heap_other (fun e => by rw [e, h] at hc; cases hc)).trans hc⟩
def SeqT {α : Type} (F : Fence) (n : Nat) (P : Program) (g : Nat) (lb : Array Value) (encs : α → Array Value) (D : Nat → Prop) (t : TypeId) (S : List α → Prop) (N : Nat) (w : World) : Prop :=
 ∀ (l : Nat) (J : List α → World → Prop) (W : World), Below w.heap.size w W → StayT W.heap.size t J →
  (∀ pre x W1, J pre W1 → pre.length < N → YieldAt F (n - 1) P l (encs x) W1 fun e W' => e = .returned (.bool true) ∧ J (pre ++ [x]) W' ∧ KT D t W.heap.size W1 W') → J [] W →
  CallsIn F n P g (#[.func (.yield l) #[] #[]] ++ lb) W fun e W' => (∃ v, e = .returned v) ∧ ∃ xs, S xs ∧ J xs W'
theorem vPz {F : Fence} {n : Nat} {P : Program} {α : Type} {g : Operand} {ps : Array Tmp} {assign body : Code} {Q : Exit → Act → World → Prop} {a : Act} {w : World}
  (hro : F.round = none) (h1 : 1 ≤ n) {gf : Nat} {lb : Array Value} (hg : a.eval g = .func (.func gf) #[] lb) (hFg : F.fn gf) (eg : ∀ args w, (callFunc gf args).run P w = .ok (.enter gf args) w)
  {encs : α → Array Value} {D : Nat → Prop} {t : TypeId} {S : List α → Prop} {N : Nat} {w0 : World} (hseq : SeqT F (n - 1) P gf lb encs D t S N w0) (hD : ∀ b, D b → b < w.heap.size) (hb0 : Below w0.heap.size w0 w) (hps : ∀ x, (encs x).size = ps.size)
  (I : List α → World → Prop) (hI : OwnFrom w.heap.size I) (hIt : StayT w.heap.size t I) (h0 : I [] w) (ax : α → Act)
  (hassign : ∀ (l : Nat) (x : α) (W : World) (K : Act → World → Prop), K (ax x) W →
   assign.wpIn (F.inRound l) (n - 1 - 1) P (Exit.then K (fun _ _ _ => False)) { tmps := (ps.zip (encs x)).foldl (fun t (p, v) => t.setIfInBounds p v) a.tmps, defers := [] } W)
  (hbody : ∀ (l : Nat) (pre : List α) (x : α) (W : World), w.heap.size ≤ l → I pre W → pre.length < N → body.wpIn (F.inRound l) (n - 1 - 1) P (fun e _ W' => e = .normal ∧ KeepsFrom w.heap.size W W' ∧ KT D t (w.heap.size + 2) W W' ∧ I (pre ++ [x]) W') (ax x) W)
  (hdone : ∀ (E : Nat) (xs : List α) (W : World), w.heap.size ≤ E → S xs → I xs W → W.heap[E]? = some (.deferred (some [])) → Q .normal { a with defers := { target := .collected E, args := #[] } :: a.defers } W) :
  (Code.rangeFunc g ps assign body).wpIn F n P Q a w := by
 refine wpIn_rangeFunc fun fn hfn => ?_
 rw [hro]
 obtain ⟨rc, hrc⟩ : ∃ rc : LoopState → Loop, rc = fun st => { state := st, pending := none, fn := fn, tmps := a.tmps, params := ps, assign := assign, body := body, defers := w.heap.size } := ⟨_, rfl⟩
 have hsz : ((w.alloc (.deferred (some []))).alloc (.loop (rc .ready))).heap.size = w.heap.size + 2 := by simp
 have hl0 : ((w.alloc (.deferred (some []))).alloc (.loop (rc .ready))).heap[w.heap.size + 1]? = some (.loop (rc .ready)) := by
  have := World.alloc_heap_new (w.alloc (.deferred (some []))) (.loop (rc .ready)); rwa [World.size_alloc] at this
 have hk0 : ((w.alloc (.deferred (some []))).alloc (.loop (rc .ready))).heap[w.heap.size]? = some (.deferred (some [])) := (Below.heap_alloc _ _ _ (by simp)).trans (World.alloc_heap_new w _)
 have hbl : Below w.heap.size w ((w.alloc (.deferred (some []))).alloc (.loop (rc .ready))) := ((brz _ w).alloc (lrz _) _).alloc (by simp) _
 have hi0 : I [] ((w.alloc (.deferred (some []))).alloc (.loop (rc .ready))) := hI.alloc _ (hI.alloc _ h0)
 have hent : (Instr.enterLoop fn a.tmps ps assign body none).run P w = .ok (w.heap.size + 1, [{ target := .collected w.heap.size, args := #[] }]) ((w.alloc (.deferred (some []))).alloc (.loop (rc .ready))) := by rw [hrc]; exact run_enterLoop_outer _ _ _ _ _
 generalize (w.alloc (.deferred (some []))).alloc (.loop (rc .ready)) = V at hsz hl0 hk0 hbl hi0 hent
 obtain ⟨s0, hs0⟩ : ∃ s0, w.heap.size = s0 := ⟨_, rfl⟩
 refine ⟨w.heap.size + 1, [{ target := .collected w.heap.size, args := #[] }], V, { target := .fn (.func gf) lb, args := #[.func (.yield (w.heap.size + 1)) #[] #[]] }, V, gf, #[.func (.yield (w.heap.size + 1)) #[] #[]] ++ lb, V, hent, ?_, ?_, ?_, fun _ => h1, ?_⟩
 ·simp only [resolve, hg]
  simp [go_sem]
 ·intro f' hf'
  simp [Target.leads] at hf'
  subst hf'
  exact hFg
 ·simp [invoke, go_sem, eg]
 refine (hseq (w.heap.size + 1) (fun pre W => I pre W ∧ W.heap[w.heap.size + 1]? = some (.loop (rc .ready)) ∧ W.heap[w.heap.size]? = some (.deferred (some []))) V (btz hb0 hbl) ?stay ?round ⟨hi0, hl0, hk0⟩).mono ?behind
 case stay =>
  rintro pre A A' row ⟨q1, q2, q3⟩ hgr hrow
  have q : ∀ b, b < V.heap.size → (b < A.heap.size) → A'.heap[b]? = A.heap[b]? := fun b hb hb2 => hgr.block b hb2 (fun e => by have := (hrow b e.symm).1; omega)
  exact ⟨hIt pre A A' row q1 hgr (fun r e => ⟨by have := (hrow r e).1; omega, (hrow r e).2⟩), (q _ (by omega) (Array.getElem?_eq_some_iff.1 q2).1).trans q2, (q _ (by omega) (Array.getElem?_eq_some_iff.1 q3).1).trans q3⟩
 case round =>
  rintro pre x W ⟨hi, hl, hk⟩ hlen
  have hy := run_yield (P := P) (args := encs x) hl (by rw [hrc]; exact hps x)
  rw [hrc] at hy
  refine ⟨fn, _, assign, body, hy, roundIn_of_wpIn hfn (hassign _ x W _ ?_)⟩
  refine ⟨_, run_beginRound hl (by rw [hrc]), ?_⟩
  have hlt : w.heap.size + 1 < W.heap.size := (Array.getElem?_eq_some_iff.1 hl).1
  have hl2 : (W.putObj (w.heap.size + 1) (.loop { rc .ready with state := .busy })).heap[w.heap.size + 1]? = some (.loop { rc .ready with state := .busy }) := World.putObj_heap_same hlt
  have hk2 : (W.putObj (w.heap.size + 1) (.loop { rc .ready with state := .busy })).heap[w.heap.size]? = some (.deferred (some [])) := (World.putObj_heap_other (by omega)).trans hk
  have hDl : ∀ b, D b → b ≠ w.heap.size + 1 := fun b hb => by have := hD b hb; omega
  refine wpIn_mono (hbody (w.heap.size + 1) pre x _ (by omega) (hI.putObj _ hi (by omega) hl rfl) hlen) ?_
  rintro e a3 W3 ⟨rfl, hkf, hkt, hi3⟩
  have hl3 := hkf.same _ _ (by omega) hl2 rfl
  have hk3 := hkf.same _ _ (lrz _) hk2 rfl
  refine ⟨_, _, run_endRound (P := P) none hl3, rfl, ⟨hI.putObj _ hi3 (by omega) hl3 rfl, ?_, (World.putObj_heap_other (by omega)).trans hk3⟩, ?_⟩
  ·rw [World.putObj_heap_same (Array.getElem?_eq_some_iff.1 hl3).1, hrc]
   rfl
  ·rw [hsz]
   exact (KT.putObj _ hDl hl).trans (hkt.trans (KT.putObj _ hDl hl3))
 case behind =>
  rintro e W ⟨⟨v, rfl⟩, xs, hS, hi, hl, hk⟩
  refine ⟨none, _, by have := run_endLoop (P := P) hl (by rw [hrc]; simp); rw [hrc] at this; exact this, hdone _ xs _ (lrz _) hS (hI.putObj _ hi (by omega) hl rfl) ((World.putObj_heap_other (by omega)).trans hk)⟩
end
section
open Go.RowKit Go.Shelf
attribute [local go_sem] Oper.semAt_some
variable {ao : Option Addr} {w : World} {Cf : Nat → Array Value} {n cap : Nat} {X : List Ob}
theorem uDz {t ke ro : Int} (h : ObsF (LtN w) (LtN w) w ao n cap X Cf) (hs : Srt X) (hn16 : n ≤ 4096) (hll : ∀ x ∈ X, x.links.length < 4294967296) : Calls prog 51 #[.agg #[.int .i64 t, .int .u64 ke, .int .u64 ro, .slice ao n cap]] w fun e w' => ∃ M, e = .returned (.map (some M)) ∧ MapF w' M (hldF X) ∧ w.heap.size ≤ M ∧ Below w.heap.size w w' := by
 have hn : Hid (X.length = n) := h.1
 have hnc := h.2.1
 have hcm := h.2.2.1.1
 have hzv : (prog.info? 68).map (·.size) = some (#[.int .i64 t, .int .u64 ke, .int .u64 ro, .slice ao n cap] : Array Value).size := by kernel_rfl
 have c3 : (#[.int .i64 t, .int .u64 ke, .int .u64 ro, .slice ao n cap] : Array Value)[3]? = some (.slice ao n cap) := rfl
 obtain ⟨G, hG⟩ : ∃ G : Array Value, Hid (G = #[.int .i64 t, .int .u64 ke, .int .u64 ro, .slice ao n cap]) := ⟨_, rfl⟩
 rw [← hG.out] at hzv c3
 rw [← hG.out]
 refine (callsIn_wide (n := 5)).1 ?_
 refine callsIn_of_wp_marks func51 rfl trivial ?_ rfl
 simp only [ntmps51, List.size_toArray, List.length_cons, List.length_nil, Nat.reduceAdd, Nat.reduceSub, Array.replicate_succ, Array.replicate_zero, List.push_toArray, List.append_toArray, List.nil_append, List.cons_append]
 gi_wp2_with (first
  | (with_reducible refine xZz (fun _ => trivial) (by kernel_rfl) _ _ rfl G rfl ?_; intro B2 W2 hN2 hB2 hk)
  | (with_reducible refine inL_make (fun _ => trivial) (by kernel_rfl) _ rfl ?_; intro M W3 hN3 hM hk3; replace hB2 := hB2.next hk3; replace hk := btz hk hk3; have hka := (brz W3.heap.size W3).alloc (lrz _) (.cells #[.map (some M)] 87); have hU := Boxed.new W3 87 (.map (some M)); replace hB2 := hB2.next hka; have g3 := (hB2.cell 3).trans c3))
 have hwM : w.heap.size ≤ M := by have := hN3.out; have := hN2.out; omega
 have hMU : M < W3.heap.size := hM.lt
 have hb2l : B2 < W3.heap.size ∧ B2 ≠ M := by have := hN3.out; have := hN2.out; omega
 have hM0 := hM.next hka
 have hk0 := btz hk hka
 have hsz : (W3.alloc (.cells #[.map (some M)] 87)).heap.size = W3.heap.size + 1 := by simp
 generalize W3.alloc (.cells #[.map (some M)] 87) = W0 at hU hB2 hM0 hk0 hsz ⊢
 generalize W3.heap.size = U at hU hMU hb2l hsz ⊢
 clear hN2 hN3 hk hk3 hka hM g3
 refine wpIn_loop (fun a wr => ∃ (k : Nat) (u5 u14 u15 u16 u17 u18 u19 u39 : Value) (Ds : List Nat), a = { tmps := #[.agg G, .pointer (some ⟨B2, 0, none⟩), .map none, .pointer (some ⟨U, 0, none⟩), undef, u5, undef, undef, .map (some M), .pointer (some ⟨B2, 0, none⟩), .pointer (some ⟨B2, 3, none⟩), .slice ao n cap, .int .i64 n, .int .i64 k, u14, u15, u16, u17, u18, u19, undef, undef, undef, undef, undef, undef, undef, undef, undef, undef, undef, undef, undef, undef, undef, undef, undef, undef, undef, u39, undef], defers := mks Ds } ∧ k ≤ n ∧ Hid (MapF wr M ((X.take k).foldl (stpD X) fun _ => (0, 0))) ∧ Below w.heap.size w wr ∧ Boxed wr U 87 (.map (some M)) ∧ Blk wr B2 G 68 ∧ Hid (Ds.Nodup ∧ ∀ D ∈ Ds, U < D ∧ wr.heap[D]? = some (.deferred (some [])))) (fun a _ => n - (intOf (a.tmps.getD 13 undef)).toNat) ⟨0, undef, undef, undef, undef, undef, undef, undef, undef, [], rfl, Nat.zero_le _, hM0, hk0, hU, hB2, List.nodup_nil, fun D hD => absurd hD (List.not_mem_nil)⟩ ?_
 rintro a wr ⟨k, u5, u14, u15, u16, u17, u18, u19, u39, Ds, rfl, hkn0, hMk, hbw, hUw, hBw, hDs⟩
 clear hM0 hk0 hU hB2 hsz
 have cU := hUw.cell
 by_cases hkn : k < n
 ·obtain ⟨b, off, rfl, hbb, hrr⟩ := h.2.2.2.1 (by omega)
  have hr := qpz (hrr k hkn) (hbw.block b hbb)
  have hC := (h.2.2.2.2 k hkn)
  have hz := hC.size
  have h1c := hC.one
  have hkn' : (k : Int) < n := by omega
  clear hrr
  gi_wp2_with (first
   | (with_reducible refine vzz (fun _ => trivial) (by kernel_rfl) 43 _ rfl b _ rfl (Cf k) hr _ underlying43 (by kernel_rfl) (qfz hz) ?_)
   | ((with_reducible refine wrz (fun _ => trivial) (by kernel_rfl) _ rfl zC qwz ?_); intro R W5 hN5 hR5 hk5)
   | ((with_reducible refine qOz (fun _ => trivial) (by kernel_rfl) _ _ _ rfl R rfl (Cf k) rfl zC hR5 (qfz hz) (qrz.trans hz.symm) h1c ?_); intro W6 hR6 o6; have k6 := o6.below wr.heap.size wr (by have := hN5.out.1; omega) hk5; have hB6 := hBw.next k6)
   | (with_reducible refine qPz (fun _ => trivial) (by kernel_rfl) _ _ rfl R rfl (Cf k) _ hR6 _ underlying43 (by kernel_rfl) (qfz hz) ?_)
   | (with_reducible refine qPz (fun _ => trivial) (by kernel_rfl) _ _ rfl B2 rfl G _ hB6 _ underlying68 (by kernel_rfl) hzv ?_)
   | (refine ⟨trivial, ?_⟩; gi_at_call 72; (with_reducible refine (callsIn_wide.2 xYz).mono ?_); rintro e w2 ⟨Bv, Bd, rfl, hBv, hBd, hvd, hv1, hd1, hb2⟩))
  have hMw6 := (hMk.out.next k6).next hb2
  have hwr6 : wr.heap.size ≤ W6.heap.size := k6.size
  have hUl := hUw.lt
  have hUW2 : Boxed w2 U 87 (.map (some M)) := (hb2.block _ (by omega)).trans ((k6.block _ hUl).trans hUw)
  have hBW2 : Blk w2 B2 G 68 := hB6.next hb2
  have hRW2 : Blk w2 R (Cf k) 43 := hR6.next hb2
  have hk2 : Below w.heap.size w w2 := (btz hbw k6).trans (hb2.mono (Nat.le_trans hbw.size hwr6))
  have hM2l : M < w2.heap.size := hMw6.lt
  have hDs2 : ∀ D ∈ Ds, (U < D ∧ w2.heap[D]? = some (.deferred (some []))) ∧ D < w2.heap.size := fun D hD => by
   obtain ⟨q1, q2⟩ := hDs.out.2 D hD
   have ql := (Array.getElem?_eq_some_iff.1 q2).1
   exact ⟨⟨q1, (hb2.block D (by omega)).trans ((k6.block D ql).trans q2)⟩, by have := hb2.size; omega⟩
  have hnd : Hid Ds.Nodup := hDs.out.1
  have hRM : R ≠ M := by have := hN5.out.1; omega
  have hdM : Bd ≠ M := by omega
  have hvM : Bv ≠ M := by omega
  obtain ⟨fk, hfk⟩ : ∃ fk, Hid ((X.take k).foldl (stpD X) (fun _ => (0, 0)) = fk) := ⟨_, rfl⟩
  rw [hfk.out] at hMw6
  have hfb : Hid (∀ i, 0 ≤ (fk i).1 ∧ (fk i).1 ≤ 17596481011712) := by
   show ∀ i, 0 ≤ (fk i).1 ∧ (fk i).1 ≤ 17596481011712
   intro i
   have h1 := hld_le (X := X) (X.take k) (fun _ => (0, 0)) 0 (fun x hx => hll x (List.mem_of_mem_take hx)) (fun _ => ⟨Int.le_refl _, Int.le_refl _⟩) i
   have h2 : (X.take k).length ≤ k := List.length_take_le ..
   rw [hfk.out] at h1
   omega
  have hc0 := hC.id
  obtain ⟨d, hd⟩ : ∃ d, Hid ((oat X k).id = d) := ⟨_, rfl⟩
  rw [hd.out] at hc0
  clear hMk hk5 hR5 o6 hR6 hB6 hBw k6 hr hDs hUw cU hN5 hb2
  have hD : ∀ b, (b ≠ M ∧ b < w2.heap.size) → b < w2.heap.size := fun b hb => hb.2
  have hDw : ∀ b, b < w.heap.size → (b ≠ M ∧ b < w2.heap.size) := fun b hb => ⟨by omega, by have := hk2.size; omega⟩
  have hX2 : ObsF (fun b => b ≠ M ∧ b < w2.heap.size) (fun b => b ≠ M ∧ b < w2.heap.size) w2 _ n cap X Cf := (h.laterK (fun b hb => hk2.block b hb) (fun b hb => hk2.block b hb)).wide (fun b hb => hDw b hb) (fun b hb => hDw b hb)
  obtain ⟨al, nl, cl, c5, hL⟩ := hC.links
  have hL2 : CtD (fun b => b ≠ M ∧ b < w2.heap.size) w2 al nl cl (oat X k).links := (hL.laterK fun b hb => hk2.block b hb).wide fun b hb => hDw b hb
  refine wpIn_rangeFunc_ownH rfl (by omega) (gf := 99) (lb := #[.pointer (some ⟨Bd, 0, none⟩), .pointer (some ⟨Bv, 0, none⟩)]) rfl trivial (enters_of func99 (by kernel_rfl) rfl)
   (xbz _ (by omega) Bd Bv (fun b => b ≠ M ∧ b < w2.heap.size) hs hn16 w2 hD ⟨hdM, hBd.lt⟩ ⟨hvM, hBv.lt⟩ hBd c5 (by rw [← hG.out]; exact hBv) hX2 hL2) keepsK_t (keepsK_b hD) (brz _ _) (fun _ => rfl)
   (fun pre W => MapF W M ((pre.map fun m => (oat X m).id).foldl (stpH d) fk) ∧ Below w.heap.size w2 W ∧ Keeps (fun b => b ≠ M ∧ b < w2.heap.size) w2 W)
   (fun cd pre W => False ∧ Below w.heap.size w2 W)
   (OwnFrom.and (v7z hM2l _) (OwnFrom.and (ownFrom_below hk2.size hk2.size) (kXz hD (lrz _))))
   (fun cd => OwnFrom.and (ownFrom_pure _ _) (ownFrom_below hk2.size hk2.size))
   ⟨hMw6, brz _ _, Keeps.refl _ _⟩
   (fun x a2 W => ∃ R', a2 = { tmps := #[.agg G, .pointer (some ⟨B2, 0, none⟩), .map none, .pointer (some ⟨U, 0, none⟩), undef, .pointer (some ⟨R, 0, none⟩), .pointer (some ⟨R', 0, none⟩), undef, .map (some M), .pointer (some ⟨B2, 0, none⟩), .pointer (some ⟨B2, 3, none⟩), .slice (some ⟨b, off, none⟩) n cap, .int .i64 n, .int .i64 k, .bool true, .pointer (some ⟨b, off + k * 51, none⟩), .agg (Cf k), .agg G, .agg (Cf k), .func (.func 99) #[] #[.pointer (some ⟨Bd, 0, none⟩), .pointer (some ⟨Bv, 0, none⟩)], .agg (cfo X Cf x), undef, undef, undef, undef, undef, undef, undef, undef, undef, undef, undef, undef, undef, undef, undef, undef, undef, undef, u39, undef], defers := [] } ∧ Blk W R' (cfo X Cf x) 43 ∧ R' ≠ M)
   (fun x a2 s A B row ⟨R', e, hb, hn⟩ hg hr => ⟨R', e, hb.own hg (fun r q => (hr r q).2), hn⟩)
   ?assign ?body ?done ?stop
  case assign =>
   rintro l pre x W K ⟨hI1, hI2, hI3⟩ hK
   have hco := jfz h x
   dsimp only [encO]
   generalize cfo X Cf x = Cx at hco hK ⊢
   refine (fun (hh : ∀ T : Array Value, T = #[.agg G, .pointer (some ⟨B2, 0, none⟩), .map none, .pointer (some ⟨U, 0, none⟩), undef, .pointer (some ⟨R, 0, none⟩), undef, undef, .map (some M), .pointer (some ⟨B2, 0, none⟩), .pointer (some ⟨B2, 3, none⟩), .slice (some ⟨b, off, none⟩) n cap, .int .i64 n, .int .i64 k, .bool true, .pointer (some ⟨b, off + k * 51, none⟩), .agg (Cf k), .agg G, .agg (Cf k), .func (.func 99) #[] #[.pointer (some ⟨Bd, 0, none⟩), .pointer (some ⟨Bv, 0, none⟩)], .agg Cx, undef, undef, undef, undef, undef, undef, undef, undef, undef, undef, undef, undef, undef, undef, undef, undef, undef, undef, u39, undef] → Code.wpIn _ _ _ _ _ { tmps := T, defers := [] } W) => hh _ (by kernel_rfl)) ?_
   rintro T rfl
   have hsx := hco.size
   have h1x := hco.one
   clear hco
   gi_wp2_with (first
    | ((with_reducible refine wrz (fun _ => trivial) (by kernel_rfl) _ rfl zC qwz ?_); intro R' W5 hN5 hR5 hk5)
    | ((with_reducible refine qOz (fun _ => trivial) (by kernel_rfl) _ _ _ rfl R' rfl Cx rfl zC hR5 (qfz hsx) (qrz.trans hsx.symm) h1x ?_); intro W6 hR6 o6))
   have kb : Below W.heap.size W W6 := o6.below W.heap.size W (by have := hN5.out; omega) hk5
   have hRM' : R' ≠ M := by have := hN5.out; have := hI1.lt; omega
   exact hK _ _ (xpz kb _) ⟨kb.size, fun b hb => kb.block b (ltz hb.2 hI3.1)⟩ ⟨hI1.next kb, hI2.trans (kb.mono (Nat.le_trans hk2.size hI2.size)), hI3.trans ⟨kb.size, fun b hb => kb.block b (ltz hb.2 hI3.1)⟩⟩ ⟨R', rfl, hR6, hRM'⟩
  case body =>
   rintro l pre x a2 W hl ⟨r2, hr2⟩ ⟨hMp, hI2, hI3⟩ ⟨R', rfl, hR', hRM'⟩ hlt
   have hci := (jfz h x).id
   obtain ⟨i, hi⟩ : ∃ i, Hid ((oat X x).id = i) := ⟨_, rfl⟩
   rw [hi.out] at hci
   have ci : W.cell? ⟨R', 0, none⟩ = some (.int .u64 i) := (hR'.cell 0).trans hci
   generalize cfo X Cf x = Cx at hR' ⊢
   have hUW : Boxed W U 87 (.map (some M)) := (hI3.2 U ⟨by omega, hUW2.lt⟩).trans hUW2
   have cUW := hUW.cell
   have hRw : Blk W R (Cf k) 43 := (hI3.2 R ⟨hRM, hRW2.lt⟩).trans hRW2
   have cd : W.cell? ⟨R, 0, none⟩ = some (.int .u64 d) := (hRw.cell 0).trans hc0
   have hcb := u4z (d := d) (pre.map fun m => (oat X m).id) fk hfb.out i
   obtain ⟨f, hfo⟩ : ∃ f, Hid (f = (pre.map fun m => (oat X m).id).foldl (stpH d) fk) := ⟨_, rfl⟩
   rw [← hfo.out] at hMp hcb
   have hle : (hitO X (oat X k).links).length ≤ (oat X k).links.length := List.length_filterMap_le ..
   have hlk := hll _ (qQz (show k < X.length by rw [hn.out]; exact hkn))
   rw [List.length_map] at hcb
   obtain ⟨c, hc⟩ : ∃ c, Hid ((f i).1 = c) := ⟨_, rfl⟩
   obtain ⟨g, hg⟩ : ∃ g, Hid ((f i).2 = g) := ⟨_, rfl⟩
   rw [hc.out] at hcb
   have hwr : IntKind.i64.wrap (c + 1) = c + 1 := by rw [IntKind.wrap_i64]; omega
   clear hcb hle hlk hlt
   have hfi : f i = (c, g) := Prod.ext hc.out hg.out
   by_cases hc0' : c = 0
   ·subst hc0'
    gi_wp2_with (first
     | (with_reducible refine xqz (fun _ => trivial) (by kernel_rfl) _ _ rfl M rfl i rfl f hMp ?_; rw [hc.out, hg.out])
     | ((with_reducible refine wrz (fun _ => trivial) (by kernel_rfl) _ rfl #[.int .i64 0, .int .u64 0] Tryz.zeroValue118 ?_); intro R7 W7 hN7 hR7 hk7)
     | ((with_reducible refine qOz (fun _ => trivial) (by kernel_rfl) _ _ _ rfl R7 rfl #[.int .i64 0, .int .u64 g] rfl _ hR7 (by kernel_rfl) (xCz _ _ _ _) (ktz _ _ _ _) ?_); intro W8 hR8 o8; have k8 := o8.below W.heap.size W (by have := hN7.out.1; omega) hk7; have z8 : W8.cell? ⟨R7, 0, none⟩ = some (.int .i64 0) := hR8.cell 0; have y8 : W8.cell? ⟨R, 0, none⟩ = some (.int .u64 d) := (k8.cell (p := ⟨R, 0, none⟩) hRw.lt).trans cd)
     | ((with_reducible refine wLz (fun _ => trivial) (by kernel_rfl) _ _ _ rfl R7 1 rfl (.int .u64 d) rfl (kQz _ _) _ _ hR8 (by kernel_rfl) (two_lt1 _ _) (jyz _ _) ?_); intro W9 hR9 o9; have k9 := o9.below W.heap.size W (by have := hN7.out.1; omega) k8; replace hR9 : Blk W9 R7 #[.int .i64 0, .int .u64 d] 118 := hR9; have z9 : W9.cell? ⟨R7, 0, none⟩ = some (.int .i64 0) := hR9.cell 0)
     | ((with_reducible refine wLz (fun _ => trivial) (by kernel_rfl) _ _ _ rfl R7 0 rfl (.int .i64 1) rfl (kQz _ _) _ _ hR9 (by kernel_rfl) (uZz _ _) (jyz _ _) ?_); intro W10 hR10 o10; have k10 := o10.below W.heap.size W (by have := hN7.out.1; omega) k9; (try rw [hwr] at hR10); replace hR10 : Blk W10 R7 #[.int .i64 1, .int .u64 d] 118 := hR10; have cu10 : W10.cell? ⟨U, 0, none⟩ = some (.map (some M)) := (k10.cell (p := ⟨U, 0, none⟩) hUW.lt).trans cUW; have ci10 : W10.cell? ⟨R', 0, none⟩ = some (.int .u64 i) := (k10.cell (p := ⟨R', 0, none⟩) hR'.lt).trans ci)
     | (with_reducible refine qPz (fun _ => trivial) (by kernel_rfl) _ _ rfl R7 rfl _ _ hR10 _ underlying118 (by kernel_rfl) (by kernel_rfl) ?_)
     | ((with_reducible refine bbz (fun _ => trivial) (by kernel_rfl) _ _ _ rfl M rfl i rfl (1, d) rfl f (hMp.next k10) ?_); intro ob hMq))
    have hme : (fun j => if j = i then (1, d) else f j) = ((pre ++ [x]).map fun m => (oat X m).id).foldl (stpH d) fk := by
     rw [List.map_append, List.foldl_append, ← hfo.out]
     show _ = stpH d f (oat X x).id
     rw [hi.out]
     funext j
     unfold stpH
     rw [hc.out, hg.out]
     rfl
    rw [hme] at hMq
    exact ⟨(xpz k10 _).trans (KeepsFrom.of_grownBy (grownBy_putObj' _ M ob) (fun j e => by cases e; exact hM2l)), ⟨by simpa [World.putObj] using k10.size, fun b' hb' => (World.putObj_heap_other hb'.1).trans (k10.block b' (ltz hb'.2 hI3.1))⟩, hMq, hI2.trans ((k10.mono (Nat.le_trans hk2.size hI2.size)).trans ⟨rfl, rfl, rfl, by simp [World.putObj], fun q hq => World.putObj_heap_other (by omega)⟩), hI3.trans ⟨by simpa [World.putObj] using k10.size, fun b' hb' => (World.putObj_heap_other hb'.1).trans (k10.block b' (ltz hb'.2 hI3.1))⟩⟩
   ·have hcb' : (c == 0) = false := by simpa using hc0'
    gi_wp2_with (first
     | (with_reducible refine xqz (fun _ => trivial) (by kernel_rfl) _ _ rfl M rfl i rfl f hMp ?_; rw [hc.out, hg.out])
     | ((with_reducible refine wrz (fun _ => trivial) (by kernel_rfl) _ rfl #[.int .i64 0, .int .u64 0] Tryz.zeroValue118 ?_); intro R7 W7 hN7 hR7 hk7)
     | ((with_reducible refine qOz (fun _ => trivial) (by kernel_rfl) _ _ _ rfl R7 rfl #[.int .i64 c, .int .u64 g] rfl _ hR7 (by kernel_rfl) (xCz _ _ _ _) (ktz _ _ _ _) ?_); intro W8 hR8 o8; have k8 := o8.below W.heap.size W (by have := hN7.out.1; omega) hk7; have z8 : W8.cell? ⟨R7, 0, none⟩ = some (.int .i64 c) := hR8.cell 0; have y8 : W8.cell? ⟨R, 0, none⟩ = some (.int .u64 d) := (k8.cell (p := ⟨R, 0, none⟩) hRw.lt).trans cd)
     | ((with_reducible refine wLz (fun _ => trivial) (by kernel_rfl) _ _ _ rfl R7 0 rfl (.int .i64 (c + 1)) rfl (kQz _ _) _ _ hR8 (by kernel_rfl) (uZz _ _) (jyz _ _) ?_); intro W10 hR10 o10; have k10 := o10.below W.heap.size W (by have := hN7.out.1; omega) k8; (try rw [hwr] at hR10); replace hR10 : Blk W10 R7 #[.int .i64 (c + 1), .int .u64 g] 118 := hR10; have cu10 : W10.cell? ⟨U, 0, none⟩ = some (.map (some M)) := (k10.cell (p := ⟨U, 0, none⟩) hUW.lt).trans cUW; have ci10 : W10.cell? ⟨R', 0, none⟩ = some (.int .u64 i) := (k10.cell (p := ⟨R', 0, none⟩) hR'.lt).trans ci)
     | (with_reducible refine qPz (fun _ => trivial) (by kernel_rfl) _ _ rfl R7 rfl _ _ hR10 _ underlying118 (by kernel_rfl) (by kernel_rfl) ?_)
     | ((with_reducible refine bbz (fun _ => trivial) (by kernel_rfl) _ _ _ rfl M rfl i rfl (c + 1, g) rfl f (hMp.next k10) ?_); intro ob hMq))
    have hme : (fun j => if j = i then (c + 1, g) else f j) = ((pre ++ [x]).map fun m => (oat X m).id).foldl (stpH d) fk := by
     rw [List.map_append, List.foldl_append, ← hfo.out]
     show _ = stpH d f (oat X x).id
     rw [hi.out]
     funext j
     unfold stpH
     rw [hc.out, hg.out, if_neg hc0']
    rw [hme] at hMq
    exact ⟨(xpz k10 _).trans (KeepsFrom.of_grownBy (grownBy_putObj' _ M ob) (fun j e => by cases e; exact hM2l)), ⟨by simpa [World.putObj] using k10.size, fun b' hb' => (World.putObj_heap_other hb'.1).trans (k10.block b' (ltz hb'.2 hI3.1))⟩, hMq, hI2.trans ((k10.mono (Nat.le_trans hk2.size hI2.size)).trans ⟨rfl, rfl, rfl, by simp [World.putObj], fun q hq => World.putObj_heap_other (by omega)⟩), hI3.trans ⟨by simpa [World.putObj] using k10.size, fun b' hb' => (World.putObj_heap_other hb'.1).trans (k10.block b' (ltz hb'.2 hI3.1))⟩⟩
  case done =>
   rintro D ys W hD' rfl ⟨hI1, hI2, hI3⟩ hK
   gi_wp2
   refine ⟨⟨k + 1, _, _, _, _, _, _, _, _, D :: Ds, rfl, by omega, ?_, hk2.trans hI2, (hI3.2 U ⟨by omega, hUW2.lt⟩).trans hUW2, (hI3.2 B2 ⟨hb2l.2, hBW2.lt⟩).trans hBW2, ?_⟩, ?_⟩
   ·show MapF W M ((X.take (k + 1)).foldl (stpD X) fun _ => (0, 0))
    rw [hld_succ (by rw [hn.out]; exact hkn), hfk.out]
    unfold stpD
    rw [hd.out]
    exact hI1
   ·refine ⟨List.nodup_cons.2 ⟨fun e => by have := (hDs2 D e).2; omega, hnd.out⟩, fun E hE => ?_⟩
    rcases List.mem_cons.1 hE with q | q
    ·rw [q]; exact ⟨by have := hUW2.lt; omega, hK⟩
    ·obtain ⟨⟨q1, q2⟩, q3⟩ := hDs2 E q
     exact ⟨q1, (hI3.2 E ⟨by omega, q3⟩).trans q2⟩
   ·simp [intOf]; omega
  case stop =>
   rintro D cd pre W hD hpre ⟨h, _⟩ hK
   exact h.elim
 ·obtain rfl : k = n := by omega
  gi_wp2
  refine jaz (B := w.heap.size) Ds wr hDs.out.1 (fun D hD => ⟨by have := (hDs.out.2 D hD).1; omega, (hDs.out.2 D hD).2⟩) fun W' k1 k2 => ?_
  refine ⟨.map (some M), ?_, M, rfl, ?_, hwM, hbw.trans k1⟩
  ·simp [results, Tryz.f51, go_sem]
  ·have hMk' := hMk.out
   rw [List.take_of_length_le (by rw [hn.out]; exact lrz _)] at hMk'
   exact hMk'.block (k2 M (fun e => by have := (hDs.out.2 M e).1; omega))
def upsF (f : Int → Int × Int) : Nat → Int × Int → List Int
 | 0, _ => []
 | n + 1, p => if p.1 = 0 then [] else p.2 :: upsF f n (f p.2)
theorem Oth.grown {B : Nat} {w W : World} (h : Oth B w W) : w.grownBy W (some B) :=
 have b := h.below B w (lrz _) (brz _ _)
 ⟨b.os, b.tape, b.output, b.size, fun k _ hk => h.block k (fun e => hk (by rw [e]))⟩
variable {f : Int → Int × Int}
theorem above1_T (N : Nat) (hN : 1 ≤ N) (Bh Bi Bv M : Nat) (D : Nat → Prop) {t ke ro i : Int} (hn16 : n ≤ 4096) (w : World) (hD : ∀ b, D b → b < w.heap.size) (hDh : D Bh) (hDi : D Bi) (hDv : D Bv) (hDM : D M)
  (hBh : Boxed w Bh 87 (.map (some M))) (hBi : Boxed w Bi 22 (.int .u64 i)) (hBv : Blk w Bv #[.int .i64 t, .int .u64 ke, .int .u64 ro, .slice ao n cap] 68) (hM : MapF w M f) :
  SeqT Fence.wide N prog 141 #[.pointer (some ⟨Bh, 0, none⟩), .pointer (some ⟨Bi, 0, none⟩), .pointer (some ⟨Bv, 0, none⟩)] (fun x => #[.int .u64 x]) D 118 (fun xs => xs = upsF f n (f i)) n w := by
 intro l J W hW hJ hY h0
 have c3 : (#[.int .i64 t, .int .u64 ke, .int .u64 ro, .slice ao n cap] : Array Value)[3]? = some (.slice ao n cap) := rfl
 have hDW : ∀ b, D b → b < W.heap.size := fun b hb => ltz (hD b hb) hW.size
 have hHW : Boxed W Bh 87 (.map (some M)) := (hW.block _ (hD _ hDh)).trans hBh
 have hIW : Boxed W Bi 22 (.int .u64 i) := (hW.block _ (hD _ hDi)).trans hBi
 have hVW : Blk W Bv _ 68 := (hW.block _ (hD _ hDv)).trans hBv
 have hMW : MapF W M f := hM.block (hW.block _ (hD _ hDM))
 have cH := hHW.cell
 have cI := hIW.cell
 have cV := (hVW.cell 3).trans c3
 refine callsIn_of_wp func141 rfl trivial ?_ rfl
 simp only [ntmps141, List.size_toArray, List.length_cons, List.length_nil, Nat.reduceAdd, Nat.reduceSub, Array.replicate_succ, Array.replicate_zero, List.push_toArray, List.append_toArray, List.nil_append, List.cons_append]
 gi_wp2_with (first
  | (with_reducible refine xqz (fun _ => trivial) (by kernel_rfl) _ _ rfl M rfl i rfl f hMW ?_)
  | ((with_reducible refine wrz (fun _ => trivial) (by kernel_rfl) _ rfl #[.int .i64 0, .int .u64 0] Tryz.zeroValue118 ?_); intro R W7 hN7 hR7 hk7)
  | ((with_reducible refine qOz (fun _ => trivial) (by kernel_rfl) _ _ _ rfl R rfl #[.int .i64 (f i).1, .int .u64 (f i).2] rfl _ hR7 (by kernel_rfl) (xCz _ _ _ _) (ktz _ _ _ _) ?_); intro W8 hR8 o8; have k8 := o8.below W.heap.size W (by have := hN7.out.1; omega) hk7; have cV8 : W8.cell? ⟨Bv, 3, none⟩ = some (.slice ao n cap) := (k8.cell (p := ⟨Bv, 3, none⟩) hVW.lt).trans cV))
 have hRW : W.heap.size ≤ R := by have := hN7.out.1; omega
 have hJ8 := hJ [] W W8 none h0 (below_grown k8) (fun r e => by cases e)
 have hK8 : Keeps D W W8 := ⟨k8.size, fun b hb => k8.block b (hDW b hb)⟩
 clear hN7 hR7 hk7 o8 cV8
 gi_loopw [13] (fun j wr => ∃ (k : Nat) (pre : List Int) (c g : Int), k ≤ n ∧ j = .int .i64 k ∧ J pre wr ∧ Keeps D W wr ∧ Blk wr R #[.int .i64 c, .int .u64 g] 118 ∧ Hid (pre ++ upsF f (n - k) (c, g) = upsF f n (f i)) ∧ Hid (pre.length ≤ k)) (fun j _ => n - (intOf j).toNat)
 case atStart => exact ⟨0, [], (f i).1, (f i).2, Nat.zero_le _, rfl, hJ8, hK8, hR8, rfl, lrz _⟩
 case round =>
  obtain ⟨k, pre, c, g, hk, rfl, hJk, hkp, hRk, heq, hpl⟩ := hrel
  have z0 : wr.cell? ⟨R, 0, none⟩ = some (.int .i64 c) := hRk.cell 0
  have z1 : wr.cell? ⟨R, 1, none⟩ = some (.int .u64 g) := hRk.cell 1
  clear hJ8 hK8 hR8
  by_cases hkn : k < n
  ·have hkn' : (k : Int) < n := by omega
   have hnk : Hid (n - k = (n - (k + 1)) + 1) := by show n - k = (n - (k + 1)) + 1; omega
   by_cases hc0 : c = 0
   ·subst hc0
    have hxs : Hid (pre = upsF f n (f i)) := by
     show pre = upsF f n (f i)
     rw [← heq.out, hnk.out]
     simp [upsF]
    gi_wp2
    refine ⟨fun f e => (by cases e), ?_⟩
    gi_wp2
    refine bodyPost_ret (results_none rfl _ _ _) rfl ?_
    exact ⟨⟨_, rfl⟩, _, hxs.out, hJk⟩
   ·have hcb : (c == 0) = false := by simpa using hc0
    have hup : Hid (upsF f (n - k) (c, g) = g :: upsF f (n - (k + 1)) (f g)) := by
     show upsF f (n - k) (c, g) = _
     rw [hnk.out]
     simp [upsF, hc0]
    gi_wp2
    obtain ⟨fn, tmps, assign, body, hyy, hR⟩ := hY pre g wr hJk (Nat.lt_of_le_of_lt hpl.out hkn)
    rw [hyy]
    gi_wp2
    refine hR.mono ?_
    rintro e W3 ⟨rfl, hJ3, hk3⟩
    have hR3 : Blk W3 R #[.int .i64 c, .int .u64 g] 118 := hk3.2 R _ hRW hRk
    have hkp3 := hkp.trans hk3.1
    have hH3 : Boxed W3 Bh 87 (.map (some M)) := (hkp3.2 _ hDh).trans hHW
    have hM3 : MapF W3 M f := hMW.block (hkp3.2 _ hDM)
    have cH3 := hH3.cell
    have y1 : W3.cell? ⟨R, 1, none⟩ = some (.int .u64 g) := hR3.cell 1
    clear hR z0 z1 hyy
    gi_wp2_with (first
     | (with_reducible refine xqz (fun _ => trivial) (by kernel_rfl) _ _ rfl M rfl g rfl f hM3 ?_)
     | ((with_reducible refine qOz (fun _ => trivial) (by kernel_rfl) _ _ _ rfl R rfl #[.int .i64 (f g).1, .int .u64 (f g).2] rfl _ hR3 (by kernel_rfl) (xCz _ _ _ _) (ktz _ _ _ _) ?_); intro W4 hR4 o4))
    go_roundw
    case rel => exact ⟨k + 1, pre ++ [g], (f g).1, (f g).2, by omega, by go_num, hJ _ W3 W4 (some R) hJ3 o4.grown (fun r e => by cases e; exact ⟨hRW, _, hR3⟩), hkp3.trans ⟨Nat.le_of_eq o4.size.symm, fun b hb => o4.block b (by have := hDW b hb; omega)⟩, hR4, (by show (pre ++ [g]) ++ upsF f (n - (k + 1)) (f g) = _; rw [← heq.out, hup.out]; simp), (by show (pre ++ [g]).length ≤ k + 1; rw [List.length_append]; have := hpl.out; simp; omega)⟩
    case measure => simp [intOf]; omega
  ·obtain rfl : k = n := by omega
   have hxs : Hid (pre = upsF f k (f i)) := by
    show pre = upsF f k (f i)
    rw [← heq.out, Nat.sub_self]
    simp [upsF]
   gi_wp2
   go_end0
   exact ⟨⟨_, rfl⟩, _, hxs.out, hJk⟩
theorem bJz {G : Array Value} {i : Int} {M : Nat} : Calls prog 108 #[.agg G, .int .u64 i, .map (some M)] w fun e w' => ∃ Bv Bi Bh, e = .returned (.func (.func 141) #[] #[.pointer (some ⟨Bh, 0, none⟩), .pointer (some ⟨Bi, 0, none⟩), .pointer (some ⟨Bv, 0, none⟩)]) ∧ Blk w' Bv G 68 ∧ Boxed w' Bi 22 (.int .u64 i) ∧ Boxed w' Bh 87 (.map (some M)) ∧ (w.heap.size ≤ Bv ∧ w.heap.size ≤ Bi ∧ w.heap.size ≤ Bh) ∧ Below w.heap.size w w' := by
 go_enter func108, ntmps108
 go_wp2_with (first
  | (with_reducible refine qcz rfl 68 _ rfl G rfl ?_; intro Bv W hB hb hk))
 have k1 := (brz W.heap.size W).alloc (lrz _) (.cells #[.int .u64 i] 22)
 have k2 := k1.alloc (by simp) (.cells #[.map (some M)] 87)
 have b1 := (Boxed.new W 22 (.int .u64 i)).alloc (.cells #[.map (some M)] 87)
 have b2 := Boxed.new (W.alloc (.cells #[.int .u64 i] 22)) 87 (.map (some M))
 rw [World.size_alloc] at b2
 go_ret
 refine ⟨Bv, W.heap.size, _, rfl, hb.next k2, b1, b2, ⟨?_, hk.size, ?_⟩, btz hk k2⟩
 ·have := hB.out; omega
 ·have := hk.size; simp; omega
variable {β : Type}
theorem ugz {B U : Nat} {t t' : TypeId} (hU : U < B) (f : β → Value) : StayT B t (fun s W => Boxed W U t' (f s)) := fun s A A' row hs hg hr =>
 (hg.block U hs.lt (fun e => by have := (hr U e.symm).1; omega)).trans hs
theorem uhz {B n0 : Nat} {t : TypeId} {w0 : World} (hB : n0 ≤ B) (hn : n0 ≤ w0.heap.size) : StayT B t (fun (_ : β) W => Below n0 w0 W) := fun s A A' row hs hg hr =>
 hs.trans ⟨hg.os, hg.tape, hg.output, hg.size, fun k hk => hg.block k (ltz hk (Nat.le_trans hn hs.size)) (fun e => by have := (hr k e.symm).1; omega)⟩
theorem StayT.and {B : Nat} {t : TypeId} {I I' : β → World → Prop} (h : StayT B t I) (h' : StayT B t I') : StayT B t (fun s W => I s W ∧ I' s W) := fun s A A' row hs hg hr => ⟨h s A A' row hs.1 hg hr, h' s A A' row hs.2 hg hr⟩
def topF (f : Int → Int × Int) (n : Nat) (i : Int) : Int := (upsF f n (f i)).getLast?.getD i
theorem bzz {t ke ro i : Int} {n cap M : Nat} (hn16 : n ≤ 4096) (hM : MapF w M f) : Calls prog 85 #[.agg #[.int .i64 t, .int .u64 ke, .int .u64 ro, .slice ao n cap], .int .u64 i, .map (some M)] w fun e w' => e = .returned (.bool (topF f n i == ro)) ∧ Below w.heap.size w w' := by
 have hzv : (prog.info? 68).map (·.size) = some (#[.int .i64 t, .int .u64 ke, .int .u64 ro, .slice ao n cap] : Array Value).size := by kernel_rfl
 have g2 : (#[.int .i64 t, .int .u64 ke, .int .u64 ro, .slice ao n cap] : Array Value)[2]? = some (.int .u64 ro) := rfl
 obtain ⟨G, hG⟩ : ∃ G : Array Value, Hid (G = #[.int .i64 t, .int .u64 ke, .int .u64 ro, .slice ao n cap]) := ⟨_, rfl⟩
 rw [← hG.out] at hzv g2
 rw [← hG.out]
 refine (callsIn_wide (n := 5)).1 ?_
 refine callsIn_of_wp_marks func85 rfl trivial ?_ rfl
 simp only [ntmps85, List.size_toArray, List.length_cons, List.length_nil, Nat.reduceAdd, Nat.reduceSub, Array.replicate_succ, Array.replicate_zero, List.push_toArray, List.append_toArray, List.nil_append, List.cons_append]
 gi_wp2_with (first
  | (with_reducible refine xZz (fun _ => trivial) (by kernel_rfl) _ _ rfl G rfl ?_; intro B3 W3 hN3 hB3 hk; have hka := (brz W3.heap.size W3).alloc (lrz _) (.cells #[.int .u64 i] 22); have hU := Boxed.new W3 22 (.int .u64 i); have hB3a := hB3.next hka)
  | (with_reducible refine qPz (fun _ => trivial) (by kernel_rfl) _ _ rfl B3 rfl G _ hB3a _ underlying68 (by kernel_rfl) hzv ?_)
  | (refine ⟨trivial, ?_⟩; gi_at_call 108; (with_reducible refine (callsIn_wide.2 bJz).mono ?_); rintro e w2 ⟨Bv, Bi, Bh, rfl, hBv, hBi, hBh, ⟨hv1, hi1, hh1⟩, hb2⟩))
 have hwU : w.heap.size ≤ W3.heap.size := hk.size
 have hsz : (W3.alloc (.cells #[.int .u64 i] 22)).heap.size = W3.heap.size + 1 := by simp
 rw [hsz] at hv1 hi1 hh1 hb2
 have hU2 : Boxed w2 W3.heap.size 22 (.int .u64 i) := (hb2.block _ (by omega)).trans hU
 have hb3l : B3 < W3.heap.size := hB3.lt
 have hB32 : Blk w2 B3 G 68 := (hb2.block _ (by omega)).trans hB3a
 have hk2 : Below w.heap.size w w2 := (btz hk hka).trans (hb2.mono (by omega))
 have hMl := hM.lt
 have hM2 : MapF w2 M f := hM.block (hk2.block _ hMl)
 generalize W3.heap.size = U at hwU hv1 hi1 hh1 hU2 hb3l ⊢
 clear hU hB3a hka hb2 hB3 hk hN3 hsz
 have hU2l := hU2.lt
 have hD : ∀ b, (b < U ∨ b = Bh ∨ b = Bi ∨ b = Bv) → b < w2.heap.size := fun b hb => by
  rcases hb with q | q | q | q
  ·omega
  ·rw [q]; exact hBh.lt
  ·rw [q]; exact hBi.lt
  ·rw [q]; exact hBv.lt
 refine vPz rfl (by omega) (gf := 141) (lb := #[.pointer (some ⟨Bh, 0, none⟩), .pointer (some ⟨Bi, 0, none⟩), .pointer (some ⟨Bv, 0, none⟩)]) rfl trivial (enters_of func141 (by kernel_rfl) rfl)
  (above1_T _ (by omega) Bh Bi Bv M (fun b => b < U ∨ b = Bh ∨ b = Bi ∨ b = Bv) hn16 w2 hD (.inr (.inl rfl)) (.inr (.inr (.inl rfl))) (.inr (.inr (.inr rfl))) (.inl (by omega)) hBh hBi (by rw [← hG.out]; exact hBv) hM2) hD (brz _ _) (fun _ => rfl)
  (fun pre W => Boxed W U 22 (.int .u64 (pre.getLast?.getD i)) ∧ Below U w2 W)
  (OwnFrom.and (Own.from (boxed_own _ _ _) _) (ownFrom_below (by omega) (by omega)))
  (StayT.and (ugz hU2l _) (uhz (by omega) (by omega)))
  ⟨hU2, brz _ _⟩
  (fun x => { tmps := #[.agg G, .int .u64 i, .map (some M), .pointer (some ⟨B3, 0, none⟩), undef, undef, .bool false, .pointer (some ⟨U, 0, none⟩), .int .u64 x, .int .u64 i, .agg G, .int .u64 i, .map (some M), .func (.func 141) #[] #[.pointer (some ⟨Bh, 0, none⟩), .pointer (some ⟨Bi, 0, none⟩), .pointer (some ⟨Bv, 0, none⟩)], .int .u64 x, undef, undef, undef, undef, undef, undef], defers := [] })
  ?assign ?body ?done
 case assign =>
  intro l x W K hK
  refine (fun (hh : ∀ T : Array Value, T = #[.agg G, .int .u64 i, .map (some M), .pointer (some ⟨B3, 0, none⟩), undef, undef, .bool false, .pointer (some ⟨U, 0, none⟩), undef, .int .u64 i, .agg G, .int .u64 i, .map (some M), .func (.func 141) #[] #[.pointer (some ⟨Bh, 0, none⟩), .pointer (some ⟨Bi, 0, none⟩), .pointer (some ⟨Bv, 0, none⟩)], .int .u64 x, undef, undef, undef, undef, undef, undef] → Code.wpIn _ _ _ _ _ { tmps := T, defers := [] } W) => hh _ (by kernel_rfl)) ?_
  rintro T rfl
  gi_wp2
  exact hK
 case body =>
  rintro l pre x W hl ⟨d1, hB1⟩ hlt
  have c1 := d1.cell
  have f1 := d1.frozen
  gi_wp2
  exact ⟨(KeepsOthers.setCell _ _ _).from _, ⟨⟨by simp, fun b hb => Below.heap_setCell _ _ _ _ (by show b ≠ U; rcases hb with q | q | q | q <;> omega)⟩, fun b C hb hc => (Below.heap_setCell _ _ _ _ (by show b ≠ U; omega)).trans hc⟩, by simpa using d1.set _, hB1.setCell (p := ⟨U, 0, none⟩) (lrz _) _⟩
 case done =>
  rintro D ys W hD' rfl ⟨d1, hB⟩ hK
  have c1 := d1.cell
  have hB3w : Blk W B3 G 68 := (hB.block _ hb3l).trans hB32
  have c2 := (hB3w.cell 2).trans g2
  gi_wp2
  refine ⟨by simp, .inl ⟨_, _, rfl, run_takeDeferred hK, ?_⟩⟩
  refine ⟨.bool (topF f n i == ro), ?_, rfl, (hk2.trans (hB.mono hwU)).trans (belowK_b (w := w) (lrz _) _ D _ _ (by have := hk2.size; omega) hK rfl rfl)⟩
  simp [results, Tryz.f85, go_sem, topF]
theorem wBz {ops : Array Oper} {rest : List Oper} {op : Oper} {a : Act} {Q : Exit → Act → World → Prop} (hw : Region.wanted op (yielded ops a.tmps) = true) (x y : Operand) (ho : op.op = .lookup 87 x y false) (M : Nat) (hx : a.eval x = .map (some M)) (k : Int) (hy : a.eval y = .int .u64 k) (f : Int → Int × Int) (hm : MapF w M f)
  (h : wpList prog ops Q rest (a.put op.dst (.agg #[.int .i64 (f k).1, .int .u64 (f k).2])) w) : wpList prog ops Q (op :: rest) a w := by
 refine q5z hw ?_ h
 unfold execOp
 simp [ho, hx, hy, gRz hm k]
 rfl
def whoB (key : Nat) (X : List Ob) (ro : Int) (f : Int → Int × Int) (o : Ob) : Bool := kYz X o && (gYz ro o (f o.id).1 && (if o.kind = 2 then topF f X.length o.id == ro else if o.kind = 4 then ownO key X o else true))
variable {t ro : Int}
theorem whole_v {key M : Nat} {C : Array Value} {o : Ob} (h : ObsF (LtN w) (LtN w) w ao n cap X Cf) (hs : Srt X) (hn16 : n ≤ 4096) (hq : ∀ x ∈ X, 0 ≤ x.quota ∧ x.quota ≤ 4096) (hlb : ∀ x ∈ X, x.label.length < 1048576) (hw : ∀ x ∈ X, WdO x) (ho : ObD (LtN w) w C o) (hsm : Small o) (hoq : 0 ≤ o.quota ∧ o.quota ≤ 4096) (hol : o.label.length < 1048576) (hwo : WdO o) (hM : MapF w M f) : Calls prog 55 #[.agg #[.int .i64 t, .int .u64 (key : Int), .int .u64 ro, .slice ao n cap], .agg C, .map (some M)] w fun e w' => e = .returned (.bool (whoB key X ro f o)) ∧ Below w.heap.size w w' := by
 have hn : Hid (X.length = n) := h.1
 have hz := ho.size
 have c0 := ho.id
 have c1 := ho.kind
 have hzv : (prog.info? 68).map (·.size) = some (#[.int .i64 t, .int .u64 (key : Int), .int .u64 ro, .slice ao n cap] : Array Value).size := by kernel_rfl
 have hke := fun (W : World) (hk : Below w.heap.size w W) => keeps_v (t := t) (ke := (key : Int)) (ro := ro) (h.next hk) hs hn16 hq hlb (ho.next hk) hsm hoq hol
 have hli := fun (W : World) (hk : Below w.heap.size w W) => lies_v (t := t) (ke := (key : Int)) (ro := ro) (ao := ao) (n := n) (cap := cap) (c := (f o.id).1) (f := (f o.id).2) (ho.next hk)
 have hup := fun (W : World) (hk : Below w.heap.size w W) => bzz (t := t) (ke := (key : Int)) (ro := ro) (i := o.id) (ao := ao) (cap := cap) hn16 (hM.next hk)
 have how := fun (W : World) (hk : Below w.heap.size w W) => vmz (t := t) (ro := ro) (key := key) (h.next hk) hw (ho.next hk) hwo
 have hr : Hid (whoB key X ro f o = (kYz X o && (gYz ro o (f o.id).1 && (if o.kind = 2 then topF f n o.id == ro else if o.kind = 4 then ownO key X o else true)))) := by show whoB key X ro f o = _; unfold whoB; rw [hn.out]
 rw [hr.out]
 obtain ⟨G, hG⟩ : ∃ G : Array Value, Hid (G = #[.int .i64 t, .int .u64 (key : Int), .int .u64 ro, .slice ao n cap]) := ⟨_, rfl⟩
 rw [← hG.out] at hzv hke hli hup how
 rw [← hG.out]
 clear hr
 generalize kYz X o = bk at hke ⊢
 generalize gYz ro o (f o.id).1 = bl at hli ⊢
 generalize (topF f n o.id == ro) = bu at hup ⊢
 generalize ownO key X o = bo at how ⊢
 generalize o.kind = kd at c1 ⊢
 cases bk with
 | false =>
  go_enter func55, ntmps55
  go_wp2_with (first
   | (with_reducible refine qcz rfl 68 _ rfl G rfl ?_; intro B3 W3 hN3 hB3 hk)
   | (with_reducible refine qcz rfl 43 _ rfl C rfl ?_; intro B4 W4 hN4 hB4 hk4; replace hB3 := hB3.next hk4; replace hk := btz hk hk4; have d0 := (hB4.cell 0).trans c0; have d1 := (hB4.cell 1).trans c1)
   | (with_reducible refine qdz (by with_unfolding_all rfl) _ _ rfl B4 rfl C hB4 _ underlying43 (by kernel_rfl) (qfz hz) ?_)
   | (with_reducible refine qdz (by with_unfolding_all rfl) _ _ rfl B3 rfl G hB3 _ underlying68 (by kernel_rfl) hzv ?_)
   | (go_at_call 83; (with_reducible refine (hke _ hk).mono ?_); rintro e w1 ⟨rfl, hb1⟩; replace hB3 := hB3.next hb1; replace hB4 := hB4.next hb1; replace hk := btz hk hb1; replace d0 := (hB4.cell 0).trans c0; replace d1 := (hB4.cell 1).trans c1))
  all_goals (go_ret; exact ⟨rfl, hk⟩)
 | true =>
  cases bl with
  | false =>
   go_enter func55, ntmps55
   go_wp2_with (first
    | (with_reducible refine qcz rfl 68 _ rfl G rfl ?_; intro B3 W3 hN3 hB3 hk)
    | (with_reducible refine qcz rfl 43 _ rfl C rfl ?_; intro B4 W4 hN4 hB4 hk4; replace hB3 := hB3.next hk4; replace hk := btz hk hk4; have d0 := (hB4.cell 0).trans c0; have d1 := (hB4.cell 1).trans c1)
    | (with_reducible refine qdz (by with_unfolding_all rfl) _ _ rfl B4 rfl C hB4 _ underlying43 (by kernel_rfl) (qfz hz) ?_)
    | (with_reducible refine qdz (by with_unfolding_all rfl) _ _ rfl B3 rfl G hB3 _ underlying68 (by kernel_rfl) hzv ?_)
    | (go_at_call 83; (with_reducible refine (hke _ hk).mono ?_); rintro e w1 ⟨rfl, hb1⟩; replace hB3 := hB3.next hb1; replace hB4 := hB4.next hb1; replace hk := btz hk hb1; replace d0 := (hB4.cell 0).trans c0; replace d1 := (hB4.cell 1).trans c1)
    | (with_reducible refine wBz (by with_unfolding_all rfl) _ _ rfl M rfl o.id rfl f (hM.next hk) ?_)
    | (go_at_call 84; (with_reducible refine (hli _ hk).mono ?_); rintro e w2 ⟨rfl, hb2⟩; replace hB3 := hB3.next hb2; replace hB4 := hB4.next hb2; replace hk := btz hk hb2; replace d0 := (hB4.cell 0).trans c0; replace d1 := (hB4.cell 1).trans c1))
   all_goals (go_ret; exact ⟨rfl, hk⟩)
  | true =>
   rw [Bool.true_and, Bool.true_and]
   by_cases h2 : kd = 2
   ·subst h2
    rw [if_pos rfl]
    go_enter func55, ntmps55
    go_wp2_with (first
     | (with_reducible refine qcz rfl 68 _ rfl G rfl ?_; intro B3 W3 hN3 hB3 hk)
     | (with_reducible refine qcz rfl 43 _ rfl C rfl ?_; intro B4 W4 hN4 hB4 hk4; replace hB3 := hB3.next hk4; replace hk := btz hk hk4; have d0 := (hB4.cell 0).trans c0; have d1 := (hB4.cell 1).trans c1)
     | (with_reducible refine qdz (by with_unfolding_all rfl) _ _ rfl B4 rfl C hB4 _ underlying43 (by kernel_rfl) (qfz hz) ?_)
     | (with_reducible refine qdz (by with_unfolding_all rfl) _ _ rfl B3 rfl G hB3 _ underlying68 (by kernel_rfl) hzv ?_)
     | (go_at_call 83; (with_reducible refine (hke _ hk).mono ?_); rintro e w1 ⟨rfl, hb1⟩; replace hB3 := hB3.next hb1; replace hB4 := hB4.next hb1; replace hk := btz hk hb1; replace d0 := (hB4.cell 0).trans c0; replace d1 := (hB4.cell 1).trans c1)
     | (with_reducible refine wBz (by with_unfolding_all rfl) _ _ rfl M rfl o.id rfl f (hM.next hk) ?_)
     | (go_at_call 84; (with_reducible refine (hli _ hk).mono ?_); rintro e w2 ⟨rfl, hb2⟩; replace hB3 := hB3.next hb2; replace hB4 := hB4.next hb2; replace hk := btz hk hb2; replace d0 := (hB4.cell 0).trans c0; replace d1 := (hB4.cell 1).trans c1)
     | (go_at_call 85; (with_reducible refine (hup _ hk).mono ?_); rintro e w3 ⟨rfl, hb3⟩; replace hk := btz hk hb3))
    all_goals (go_ret; exact ⟨rfl, hk⟩)
   ·have h2b : (kd == 2) = false := by simpa using h2
    rw [if_neg h2]
    by_cases h4 : kd = 4
    ·subst h4
     rw [if_pos rfl]
     go_enter func55, ntmps55
     go_wp2_with (first
      | (with_reducible refine qcz rfl 68 _ rfl G rfl ?_; intro B3 W3 hN3 hB3 hk)
      | (with_reducible refine qcz rfl 43 _ rfl C rfl ?_; intro B4 W4 hN4 hB4 hk4; replace hB3 := hB3.next hk4; replace hk := btz hk hk4; have d0 := (hB4.cell 0).trans c0; have d1 := (hB4.cell 1).trans c1)
      | (with_reducible refine qdz (by with_unfolding_all rfl) _ _ rfl B4 rfl C hB4 _ underlying43 (by kernel_rfl) (qfz hz) ?_)
      | (with_reducible refine qdz (by with_unfolding_all rfl) _ _ rfl B3 rfl G hB3 _ underlying68 (by kernel_rfl) hzv ?_)
      | (go_at_call 83; (with_reducible refine (hke _ hk).mono ?_); rintro e w1 ⟨rfl, hb1⟩; replace hB3 := hB3.next hb1; replace hB4 := hB4.next hb1; replace hk := btz hk hb1; replace d0 := (hB4.cell 0).trans c0; replace d1 := (hB4.cell 1).trans c1)
      | (with_reducible refine wBz (by with_unfolding_all rfl) _ _ rfl M rfl o.id rfl f (hM.next hk) ?_)
      | (go_at_call 84; (with_reducible refine (hli _ hk).mono ?_); rintro e w2 ⟨rfl, hb2⟩; replace hB3 := hB3.next hb2; replace hB4 := hB4.next hb2; replace hk := btz hk hb2; replace d0 := (hB4.cell 0).trans c0; replace d1 := (hB4.cell 1).trans c1)
      | (go_at_call 86; (with_reducible refine (how _ hk).mono ?_); rintro e w3 ⟨rfl, hb3⟩; replace hk := btz hk hb3))
     all_goals (go_ret; exact ⟨rfl, hk⟩)
    ·have h4b : (kd == 4) = false := by simpa using h4
     rw [if_neg h4]
     go_enter func55, ntmps55
     go_wp2_with (first
      | (with_reducible refine qcz rfl 68 _ rfl G rfl ?_; intro B3 W3 hN3 hB3 hk)
      | (with_reducible refine qcz rfl 43 _ rfl C rfl ?_; intro B4 W4 hN4 hB4 hk4; replace hB3 := hB3.next hk4; replace hk := btz hk hk4; have d0 := (hB4.cell 0).trans c0; have d1 := (hB4.cell 1).trans c1)
      | (with_reducible refine qdz (by with_unfolding_all rfl) _ _ rfl B4 rfl C hB4 _ underlying43 (by kernel_rfl) (qfz hz) ?_)
      | (with_reducible refine qdz (by with_unfolding_all rfl) _ _ rfl B3 rfl G hB3 _ underlying68 (by kernel_rfl) hzv ?_)
      | (go_at_call 83; (with_reducible refine (hke _ hk).mono ?_); rintro e w1 ⟨rfl, hb1⟩; replace hB3 := hB3.next hb1; replace hB4 := hB4.next hb1; replace hk := btz hk hb1; replace d0 := (hB4.cell 0).trans c0; replace d1 := (hB4.cell 1).trans c1)
      | (with_reducible refine wBz (by with_unfolding_all rfl) _ _ rfl M rfl o.id rfl f (hM.next hk) ?_)
      | (go_at_call 84; (with_reducible refine (hli _ hk).mono ?_); rintro e w2 ⟨rfl, hb2⟩; replace hB3 := hB3.next hb2; replace hB4 := hB4.next hb2; replace hk := btz hk hb2; replace d0 := (hB4.cell 0).trans c0; replace d1 := (hB4.cell 1).trans c1))
     all_goals (go_ret; exact ⟨rfl, hk⟩)
theorem fit1_v {key M Bv Bh : Nat} {C : Array Value} {o : Ob} (h : ObsF (LtN w) (LtN w) w ao n cap X Cf) (hs : Srt X) (hn16 : n ≤ 4096) (hq : ∀ x ∈ X, 0 ≤ x.quota ∧ x.quota ≤ 4096) (hlb : ∀ x ∈ X, x.label.length < 1048576) (hw : ∀ x ∈ X, WdO x) (ho : ObD (LtN w) w C o) (hsm : Small o) (hoq : 0 ≤ o.quota ∧ o.quota ≤ 4096) (hol : o.label.length < 1048576) (hwo : WdO o) (hM : MapF w M f)
  (hBv : Blk w Bv #[.int .i64 t, .int .u64 (key : Int), .int .u64 ro, .slice ao n cap] 68) (hBh : Boxed w Bh 87 (.map (some M))) : Calls prog 54 #[.agg C, .pointer (some ⟨Bv, 0, none⟩), .pointer (some ⟨Bh, 0, none⟩)] w fun e w' => e = .returned (.bool (whoB key X ro f o)) ∧ Below w.heap.size w w' := by
 have hz := ho.size
 have hzv : (prog.info? 68).map (·.size) = some (#[.int .i64 t, .int .u64 (key : Int), .int .u64 ro, .slice ao n cap] : Array Value).size := by kernel_rfl
 have hwh := fun (W : World) (hk : Below w.heap.size w W) => whole_v (t := t) (ro := ro) (key := key) (h.next hk) hs hn16 hq hlb hw (ho.next hk) hsm hoq hol hwo (hM.next hk)
 obtain ⟨G, hG⟩ : ∃ G : Array Value, Hid (G = #[.int .i64 t, .int .u64 (key : Int), .int .u64 ro, .slice ao n cap]) := ⟨_, rfl⟩
 rw [← hG.out] at hzv hwh hBv
 generalize whoB key X ro f o = b at hwh ⊢
 go_enter func54, ntmps54
 go_wp2_with (first
  | (with_reducible refine qcz rfl 43 _ rfl C rfl ?_; intro B4 W4 hN4 hB4 hk; have hv4 := hBv.next hk; have ch := (hk.cell (p := ⟨Bh, 0, none⟩) hBh.lt).trans hBh.cell)
  | (with_reducible refine qdz (by kernel_rfl) _ _ rfl B4 rfl C hB4 _ underlying43 (by kernel_rfl) (qfz hz) ?_)
  | (with_reducible refine qdz (by kernel_rfl) _ _ rfl Bv rfl G hv4 _ underlying68 (by kernel_rfl) hzv ?_)
  | (go_at_call 55; (with_reducible refine (hwh _ hk).mono ?_); rintro e w1 ⟨rfl, hb1⟩; replace hk := btz hk hb1))
 go_ret
 exact ⟨rfl, hk⟩
def fitT (t : Int) (key : Nat) (ro : Int) (X : List Ob) : Bool := fitW ⟨t, key, ro, X⟩ && (rotB X ro && (List.range X.length).all fun j => whoB key X ro (hldF X) (oat X j))
theorem vWz {x : Ob} (h : qKz x = true) : (0 ≤ x.quota ∧ x.quota ≤ 4096) ∧ x.label.length < 1048576 := by
 unfold qKz comB qXz at h
 simp only [Bool.and_eq_true, decide_eq_true_eq] at h
 omega
theorem fit_v0 {t ke ro : Int} (h : Obs w ao n cap X) : Calls prog 50 #[.agg #[.int .i64 t, .int .u64 ke, .int .u64 ro, .slice ao n cap]] w fun e w' => e = .returned (.bool (fitW ⟨t, ke, ro, X⟩)) ∧ Below w.heap.size w w' :=
 (fit_w (t := t) (ke := ke) (ro := ro) h).on (fun w' hq hb => ⟨by rw [hq.out], hb⟩) (fun w' hq hb => ⟨by rw [Bool.eq_false_iff.2 hq.out], hb⟩)
theorem tfit_v {key : Nat} (h : ObsF (LtN w) (LtN w) w ao n cap X Cf) (hsm : fitW ⟨t, key, ro, X⟩ = true → wez X) (hw : ∀ x ∈ X, WdO x) : Calls prog 28 #[.agg #[.int .i64 t, .int .u64 (key : Int), .int .u64 ro, .slice ao n cap]] w fun e w' => e = .returned (.bool (fitT t key ro X)) ∧ Below w.heap.size w w' := by
 have hn : Hid (X.length = n) := h.1
 have hzw : (prog.info? 25).map (·.size) = some (#[.int .i64 t, .int .u64 (key : Int), .int .u64 ro, .slice ao n cap] : Array Value).size := by kernel_rfl
 have hzv : (prog.info? 68).map (·.size) = some (#[.int .i64 t, .int .u64 (key : Int), .int .u64 ro, .slice ao n cap] : Array Value).size := by kernel_rfl
 have hbt : prog.built 68 [(0, .agg #[.int .i64 t, .int .u64 (key : Int), .int .u64 ro, .slice ao n cap])] = some #[.int .i64 t, .int .u64 (key : Int), .int .u64 ro, .slice ao n cap] := by kernel_rfl
 have hz4 : (#[.int .i64 0, .int .u64 0, .int .u64 0, .slice none 0 0] : Array Value).size = (#[.int .i64 t, .int .u64 (key : Int), .int .u64 ro, .slice ao n cap] : Array Value).size := rfl
 have h14 : (#[.int .i64 t, .int .u64 (key : Int), .int .u64 ro, .slice ao n cap] : Array Value).all (·.oneCell') = true := by simp [Value.oneCell']
 have hfit := fun (W : World) (hk : Below w.heap.size w W) => fit_v0 (t := t) (ke := (key : Int)) (ro := ro) (ObsF.obs (h.next hk))
 have hr : Hid (fitT t key ro X = (fitW ⟨t, key, ro, X⟩ && (rotB X ro && (List.range n).all fun j => whoB key X ro (hldF X) (oat X j)))) := by show fitT t key ro X = _; unfold fitT; rw [hn.out]
 rw [hr.out]
 obtain ⟨G, hG⟩ : ∃ G : Array Value, Hid (G = #[.int .i64 t, .int .u64 (key : Int), .int .u64 ro, .slice ao n cap]) := ⟨_, rfl⟩
 rw [← hG.out] at hzw hzv hbt hz4 h14 hfit
 cases hf : fitW ⟨t, key, ro, X⟩
 rw [hf] at hfit
 rw [← hG.out, Bool.false_and]
 rotate_left
 replace hsm := hsm hf
 obtain ⟨_, _, hlen, hids, hsnd⟩ := whz.1 hf
 have hs := xJz.1 hids
 have hn16 : n ≤ 4096 := by rw [← hn.out]; omega
 have hmem : ∀ x ∈ X, qKz x = true := fun x hx => by
  obtain ⟨i, hi, e⟩ := List.getElem_of_mem hx
  have := hsnd i hi
  rwa [show oat X i = x by unfold oat; rw [List.getD_eq_getElem?_getD, List.getElem?_eq_getElem hi]; exact e] at this
 have hq : ∀ x ∈ X, 0 ≤ x.quota ∧ x.quota ≤ 4096 := fun x hx => (vWz (hmem x hx)).1
 have hlb : ∀ x ∈ X, x.label.length < 1048576 := fun x hx => (vWz (hmem x hx)).2
 have hll : ∀ x ∈ X, x.links.length < 4294967296 := fun x hx => (hsm x hx).c5
 have hho := fun (W : World) (hk : Below w.heap.size w W) => uDz (t := t) (ke := (key : Int)) (ro := ro) (h.next hk) hs hn16 hll
 have hro := fun (W : World) (hk : Below w.heap.size w W) => rooted_v (t := t) (ke := (key : Int)) (ro := ro) (h.next hk) hs hn16
 rw [hf] at hfit
 rw [Bool.true_and]
 rw [← hG.out] at hho hro
 rw [← hG.out]
 clear hmem hsnd hids hlen hf
 cases hrb : rotB X ro
 rw [hrb] at hro
 rw [Bool.false_and]
 rotate_left
 rw [hrb] at hro
 rw [Bool.true_and]
 rotate_left
 all_goals go_enter func28, ntmps28
 all_goals go_wp2_with (first
  | go_skip
  | (with_reducible refine qcz rfl 25 _ rfl G rfl ?_; intro B1 W1 hN1 hB1 hk)
  | (with_reducible refine qdz (by with_unfolding_all rfl) _ _ rfl B1 rfl G hB1 _ underlying25 (by kernel_rfl) hzw ?_)
  | (go_at_call 50; (with_reducible refine (hfit _ hk).mono ?_); rintro e w2 ⟨rfl, hb2⟩; replace hB1 := hB1.next hb2; replace hk := btz hk hb2)
  | ((with_reducible refine qRz (by kernel_rfl) _ [(0, .tmp 8)] rfl G ?hf ?_); (case hf => exact hbt))
  | ((with_reducible refine qgz rfl 68 rfl #[.int .i64 0, .int .u64 0, .int .u64 0, .slice none 0 0] Tryz.zeroValue68 ?_); intro B3 W3 hN3 hR3 hk3)
  | ((with_reducible refine qbz rfl _ _ _ rfl B3 rfl G rfl _ hR3 hzv hz4 h14 ?_); intro W4 hB3 o4; have hw3 : w.heap.size ≤ B3 := (by have := hN3.out; have := hk.size; omega); replace hk := o4.below w.heap.size w hw3 (btz hk hk3))
  | (with_reducible refine qdz (by with_unfolding_all rfl) _ _ rfl B3 rfl G hB3 _ underlying68 (by kernel_rfl) hzv ?_)
  | (go_at_call 51; (with_reducible refine (hho _ hk).mono ?_); rintro e w5 ⟨M, rfl, hM, hwM, hb5⟩; replace hB3 := hB3.next hb5; replace hk := btz hk hb5; have hka := (brz w5.heap.size w5).alloc (lrz _) (.cells #[.map (some M)] 87); have hU := Boxed.new w5 87 (.map (some M)); replace hB3 := hB3.next hka; replace hM := hM.next hka; replace hk := btz hk hka)
  | (go_at_call 52; (with_reducible refine (hro _ hk).mono ?_); rintro e w6 ⟨rfl, hb6⟩; replace hB3 := hB3.next hb6; replace hM := hM.next hb6; replace hU : Boxed w6 w5.heap.size 87 (.map (some M)) := (hb6.block _ hU.lt).trans hU; replace hk := btz hk hb6))
 ·all_goals (go_ret; exact ⟨rfl, hk⟩)
 ·all_goals (go_ret; exact ⟨rfl, hk⟩)
 ·have hm := fun (j : Nat) (hj : j < n) => qQz (l := X) (show j < X.length by rw [hn.out]; exact hj)
  have hV6 : Blk w6 B3 #[.int .i64 t, .int .u64 (key : Int), .int .u64 ro, .slice ao n cap] 68 := (by rw [← hG.out]; exact hB3)
  have hP := fun (j : Nat) (W : World) (hj : j < n) (q : Below w6.heap.size w6 W) => fit1_v (t := t) (key := key) (ro := ro) (h.next (btz hk q)) hs hn16 hq hlb hw ((h.2.2.2.2 j hj).next (btz hk q)) (hsm _ (hm j hj)) (hq _ (hm j hj)) (hlb _ (hm j hj)) (hw _ (hm j hj)) (hM.next q) (hV6.next q) (Bh := w5.heap.size) ((q.block _ hU.lt).trans hU)
  have hcall := buz (t := t) (ke := (key : Int)) (ro := ro) (g := 54) (lb := #[.pointer (some ⟨B3, 0, none⟩), .pointer (some ⟨w5.heap.size, 0, none⟩)]) (P := fun j => whoB key X ro (hldF X) (oat X j)) (h.next hk) (enters_of func54 (by kernel_rfl) rfl) (fun j W hj q => hP j W hj q)
  rw [← hG.out] at hcall
  refine hcall.mono ?_
  rintro e w7 ⟨rfl, hb7⟩
  replace hk := btz hk hb7
  go_wp2
  go_ret
  exact ⟨rfl, hk⟩
end
section
variable {X : List Ob}
theorem wsz {i : Int} {x : Ob} (h : fnd X i = some x) : x.id = i ∧ x ∈ X :=
 ⟨by simpa using List.find?_some (show X.find? _ = some x from h), List.mem_of_find?_eq_some (show X.find? _ = some x from h)⟩
theorem holL_mem {i h : Int} (q : h ∈ holL X i) : ∃ d ∈ X, d.id = h ∧ i ∈ d.links := by
 unfold holL at q
 obtain ⟨d, hd, e⟩ := List.mem_map.1 q
 obtain ⟨h1, h2⟩ := List.mem_filter.1 hd
 exact ⟨d, h1, e, by simpa using h2⟩
def upB (X : List Ob) (ro i : Int) : Bool := (decide (i = ro) && decide ((rabv X i).length = 0)) || (decide (0 < (rabv X i).length) && decide ((rabv X i).getLast?.getD 0 = ro))
def lnkB (X : List Ob) (d : Ob) : Bool := (d.links.all fun i => (fnd X i).isSome && plcB d.label (fO X i).label) && (!decide (d.kind = 2) || decide (xBz X d ≤ d.quota))
def plaB (X : List Ob) (ro : Int) (o : Ob) : Bool :=
 if o.id = ro then decide ((holL X o.id).length = 0) && (decide (o.kind = 2) && decide (o.quota ≤ 1024))
 else (decide (1 ≤ (holL X o.id).length) && !(decide (1 < (holL X o.id).length) && (!o.fixed || sngO o))) && (!decide (o.kind = 2) || upB X ro o.id)
def rapB (a b c d : Nat) : Bool := decide (a = b) || (decide (c = d) || (decide (b ≤ c) || decide (d ≤ a)))
def rowB (key : Nat) (X : List Ob) (i k : Nat) : Bool := !(SrM.hasK key (oat X i).th.lo.toNat (oat X i).th.hi.toNat (oat X k).id.toNat || (decide ((oat X k).kind = 4) && (decide (k ≠ i) && !rapB (oat X i).th.lo.toNat (oat X i).th.hi.toNat (oat X k).th.lo.toNat (oat X k).th.hi.toNat)))
def spaB (key : Nat) (X : List Ob) : Bool := (List.range X.length).all fun i => !decide ((oat X i).kind = 4) || (List.range X.length).all fun k => rowB key X i k
def fitD (t : Int) (key : Nat) (ro : Int) (X : List Ob) : Bool := (fitW ⟨t, key, ro, X⟩ && (fnd X ro).isSome) && (((List.range X.length).all fun j => lnkB X (oat X j) && plaB X ro (oat X j)) && spaB key X)
theorem jYz {p : Ob → Bool} : ((List.range X.length).all fun j => p (oat X j)) = true ↔ ∀ o ∈ X, p o = true := by
 rw [List.all_eq_true]
 constructor
 ·intro h o ho
  obtain ⟨i, hi, e⟩ := List.getElem_of_mem ho
  have := h i (List.mem_range.2 hi)
  rwa [qyz hi, e] at this
 ·intro h j hj
  exact h _ (qQz (List.mem_range.1 hj))
theorem wRz {x : Ob} (h : qKz x = true) (hk : x.kind ≠ 2) : x.links = [] := by
 have ha : aloO x = x := (qUz x).1 (qnz.1 h).2.2
 rw [← ha]
 unfold aloO comO
 rw [if_neg hk]
 split
 ·rfl
 split
 ·rfl
 split
 ·rfl
 split
 ·rfl
 split <;> rfl
theorem uzz {x : Ob} (h : qKz x = true) : x.links.Pairwise (· < ·) := by
 by_cases hk : x.kind = 2
 ·have := (qnz.1 h).2.1
  unfold ownB at this
  rw [if_neg (by rw [hk]; decide), if_pos hk] at this
  simp only [Bool.and_eq_true, risB, decide_eq_true_eq] at this
  exact this.2.2
 ·rw [wRz h hk]; exact List.Pairwise.nil
theorem oat_inj (hs : Srt X) {i j : Nat} (hi : i < X.length) (hj : j < X.length) : (oat X j).id = (oat X i).id ↔ j = i := by
 rw [qyz hi, qyz hj]
 constructor
 ·intro e
  rcases Nat.lt_trichotomy i j with q | q | q
  ·have := List.pairwise_iff_getElem.1 hs i j hi hj q; omega
  ·exact q.symm
  ·have := List.pairwise_iff_getElem.1 hs j i hj hi q; omega
 ·intro e; subst e; rfl
theorem yfz {t ke ro : Int} (h : fitW ⟨t, ke, ro, X⟩ = true) : Srt X ∧ (∀ x ∈ X, qKz x = true) ∧ X.length ≤ 1024 := by
 unfold fitW at h
 simp only [Bool.and_eq_true, decide_eq_true_eq, List.all_eq_true] at h
 exact ⟨xJz.1 h.2.2.2.1, h.2.2.2.2, h.2.2.1⟩
end
section
open Go.RowKit Go.Shelf
attribute [local go_sem] Oper.semAt_some
def fewO (x : Ob) : Prop := x.label.length ≤ 20 ∧ x.links.length ≤ 70 ∧ x.data.length ≤ 300 ∧ x.maps.length ≤ 20
def bqz (l : List Ob) : Prop := l.length ≤ 16 ∧ ∀ i, i < l.length → fewO (oat l i)
theorem bpz {w : World} {t ke ro : Int} {ao : Option Addr} {n cap : Nat} {X : List Ob} (h : Obs w ao n cap X) : Asks 4 #[.agg #[.int .i64 t, .int .u64 ke, .int .u64 ro, .slice ao n cap]] (bqz X) w := by
  have hn : Hid (X.length = n) := h.1
  have hnc := h.2.1
  have hcm := h.2.2.1.1
  unfold Asks
  by_cases h20 : n ≤ 16
  · have h20' : ¬ (16 : Int) < n := by omega
    go_enter func4, ntmps4
    go_wp2
    have kw := (brz w.heap.size w).alloc (lrz _) (.cells #[.int .i64 t, .int .u64 ke, .int .u64 ro, .slice ao n cap] 25)
    generalize w.alloc (.cells #[.int .i64 t, .int .u64 ke, .int .u64 ro, .slice ao n cap] 25) = W0 at kw ⊢
    go_loopw [12] (fun i wr => ∃ k : Nat, k ≤ n ∧ i = .int .i64 k ∧ Hid (∀ j, j < k → fewO (oat X j)) ∧ Below w.heap.size w wr) (fun i _ => n - (intOf i).toNat)
    case atStart => exact ⟨0, Nat.zero_le _, rfl, fun j hj => absurd hj (by omega), kw⟩
    case round =>
      obtain ⟨k, hk, rfl, hal, hb⟩ := hrel
      have hbs := hb.size
      by_cases hkn : k < n
      · obtain ⟨b, off, C, rfl, hbb, hC, hr⟩ := wqz (qvz h hb) hkn
        have hkn' : (k : Int) < n := by omega
        have hz := hC.size
        obtain ⟨a2, n2, q2, c2, l2⟩ := hC.label
        obtain ⟨a5, n5, q5, c5, l5⟩ := hC.links
        obtain ⟨a6, n6, q6, c6, l6⟩ := hC.data
        obtain ⟨a7, n7, q7, c7, l7⟩ := hC.maps
        have m2 : Hid ((oat X k).label.length = n2) := l2.1
        have m5 : Hid ((oat X k).links.length = n5) := l5.1
        have m6 : Hid ((oat X k).data.length = n6) := l6.1
        have m7 : Hid ((oat X k).maps.length = n7) := l7.1
        have hone := hC.one
        clear l2 l5 l6 l7 hC
        go_wp2_with (first
          | (with_reducible refine qtz (by kernel_rfl) 43 _ rfl b _ rfl C hr _ underlying43 (by kernel_rfl) (qfz hz) ?_)
          | ((with_reducible refine qgz rfl _ rfl zC qwz ?_); intro R W1 hB1 hR1 hk1)
          | ((with_reducible refine qbz rfl _ _ _ rfl R rfl C rfl zC hR1 (qfz hz) (qrz.trans hz.symm) hone ?_); intro W2 hR2 o2; have k2 := o2.below wr.heap.size wr (by have := hB1.out.1; omega) hk1; have k3 := hb.trans (k2.mono hbs))
          | (with_reducible refine qaz (by kernel_rfl) _ _ rfl R _ rfl _ _ hR2 _ c2 isAgg27 ?_)
          | (with_reducible refine qaz (by kernel_rfl) _ _ rfl R _ rfl _ _ hR2 _ c5 isAgg28 ?_)
          | (with_reducible refine qaz (by kernel_rfl) _ _ rfl R _ rfl _ _ hR2 _ c6 isAgg28 ?_)
          | (with_reducible refine qaz (by kernel_rfl) _ _ rfl R _ rfl _ _ hR2 _ c7 isAgg29 ?_)
          | ((with_reducible refine qez (by kernel_rfl) .gtr 3 _ _ _ rfl (.int .i64 (n2 : Int)) _ rfl rfl (qCz _ _ _ _ _ _) ?_ ?_) <;> intro e2)
          | ((with_reducible refine qez (by kernel_rfl) .gtr 3 _ _ _ rfl (.int .i64 (n5 : Int)) _ rfl rfl (qCz _ _ _ _ _ _) ?_ ?_) <;> intro e5)
          | ((with_reducible refine qez (by kernel_rfl) .gtr 3 _ _ _ rfl (.int .i64 (n6 : Int)) _ rfl rfl (qCz _ _ _ _ _ _) ?_ ?_) <;> intro e6)
          | ((with_reducible refine qez (by kernel_rfl) .gtr 3 _ _ _ rfl (.int .i64 (n7 : Int)) _ rfl rfl (qCz _ _ _ _ _ _) ?_ ?_) <;> intro e7))
        all_goals first
          | (go_ret
             refine qkz (Y := fewO (oat X k)) ?_ k3 (fun e => e.2 k (by rw [hn.out]; exact hkn))
             refine (?_ : ¬ fewO (oat X k))
             rintro ⟨f2, f5, f6, f7⟩
             rw [m2.out] at f2
             rw [m5.out] at f5
             rw [m6.out] at f6
             rw [m7.out] at f7
             simp only [Hid] at *
             omega)
          | (go_roundw
             case rel => exact ⟨k + 1, by omega, by go_num, wvz hal.out (by refine ⟨?_, ?_, ?_, ?_⟩ <;> first | (rw [m2.out]; have := e2.out; omega) | (rw [m5.out]; have := e5.out; omega) | (rw [m6.out]; have := e6.out; omega) | (rw [m7.out]; have := e7.out; omega)), k3⟩
             case measure => simp [intOf]; omega)
      · obtain rfl : k = n := by omega
        go_wp2
        go_ret
        exact qqz ⟨by rw [hn.out]; exact h20, fun i hi => hal.out i (by rw [hn.out] at hi; exact hi)⟩ hb
  · have h20' : (16 : Int) < n := by omega
    have hq : Hid (¬ n ≤ 16) := h20
    go_enter func4, ntmps4
    go_wp2
    go_ret
    exact qkz hq ((brz _ w).alloc (lrz _) _) (fun e => by have := e.1; rw [hn.out] at this; exact this)
end
section
structure Tre (X : List Ob) (ro : Int) : Prop where
 srt : Srt X
 snd : ∀ x ∈ X, qKz x = true
 len : X.length ≤ 1024
 rot : ∃ r, fnd X ro = some r ∧ r.kind = 2 ∧ r.quota ≤ 1024
 hro : holL X ro = []
 hol : ∀ o ∈ X, o.id ≠ ro → holL X o.id ≠ []
 lnk : ∀ d ∈ X, ∀ i ∈ d.links, (fnd X i).isSome = true ∧ plcB d.label (fO X i).label = true
 use : ∀ d ∈ X, d.kind = 2 → xBz X d ≤ d.quota
 upw : ∀ o ∈ X, o.kind = 2 → o.id ≠ ro → upB X ro o.id = true
theorem wNz {t : Int} {key : Nat} {ro : Int} {X : List Ob} (h : fitD t key ro X = true) : Tre X ro := by
 unfold fitD at h
 simp only [Bool.and_eq_true] at h
 obtain ⟨⟨hf, hr⟩, hlp, _⟩ := h
 obtain ⟨hs, hso, hlen⟩ := yfz hf
 rw [jYz (p := fun o => lnkB X o && plaB X ro o)] at hlp
 obtain ⟨r, hrf⟩ := Option.isSome_iff_exists.1 hr
 have hri := wsz hrf
 have hp := hlp r hri.2
 rw [Bool.and_eq_true] at hp
 have hp2 := hp.2
 unfold plaB at hp2
 rw [if_pos hri.1, hri.1] at hp2
 simp only [Bool.and_eq_true, decide_eq_true_eq] at hp2
 refine ⟨hs, hso, hlen, ⟨r, hrf, hp2.2.1, hp2.2.2⟩, List.eq_nil_of_length_eq_zero hp2.1, ?_, ?_, ?_, ?_⟩
 ·intro o ho hne
  have := hlp o ho
  rw [Bool.and_eq_true] at this
  have h2 := this.2
  unfold plaB at h2
  rw [if_neg hne] at h2
  simp only [Bool.and_eq_true, decide_eq_true_eq] at h2
  intro q
  rw [q] at h2
  simp at h2
 ·intro d hd i hi
  have := hlp d hd
  rw [Bool.and_eq_true] at this
  have h1 := this.1
  unfold lnkB at h1
  simp only [Bool.and_eq_true, List.all_eq_true] at h1
  exact h1.1 i hi
 ·intro d hd k2
  have := hlp d hd
  rw [Bool.and_eq_true] at this
  have h1 := this.1
  unfold lnkB at h1
  simp only [Bool.and_eq_true, Bool.or_eq_true, Bool.not_eq_true', decide_eq_true_eq, decide_eq_false_iff_not] at h1
  rcases h1.2 with q | q
  ·exact absurd k2 q
  ·exact q
 ·intro o ho k2 hne
  have := hlp o ho
  rw [Bool.and_eq_true] at this
  have h2 := this.2
  unfold plaB at h2
  rw [if_neg hne] at h2
  simp only [Bool.and_eq_true, Bool.or_eq_true, Bool.not_eq_true', decide_eq_false_iff_not] at h2
  rcases h2.2 with q | q
  ·exact absurd k2 q
  ·exact q
theorem yRz : ∀ (l m : List Int), l.Nodup → (∀ x ∈ l, x ∈ m) → l.length ≤ m.length
 | [], _, _, _ => Nat.zero_le _
 | a :: l, m, h, hm => by
  obtain ⟨h1, h2⟩ := List.nodup_cons.1 h
  have ha := hm a (List.mem_cons_self ..)
  have := yRz l (m.erase a) h2 fun x hx => (List.mem_erase_of_ne (fun e => h1 (by rw [← e]; exact hx))).2 (hm x (List.mem_cons_of_mem _ hx))
  rw [List.length_erase_of_mem ha] at this
  have : 0 < m.length := List.length_pos_of_mem ha
  simp only [List.length_cons]
  omega
theorem j1z (X : List Ob) : ∀ (f : Nat) (i : Int), abvL X f i = (abvL X (f + 1) i).take f
 | 0, i => by simp [abvL]
 | f + 1, i => by
  cases hh : holL X i with
  | nil => rw [show abvL X (f + 1) i = [] from by unfold abvL; rw [hh], show abvL X (f + 1 + 1) i = [] from by unfold abvL; rw [hh]]; rfl
  | cons a t =>
   rw [show abvL X (f + 1) i = a :: abvL X f a from by conv => lhs; unfold abvL; rw [hh], show abvL X (f + 1 + 1) i = a :: abvL X (f + 1) a from by conv => lhs; unfold abvL; rw [hh]]
   rw [List.take_succ_cons, ← j1z X f a]
section
variable {X : List Ob} {ro : Int}
abbrev wayL (X : List Ob) (i : Int) : List Int := abvL X (X.length + 1) i
theorem k8z (h : Tre X ro) {d : Ob} (hd : d ∈ X) {i : Int} (hi : i ∈ d.links) : d.kind = 2 := Classical.byContradiction fun q => by rw [wRz (h.snd d hd) q] at hi; cases hi
theorem jlz (h : Tre X ro) {o : Ob} (ho : o ∈ X) (k2 : o.kind = 2) : (wayL X o.id).length ≤ X.length ∧ (o.id ≠ ro → (wayL X o.id).getLast?.getD 0 = ro ∧ wayL X o.id ≠ []) := by
 by_cases e : o.id = ro
 ·refine ⟨?_, fun q => absurd e q⟩
  rw [e]
  unfold wayL abvL
  rw [h.hro]
  exact Nat.zero_le _
 ·have hu := h.upw o ho k2 e
  unfold upB at hu
  rw [decide_eq_false e, Bool.false_and, Bool.false_or, Bool.and_eq_true, decide_eq_true_eq, decide_eq_true_eq] at hu
  have hr : rabv X o.id = wayL X o.id ∧ (wayL X o.id).length ≤ X.length := by
   unfold rabv at hu ⊢
   split at hu
   ·rename_i hq; rw [if_pos hq]; exact ⟨rfl, hq⟩
   ·exact absurd hu.1 (by simp)
  rw [hr.1] at hu
  exact ⟨hr.2, fun _ => ⟨hu.2, List.length_pos_iff.1 hu.1⟩⟩
theorem ynz (h : Tre X ro) {o : Ob} (ho : o ∈ X) (hne : o.id ≠ ro) : ∃ d ∈ X, d.kind = 2 ∧ o.id ∈ d.links ∧ (holL X o.id).head? = some d.id ∧ wayL X o.id = d.id :: wayL X d.id := by
 cases hh : holL X o.id with
 | nil => exact absurd hh (h.hol o ho hne)
 | cons a t =>
  obtain ⟨d, hd, e, hi⟩ := holL_mem (show a ∈ holL X o.id by rw [hh]; exact List.mem_cons_self ..)
  have k2 := k8z h hd hi
  refine ⟨d, hd, k2, hi, by rw [e]; rfl, ?_⟩
  unfold wayL
  have e1 : abvL X (X.length + 1) o.id = a :: abvL X X.length a := by conv => lhs; unfold abvL; rw [hh]
  rw [e1, e, j1z X X.length a]
  congr 1
  refine List.take_of_length_le ?_
  have := (jlz h hd k2).1
  rw [e] at this
  exact this
theorem jkz (h : Tre X ro) : wayL X ro = [] := by unfold wayL abvL; rw [h.hro]
theorem uWz (h : Tre X ro) : ∀ (k : Nat) (o : Ob), o ∈ X → (wayL X o.id).length = k → (∀ c ∈ wayL X o.id, (wayL X c).length < k ∧ ∃ d ∈ X, d.id = c) ∧ (wayL X o.id).Nodup ∧ (wayL X o.id = [] ∨ (wayL X o.id).getLast?.getD 0 = ro)
 | 0, o, ho, hk => by
  rw [List.eq_nil_of_length_eq_zero hk]
  exact ⟨fun c hc => absurd hc (by simp), List.nodup_nil, .inl rfl⟩
 | k + 1, o, ho, hk => by
  have hne : o.id ≠ ro := fun e => by rw [e, jkz h] at hk; cases hk
  obtain ⟨d, hd, k2, _, _, hw⟩ := ynz h ho hne
  rw [hw, List.length_cons] at hk
  obtain ⟨i1, i2, i3⟩ := uWz h k d hd (by omega)
  rw [hw]
  refine ⟨?_, ?_, .inr ?_⟩
  ·intro c hc
   rcases List.mem_cons.1 hc with q | q
   ·rw [q]; exact ⟨by omega, d, hd, rfl⟩
   ·have := i1 c q; exact ⟨by omega, this.2⟩
  ·refine List.nodup_cons.2 ⟨fun q => ?_, i2⟩
   have := (i1 d.id q).1
   omega
  ·by_cases e : d.id = ro
   ·rw [e, jkz h]; rfl
   ·have hc := (jlz h hd k2).2 e
    cases hl : wayL X d.id with
    | nil => exact absurd hl hc.2
    | cons b r => rw [List.getLast?_cons_cons, ← hl]; exact hc.1
theorem uVz (h : Tre X ro) {o : Ob} (ho : o ∈ X) : (wayL X o.id).length < X.length := by
 obtain ⟨i1, i2, _⟩ := uWz h _ o ho rfl
 have hnd : (o.id :: wayL X o.id).Nodup := List.nodup_cons.2 ⟨fun q => by have := (i1 o.id q).1; omega, i2⟩
 have := yRz _ (X.map Ob.id) hnd fun x hx => by
  rcases List.mem_cons.1 hx with q | q
  ·rw [q]; exact List.mem_map.2 ⟨o, ho, rfl⟩
  ·obtain ⟨d, hd, e⟩ := (i1 x q).2
   exact List.mem_map.2 ⟨d, hd, e⟩
 rw [List.length_map, List.length_cons] at this
 omega
theorem data_nil {x : Ob} (h : qKz x = true) (hk : x.kind ≠ 1) : x.data = [] := ubz ((qUz x).1 (qnz.1 h).2.2) hk
end
theorem alo_io {x : Ob} (h : aloO x = x) (hk : ¬ x.kind = 6) : x.inn = [] ∧ x.out = [] := by
 have e : (aloO x).inn = [] ∧ (aloO x).out = [] := by
  unfold aloO
  by_cases h1 : x.kind = 1
  ·rw [if_pos h1]; exact ⟨rfl, rfl⟩
  rw [if_neg h1]
  by_cases h2 : x.kind = 2
  ·rw [if_pos h2]; exact ⟨rfl, rfl⟩
  rw [if_neg h2]
  by_cases h3 : x.kind = 3
  ·rw [if_pos h3]; exact ⟨rfl, rfl⟩
  rw [if_neg h3]
  by_cases h4 : x.kind = 4
  ·rw [if_pos h4]; exact ⟨rfl, rfl⟩
  rw [if_neg h4]
  by_cases h5 : x.kind = 5
  ·rw [if_pos h5]; exact ⟨rfl, rfl⟩
  rw [if_neg h5, if_neg hk]; exact ⟨rfl, rfl⟩
 rw [h] at e; exact e
theorem kuz {x : Ob} (hs : qKz x = true) (hf : x.links.length < 4294967296 ∧ x.data.length < 4294967296 ∧ x.maps.length < 4294967296) : Small x := by
 obtain ⟨hc, ho, hw⟩ := qnz.1 hs
 have ha := (qUz x).1 hw
 have b1 := (qzz.1 (qJz.1 hc).2.2.2.1).1
 have hth : x.th.clear.length < 8796093022208 ∧ x.th.l0.length < 8796093022208 ∧ x.th.l1.length < 8796093022208 ∧ x.th.l2.length < 8796093022208 ∧ x.th.l3.length < 8796093022208 ∧ x.th.alerts.length < 4294967296 := by
  by_cases h4 : x.kind = 4
  ·obtain ⟨_, q1, q2⟩ := (own4 h4).1 ho
   have k1 := (qzz.1 (q7z.1 q1).2.1).1
   have q3 := (waz.1 q2).1
   have k2 := (qzz.1 (q3 0 (by omega))).1
   have k3 := (qzz.1 (q3 1 (by omega))).1
   have k4 := (qzz.1 (q3 2 (by omega))).1
   have k5 := (qzz.1 (q3 3 (by omega))).1
   simp only [labs] at k2 k3 k4 k5
   have k6 : x.th.alerts.length ≤ 8 := by
    unfold thrB at q2
    simp only [Bool.and_eq_true, decide_eq_true_eq] at q2
    omega
   omega
  ·rw [alo_th ha h4]; decide
 have hgt : x.gt.grant.length < 8796093022208 ∧ x.gt.clear.length < 8796093022208 := by
  by_cases h5 : x.kind = 5
  ·have q := q7z.1 ((own5 h5).1 ho)
   have k1 := (qzz.1 q.1).1
   have k2 := (qzz.1 q.2.1).1
   omega
  ·rw [alo_gt ha h5]; decide
 have hio : x.inn.length < 4294967296 ∧ x.out.length < 4294967296 := by
  by_cases h6 : x.kind = 6
  ·unfold ownB at ho
   rw [if_neg (by rw [h6]; decide), if_neg (by rw [h6]; decide), if_neg (by rw [h6]; decide), if_neg (by rw [h6]; decide), if_neg (by rw [h6]; decide), if_pos h6] at ho
   simp only [Bool.and_eq_true, decide_eq_true_eq] at ho
   omega
  ·rw [(alo_io ha h6).1, (alo_io ha h6).2]; decide
 exact ⟨by omega, hf.1, hf.2.1, hf.2.2, hth.1, hth.2.2.2.2.2, hth.2.1, hth.2.2.1, hth.2.2.2.1, hth.2.2.2.2.1, hgt.1, hgt.2, hio.1, hio.2⟩
theorem uFz {t ke ro : Int} {X : List Ob} (h : bqz X) (hf : fitW ⟨t, ke, ro, X⟩ = true) : wez X := by
 intro x hx
 obtain ⟨i, hi, e⟩ := List.getElem_of_mem hx
 have := h.2 i hi
 rw [qyz hi, e] at this
 exact kuz ((yfz hf).2.1 x hx) ⟨by have := this.2.1; omega, by have := this.2.2.1; omega, by have := this.2.2.2; omega⟩
end
section
open Go.RowKit Go.Shelf
attribute [local go_sem] Oper.semAt_some
theorem rhas_any {w : World} {al : Option Addr} {nl cl : Nat} {L : List Int} {i : Int} (h : CtD (LtN w) w al nl cl L) : Asks 76 #[.slice al nl cl, .int .u64 i] (i ∈ L) w := by
 have hn : Hid (L.length = nl) := h.1
 have hnc := h.2.1
 have hcm := h.2.2.1.1
 have ga1 := isAgg22
 unfold Asks
 go_enter func76, ntmps76
 go_wp2
 go_loopw [5] (fun j wr => ∃ k : Nat, k ≤ nl ∧ j = .int .i64 k ∧ Hid (∀ q, q < k → L.getD q 0 ≠ i) ∧ wr = w) (fun j _ => nl - (intOf j).toNat)
 case atStart => exact ⟨0, Nat.zero_le _, rfl, fun q hq => absurd hq (by omega), rfl⟩
 case round =>
  obtain ⟨k, hk, rfl, hal, rfl⟩ := hrel
  by_cases hkn : k < nl
  ·obtain ⟨b, off, rfl, hb, hc⟩ := jRz h hkn
   have hkn' : (k : Int) < nl := by omega
   go_wp2_with (first
    | (with_reducible refine qSz (by kernel_rfl) _ _ rfl b _ rfl _ hc ga1 ?_)
    | ((with_reducible refine qez (by kernel_rfl) .eql _ _ _ _ rfl _ _ rfl rfl (qsz _ _ _ _ _ _) ?_ ?_) <;> intro hq))
   ·go_ret
    exact qqz (by rw [← hq.out]; exact jKz (by rw [hn.out]; exact hkn)) (brz _ _)
   ·go_roundw
    case rel => exact ⟨k + 1, by omega, by go_num, wvz hal.out hq.out, trivial⟩
    case measure => simp [intOf]; omega
  ·obtain rfl : k = nl := by omega
   go_wp2
   go_ret
   have hq : Hid (¬ i ∈ L) := by
    refine (?_ : ¬ i ∈ L)
    intro e
    obtain ⟨j, hj, q⟩ := List.getElem_of_mem e
    have := hal.out j (by rw [← hn.out]; exact hj)
    rw [List.getD_eq_getElem?_getD, List.getElem?_eq_getElem hj] at this
    exact this q
   exact qkz hq (brz _ _) id
theorem vBz {X : List Ob} {i : Int} {k : Nat} (h : k < X.length) : holL (X.take (k + 1)) i = holL (X.take k) i ++ (if i ∈ (oat X k).links then [(oat X k).id] else []) := by
 unfold holL
 rw [List.take_add_one, List.getElem?_eq_getElem h, qyz h, Option.toList_some, List.filter_append, List.map_append]
 congr 1
 by_cases q : i ∈ X[k].links
 ·rw [if_pos q, List.filter_cons_of_pos (by simpa using q)]; rfl
 ·rw [if_neg q, List.filter_cons_of_neg (by simpa using q)]; rfl
theorem gjz {v : Int} (w : World) : (Instr.buildSlice 28 1 #[(0, .int .u64 v)]).run prog w = .ok (.slice (some ⟨w.heap.size, 0, none⟩) 1 1) (w.alloc (.cells #[.int .u64 v] 22)) := by
 obtain ⟨i0, hi, hz0, hz1, hz2⟩ := info_parts ydz
 refine run_buildSlice w _ _ 1 _ _ i0 _ underlying28 hi hz0 (by rw [hz1]; omega) (by rw [hz1]; omega) ?_
 rw [hz1]
 have := Great.fill_whole (s := 1) (by omega) [.int .u64 v] ((Array.range (1 * 1)).map ((Value.int .u64 0).cells[· % (Value.int .u64 0).cells.size]!)) (by simp [Value.cells]) (by simp)
 simpa [Value.cells] using this
section
variable {ops : Array Oper} {rest : List Oper} {op : Oper} {a : Act} {Q : Exit → Act → World → Prop} {w : World}
theorem xNz (hgd : op.guard = none) (x : Operand) (ho : op.op = .buildSlice 28 1 #[(0, x)]) (v : Int) (hx : a.eval x = .int .u64 v)
  (h : ∀ B W, Hid (w.heap.size = B ∧ W.heap.size = B + 1) → Blk W B #[.int .u64 v] 22 → Below w.heap.size w W → wpList prog ops Q rest (a.put op.dst (.slice (some ⟨B, 0, none⟩) 1 1)) W) : wpList prog ops Q (op :: rest) a w :=
 wpList_plain hgd fun K hK => by
  have e : (#[(0, x)].map fun ((i : Nat), x) => (i, a.eval x)) = #[(0, Value.int .u64 v)] := by simp [hx]
  unfold Oper.wp execOp
  simp only [ho, e, Sem.run_bind, gjz, Result.andThen_ok]
  exact hK _ _ (h _ _ ⟨rfl, by simp⟩ (Blk.new w #[.int .u64 v] 22) ((brz _ w).alloc (lrz _) _))
end
theorem kgz {W : World} {B : Nat} {v : Int} (h : Blk W B #[.int .u64 v] 22) : RowC 1 (LtN W) W (some ⟨B, 0, none⟩) 1 1 [.int .u64 v] :=
 ⟨rfl, lrz _, ⟨by omega, fun e => by cases e⟩, fun _ => ⟨B, 0, rfl, h.lt, h.range0⟩⟩
variable {w : World} {ao : Option Addr} {X : List Ob} {n cap : Nat} {i : Int} {t ke ro : Int}
theorem kaz (h : Obs w ao n cap X) (hn16 : n ≤ 4096) : Calls prog 43 #[.agg #[.int .i64 t, .int .u64 ke, .int .u64 ro, .slice ao n cap], .int .u64 i] w fun e w' => ∃ v, e = .returned v ∧ w'.ownsRow w.heap.size 22 1 v (holL X i).length (qMz (holL X i)) ∧ Below w.heap.size w w' := by
 have hn : Hid (X.length = n) := h.1
 have hnc := h.2.1
 have hcm := h.2.2.1.1
 have ga1 := isAgg22
 have ga3 := isAgg23
 have ga4 := isAgg28
 have c3 : (#[.int .i64 t, .int .u64 ke, .int .u64 ro, .slice ao n cap] : Array Value)[3]? = some (.slice ao n cap) := rfl
 obtain ⟨G, hG⟩ : ∃ G : Array Value, G = #[.int .i64 t, .int .u64 ke, .int .u64 ro, .slice ao n cap] := ⟨_, rfl⟩
 rw [← hG] at c3
 rw [← hG]
 clear hG
 go_enter func43, ntmps43
 go_wp2_with (first
  | (with_reducible refine qcz rfl _ _ rfl G rfl ?_; intro B W hB hb hk))
 have hBl : Hid (w.heap.size = B ∧ W.heap.size = B + 1) := hB
 clear hB
 go_loopw [5, 6] (fun v j wr => ∃ k : Nat, k ≤ n ∧ j = .int .i64 k ∧ wr.ownsRow W.heap.size 22 1 v (holL (X.take k) i).length (qMz (holL (X.take k) i)) ∧ Below W.heap.size W wr) (fun _ j _ => n - (intOf j).toNat)
 case atStart => exact ⟨0, Nat.zero_le _, rfl, World.ownsRow_nil _ _ _ _, brz _ _⟩
 case round =>
  obtain ⟨k, hkn1, rfl, hown, hb0⟩ := hrel
  have hbw := btz hk hb0
  replace hb := hb.next hb0
  have hb0s := hb0.size
  by_cases hkn : k < n
  ·obtain ⟨b, off, C, rfl, hbb, hC, hr⟩ := wqz (qvz h hbw) hkn
   obtain ⟨al, nl, cl, c5, hLk⟩ := hC.links
   have hkn' : (k : Int) < n := by omega
   have hid : wr.cell? ⟨b, off + k * 51, none⟩ = some (.int .u64 (oat X k).id) := by simpa using hr 0 _ (by simpa using hC.id)
   have hlk : wr.cell? ⟨b, off + k * 51 + 5, none⟩ = some (.slice al nl cl) := hr 5 _ (by simpa using c5)
   have hidW : ∀ W, Below wr.heap.size wr W → W.cell? ⟨b, off + k * 51, none⟩ = some (.int .u64 (oat X k).id) := fun W q => (World.cell?_of_block (w := wr) (a := ⟨b, off + k * 51, none⟩) (q.block b hbb)).trans hid
   have hsu := vBz (i := i) (show k < X.length by rw [hn.out]; exact hkn)
   have hl : (holL (X.take k) i).length ≤ k := by unfold holL; rw [List.length_map]; exact Nat.le_trans (List.length_filter_le ..) (by simp; omega)
   go_wp2_with (first
    | (with_reducible refine qaz (by kernel_rfl) _ _ rfl B _ rfl _ _ hb _ c3 ga3 ?_)
    | (with_reducible refine qSz (by kernel_rfl) _ _ rfl b _ rfl _ hlk ga4 ?_)
    | (go_at_call 76; (with_reducible refine (rhas_any hLk).on ?_ ?_) <;> (intro w1 hq hb1; replace hb := hb.next hb1; have hid1 := hidW _ hb1))
    | (with_reducible refine qSz (by kernel_rfl) _ _ rfl b _ rfl _ hid1 ga1 ?_)
    | ((with_reducible refine xNz rfl _ rfl (oat X k).id rfl ?_); intro Bq W8 hBq hbq hk8; have hown8 := wDz (wDz hown hb1) hk8)
    | (at_builtin; refine qLz ydz underlying28 rfl (by omega) rfl _ _ rfl W.heap.size _ _ _ rfl hown8 _ _ _ _ [.int .u64 (oat X k).id] rfl (kgz hbq) (fun u hu => by rw [List.mem_singleton] at hu; rw [hu]; rfl) (by unfold maxLen; omega) (by omega) (Nat.le_trans hb0s (Nat.le_trans hb1.size hk8.size)) ?_; intro v' w2 hown' hgrow))
   ·go_roundw
    case rel =>
     rw [if_pos hq.out] at hsu
     have hb2 : Below W.heap.size W w2 := ((hb0.trans (hb1.mono hb0s)).trans (hk8.mono (Nat.le_trans hb0s hb1.size))).grown hgrow (Nat.le_trans hb0s (Nat.le_trans hb1.size hk8.size)) (vlz hown8)
     refine ⟨k + 1, by omega, by go_num, ?_, hb2⟩
     rw [hsu, List.length_append]
     have e : qMz (holL (X.take k) i ++ [(oat X k).id]) = qMz (holL (X.take k) i) ++ [.int .u64 (oat X k).id] := by simp [qMz]
     rw [e]
     exact hown'
    case measure => simp [intOf]; omega
   ·go_roundw
    case rel =>
     rw [if_neg hq.out, List.append_nil] at hsu
     exact ⟨k + 1, by omega, by go_num, by rw [hsu]; exact wDz hown hb1, hb0.trans (hb1.mono hb0s)⟩
    case measure => simp [intOf]; omega
  ·obtain rfl : k = n := by omega
   go_wp2_with (first
    | (with_reducible refine qaz (by kernel_rfl) _ _ rfl B _ rfl _ _ hb _ c3 ga3 ?_))
   go_ret
   have ht : X.take k = X := by rw [← hn.out]; exact List.take_length
   rw [ht] at hown
   refine ⟨_, rfl, ⟨hown.1, ?_⟩, hbw⟩
   rcases hown.2 with q | ⟨g, c, cur, q1, q2, q3⟩
   ·exact .inl q
   ·exact .inr ⟨g, c, cur, q1, Nat.le_trans hk.size q2, q3⟩
theorem biz {N : Nat} (hN : N < 4294967296) : Calls prog 121 #[.slice none 0 0, .int .i64 (N : Int)] w fun e w' => ∃ v, e = .returned v ∧ w'.ownsRow w.heap.size 22 1 v 0 [] ∧ Below w.heap.size w w' := by
 have h1 : ¬ ((N : Int) < 0) := by omega
 rcases Nat.eq_zero_or_pos N with h0 | h0
 ·subst h0
  go_enter func121, ntmps121
  go_wp2
  go_ret
  exact ⟨_, rfl, World.ownsRow_nil _ _ _ _, brz _ _⟩
 ·obtain ⟨i0, hi, hz0, hz1, hz2⟩ := info_parts ydz
  have hG := grownCap_ge w (0 + N) 0 22
  have hG63 := grownCap_le_maxLen w (0 + N) 0 22 (by unfold maxLen; omega)
  have hrz : ∀ ty, (Builtin.append_ #[28, 3] ty #[.slice none 0 0, .int .i64 (N : Int)]).run prog w = .ok (.slice (some ⟨w.heap.size, 0, none⟩) (0 + N) (grownCap w (0 + N) 0 22)) (w.drew.alloc (.cells (([] : List Value).toArray ++ Builtin.zeroCells (Value.int .u64 0).cells N ++ Builtin.zeroCells (Value.int .u64 0).cells (grownCap w (0 + N) 0 22 - (0 + N))) 22)) := fun ty =>
   Lib.run_append_grow_zeros w 28 3 ty 22 i0 (.int .u64 0) .i64 .i64 underlying28 underlying3 hi hz0 none 0 0 [] (run_firstCells_none w.drew i0.size 0 0 0) N h0 (by omega) (by omega) (by omega) (by rw [hz2]; omega) (by rw [hz2]; exact growslice_fits (by omega) (by omega))
  obtain ⟨G, hGe⟩ : ∃ G, G = grownCap w (0 + N) 0 22 := ⟨_, rfl⟩
  rw [← hGe] at hrz hG hG63
  obtain ⟨cur, hcur⟩ : ∃ cur, cur = (([] : List Value).toArray ++ Builtin.zeroCells (Value.int .u64 0).cells N ++ Builtin.zeroCells (Value.int .u64 0).cells (G - (0 + N))) := ⟨_, rfl⟩
  have hcs : cur.size = G * 1 := by
   rw [hcur]
   have hzz : (Value.int .u64 0).cells.size = 1 := rfl
   simp [Builtin.zeroCells, hzz]
   omega
  rw [← hcur] at hrz
  have hbl : (w.drew.alloc (.cells cur 22)).heap[w.heap.size]? = some (.cells cur 22 (0, 0)) := heap_alloc_new w.drew _
  have hbe : Below w.heap.size w (w.drew.alloc (.cells cur 22)) := ((brz w.heap.size w).drew).alloc (lrz _) _
  have hG63' : G ≤ 9223372036854775807 := by unfold maxLen at hG63; omega
  clear hGe hcur
  generalize w.drew.alloc (.cells cur 22) = W1 at hrz hbl hbe
  go_enter func121, ntmps121
  go_wp2_with (at_builtin; refine Lib.wpList_append_run _ rfl _ _ _ _ rfl _ _ rfl rfl _ _ (hrz _) ?_)
  go_ret
  refine ⟨_, rfl, ⟨rfl, .inr ⟨w.heap.size, G, cur, rfl, lrz _, hbl, Nat.zero_le _, hG63, hcs, ?_⟩⟩, hbe⟩
  simp
theorem yiz {Bq m : Nat} {Cq : Array Value} {af : Nat → Option Addr} {nf cf : Nat → Nat} {sf : Nat → List Value} (hb : Blk w Bq Cq 28) (hc : ∀ i, i < m → Cq[i]? = some (.slice (af i) (nf i) (cf i))) (hr : ∀ i, i < m → RowC 1 (LtN w) w (af i) (nf i) (cf i) (sf i)) (h1 : ∀ i, i < m → ∀ u ∈ sf i, u.oneCell' = true) (hm : m < 4294967296) (hN : psum nf m < 4294967296) :
  Calls prog 93 #[.slice (some ⟨Bq, 0, none⟩) m m] w fun e w' => ∃ v, e = .returned v ∧ w'.ownsRow w.heap.size 22 1 v (psum nf m) (pcat sf m) ∧ Below w.heap.size w w' := by
 have ga3 := isAgg28
 go_enter func93, ntmps93
 go_wp2
 go_loopw [3, 11] (fun s i wr => ∃ k : Nat, k ≤ m ∧ i = .int .i64 k ∧ s = .int .i64 (psum nf k : Nat) ∧ Blk wr Bq Cq 28 ∧ Below w.heap.size w wr) (fun _ i _ => m - (intOf i).toNat)
 case atStart => exact ⟨0, Nat.zero_le _, rfl, rfl, hb, brz _ _⟩
 case round =>
  obtain ⟨k, hk, rfl, rfl, hbk, hbw⟩ := hrel
  by_cases hkm : k < m
  ·have hkm' : (k : Int) < m := by omega
   have hcell := (hbk.cell k).trans (hc k hkm)
   have hps : psum nf k + nf k < 4294967296 := Nat.lt_of_le_of_lt (xFz nf (show k + 1 ≤ m from hkm)) hN
   have hns : ¬ ((psum nf k + nf k : Nat) : Int) < 0 := by omega
   go_wp2
   go_roundw
   case rel => exact ⟨k + 1, hkm, by go_num, by rw [show psum nf (k + 1) = psum nf k + nf k from rfl]; go_num, hbk, hbw⟩
   case measure => simp [intOf]; omega
  ·obtain rfl : k = m := by omega
   go_wp2_with (first
    | (go_at_call 121; (with_reducible refine (biz hN).mono ?_); rintro e w1 ⟨v0, rfl, hown0, hb1⟩))
   have hbk1 := hbk.next hb1
   have hbw1 := btz hbw hb1
   have hown1 : w1.ownsRow w.heap.size 22 1 v0 0 [] := by
    refine ⟨hown0.1, ?_⟩
    rcases hown0.2 with q | ⟨g, c, cur, q1, q2, q3⟩
    ·exact .inl q
    ·exact .inr ⟨g, c, cur, q1, Nat.le_trans hbw.size q2, q3⟩
   clear hown0
   go_loopw [6, 27] (fun v i wr => ∃ j : Nat, j ≤ k ∧ i = .int .i64 j ∧ wr.ownsRow w.heap.size 22 1 v (psum nf j) (pcat sf j) ∧ Blk wr Bq Cq 28 ∧ Below w.heap.size w wr) (fun _ i _ => k - (intOf i).toNat)
   case atStart => exact ⟨0, Nat.zero_le _, rfl, hown1, hbk1, hbw1⟩
   case round =>
    obtain ⟨j, hj, rfl, hown, hbk2, hbw2⟩ := hrel
    by_cases hjm : j < k
    ·have hjm' : (j : Int) < k := by omega
     have hcell := (hbk2.cell j).trans (hc j hjm)
     have hps : psum nf j + nf j < 4294967296 := Nat.lt_of_le_of_lt (xFz nf (show j + 1 ≤ k from hjm)) hN
     have hrj := (hr j hjm).next hbw2
     have h1j := h1 j hjm
     go_wp2_with (at_builtin; refine qLz ydz underlying28 rfl (by omega) rfl _ _ rfl w.heap.size _ (psum nf j) (pcat sf j) rfl hown _ _ _ _ (sf j) rfl hrj h1j (by unfold maxLen; omega) (by omega) hbw2.size ?_; intro v' w2 hown' hgrow)
     go_roundw
     case rel =>
      have hbw3 : Below w.heap.size w w2 := hbw2.grown hgrow hbw2.size (vlz hown)
      have hbk3 : Blk w2 Bq Cq 28 := (hbw3.block Bq hb.lt).trans hb
      exact ⟨j + 1, hjm, by go_num, hown', hbk3, hbw3⟩
     case measure => simp [intOf]; omega
    ·obtain rfl : j = k := by omega
     go_wp2
     go_ret
     exact ⟨_, rfl, hown, hbw2⟩
def ahW (L : List Int) (i : Int) : Nat := (L.filter fun x => decide (x < i)).length
theorem bIz (L : List Int) (i : Int) : ahW L i ≤ L.length := List.length_filter_le ..
theorem ahW_of : ∀ {L : List Int} {k : Nat}, k ≤ L.length → (∀ j, j < k → L.getD j 0 < i) → (∀ j, k ≤ j → j < L.length → i ≤ L.getD j 0) → ahW L i = k
 | [], k, hk, _, _ => by simp at hk; subst hk; rfl
 | a :: r, 0, _, _, h2 => by
  unfold ahW
  have : (a :: r).filter (fun x => decide (x < i)) = [] := by
   rw [List.filter_eq_nil_iff]
   intro x hx
   obtain ⟨j, hj, e⟩ := List.getElem_of_mem hx
   have := h2 j (Nat.zero_le _) hj
   rw [List.getD_eq_getElem?_getD, List.getElem?_eq_getElem hj, Option.getD_some, e] at this
   simp; omega
  rw [this]; rfl
 | a :: r, k + 1, hk, h1, h2 => by
  have h0 := h1 0 (by omega)
  simp only [List.getD_cons_zero] at h0
  have ih := ahW_of (L := r) (k := k) (by simpa using hk) (fun j hj => by simpa using h1 (j + 1) (by omega)) (fun j q1 q2 => by simpa using h2 (j + 1) (by omega) (by simpa using q2))
  unfold ahW at ih ⊢
  rw [List.filter_cons_of_pos (by simpa using h0), List.length_cons, ih]
theorem ywz {a : Int} : Calls prog 120 #[.int .u64 a] w fun e w' => e = .returned (.bool false) ∧ w' = w := by
 go_enter func120, ntmps120
 go_wp2
 go_ret
 exact ⟨rfl, rfl⟩
theorem less_any {a b : Int} : Calls prog 119 #[.int .u64 a, .int .u64 b] w fun e w' => e = .returned (.bool (decide (a < b))) ∧ w' = w := by
 by_cases h : a < b
 ·rw [decide_eq_true h]
  go_enter func119, ntmps119
  go_wp2_with (go_at_call 112; refine xaz.mono ?_; rintro e w1 ⟨rfl, rfl⟩)
  go_ret
  exact ⟨by first | rfl | simp [h], rfl⟩
 ·rw [decide_eq_false h]
  go_enter func119, ntmps119
  go_wp2_with (go_at_call 112; refine xaz.mono ?_; rintro e w1 ⟨rfl, rfl⟩)
  go_ret
  exact ⟨by first | rfl | simp [h], rfl⟩
variable {L : List Int} {al : Option Addr} {nl cl : Nat}
theorem bsw_full (h : CtD (LtN w) w al nl cl L) (hs : L.Pairwise (· < ·)) (hn16 : nl ≤ 4096) : Calls prog 92 #[.slice al nl cl, .int .u64 i] w fun e w' => e = .returned (.tuple #[.int .i64 (ahW L i : Nat), .bool (decide (i ∈ L))]) ∧ w' = w := by
 have hn : Hid (L.length = nl) := h.1
 have hnc := h.2.1
 have hcm := h.2.2.1.1
 have hsH : Hid (∀ j k, j < k → k < nl → L.getD j 0 < L.getD k 0) := by
  refine (?_ : ∀ j k, j < k → k < nl → L.getD j 0 < L.getD k 0)
  intro j k q1 q2
  have hl := hn.out
  have := List.pairwise_iff_getElem.1 hs j k (by omega) (by omega) q1
  rwa [List.getD_eq_getElem?_getD, List.getElem?_eq_getElem (by omega), List.getD_eq_getElem?_getD, List.getElem?_eq_getElem (by omega)]
 have ga1 := isAgg22
 clear hs
 go_enter func92, ntmps92
 go_wp2
 go_loopw [7, 8] (fun vl vh wr => ∃ lo hi : Nat, lo ≤ hi ∧ hi ≤ nl ∧ vl = .int .i64 lo ∧ vh = .int .i64 hi ∧ Hid (∀ j, j < lo → L.getD j 0 < i) ∧ Hid (∀ j, hi ≤ j → j < nl → i ≤ L.getD j 0) ∧ wr = w) (fun vl vh _ => (intOf vh).toNat - (intOf vl).toNat)
 case atStart => exact ⟨0, nl, Nat.zero_le _, lrz _, rfl, rfl, fun j hj => absurd hj (by omega), fun j h1 h2 => absurd h2 (by omega), rfl⟩
 case round =>
  obtain ⟨lo, hi, hlh, hhn, rfl, rfl, hlo, hhi, rfl⟩ := hrel
  by_cases hlt : lo < hi
  ·obtain ⟨m, hm⟩ : ∃ m : Nat, m = (lo + hi) / 2 := ⟨_, rfl⟩
   have hmi : ((lo : Int) + hi) / 2 = m := by omega
   have hmn : m < nl := by omega
   have hm1 : lo ≤ m := by omega
   have hm2 : m < hi := by omega
   have hmn' : (m : Int) < nl := by omega
   have hm96 : m ≤ 4096 := by omega
   obtain ⟨b, off, rfl, hbb, hc⟩ := jRz h hmn
   clear hm
   have hls := less_any (w := wr) (a := L.getD m 0) (b := i)
   by_cases hxi : L.getD m 0 < i
   ·rw [decide_eq_true hxi] at hls
    have hlo2 : Hid (∀ j, j < m + 1 → L.getD j 0 < i) := by
     refine (?_ : ∀ j, j < m + 1 → L.getD j 0 < i)
     intro j hj
     rcases Nat.lt_or_ge j m with q | q
     ·have := hsH.out j m q hmn; omega
     ·obtain rfl : j = m := by omega
      exact hxi
    generalize L.getD m 0 = z at hc hls
    go_wp2_with (first
     | (with_reducible refine xOz (by kernel_rfl) .shr _ _ _ _ rfl _ _ rfl rfl (vZz _ _ _ _ hmi) ?_)
     | (with_reducible refine xuz (by kernel_rfl) 121 3 _ rfl (.int .u64 (m : Int)) rfl (yhz _ hm96) ?_)
     | (with_reducible refine qSz (by kernel_rfl) _ _ rfl b _ rfl _ hc ga1 ?_)
     | (go_at_call 119; (with_reducible refine hls.mono ?_); rintro e w1 ⟨rfl, rfl⟩))
    go_roundw
    case rel => exact ⟨m + 1, hi, by omega, hhn, by go_num, rfl, hlo2, hhi, trivial⟩
    case measure => simp [intOf]; omega
   ·rw [decide_eq_false hxi] at hls
    have hhi2 : Hid (∀ j, m ≤ j → j < nl → i ≤ L.getD j 0) := by
     refine (?_ : ∀ j, m ≤ j → j < nl → i ≤ L.getD j 0)
     intro j hj hjn
     rcases Nat.lt_or_ge m j with q | q
     ·have := hsH.out m j q hjn; omega
     ·obtain rfl : j = m := by omega
      omega
    generalize L.getD m 0 = z at hc hls
    go_wp2_with (first
     | (with_reducible refine xOz (by kernel_rfl) .shr _ _ _ _ rfl _ _ rfl rfl (vZz _ _ _ _ hmi) ?_)
     | (with_reducible refine xuz (by kernel_rfl) 121 3 _ rfl (.int .u64 (m : Int)) rfl (yhz _ hm96) ?_)
     | (with_reducible refine qSz (by kernel_rfl) _ _ rfl b _ rfl _ hc ga1 ?_)
     | (go_at_call 119; (with_reducible refine hls.mono ?_); rintro e w1 ⟨rfl, rfl⟩))
    go_roundw
    case rel => exact ⟨lo, m, by omega, by omega, rfl, rfl, hlo, hhi2, trivial⟩
    case measure => simp [intOf]; omega
  ·obtain rfl : lo = hi := by omega
   have hke : Hid (ahW L i = lo) := ahW_of (by rw [hn.out]; exact hhn) hlo.out (fun j h1 h2 => hhi.out j h1 (by rw [← hn.out]; exact h2))
   have hin : i ∈ L → ∃ j, j < nl ∧ L.getD j 0 = i := fun q => by
    obtain ⟨j, hj, e⟩ := List.getElem_of_mem q
    exact ⟨j, by rw [← hn.out]; exact hj, by rw [List.getD_eq_getElem?_getD, List.getElem?_eq_getElem hj]; exact e⟩
   by_cases hln : lo < nl
   ·obtain ⟨b, off, rfl, hbb, hc⟩ := jRz h hln
    have hln' : (lo : Int) < nl := by omega
    have hyes : L.getD lo 0 = i → decide (i ∈ L) = true := fun e => by
     refine decide_eq_true ?_
     rw [← e, List.getD_eq_getElem?_getD, List.getElem?_eq_getElem (by rw [hn.out]; exact hln)]
     exact List.getElem_mem _
    have hnot : L.getD lo 0 ≠ i → decide (i ∈ L) = false := fun e => decide_eq_false fun q => by
     obtain ⟨j, hj, ej⟩ := hin q
     have h1 := hhi.out lo (lrz _) hln
     rcases Nat.lt_trichotomy j lo with r | r | r
     ·have := hlo.out j r; omega
     ·subst r; exact e ej
     ·have := hsH.out lo j r hj; omega
    clear hin
    generalize L.getD lo 0 = z at hc hyes hnot
    by_cases hxi : z = i
    ·have hd : Hid (decide (i ∈ L) = true) := hyes hxi
     clear hyes hnot
     subst hxi
     go_wp2_with (first
      | (with_reducible refine qSz (by with_unfolding_all rfl) _ _ rfl b _ rfl _ hc ga1 ?_)
      | (go_at_call 120; refine ywz.mono ?_; rintro e w1 ⟨rfl, rfl⟩))
     go_ret2
     rw [hke.out, hd.out]
     exact ⟨rfl, rfl⟩
    ·have hxb : (z == i) = false := by simpa using hxi
     have hd : Hid (decide (i ∈ L) = false) := hnot hxi
     clear hyes hnot
     go_wp2_with (first
      | (with_reducible refine qSz (by with_unfolding_all rfl) _ _ rfl b _ rfl _ hc ga1 ?_)
      | (go_at_call 120; refine ywz.mono ?_; rintro e w1 ⟨rfl, rfl⟩))
     go_ret2
     rw [hke.out, hd.out]
     exact ⟨rfl, rfl⟩
   ·have hln' : ¬ (lo : Int) < nl := by omega
    have hno : Hid (decide (i ∈ L) = false) := decide_eq_false fun q => by
     obtain ⟨j, hj, ej⟩ := hin q
     have := hlo.out j (by omega)
     omega
    clear hin
    go_wp2
    go_ret2
    exact ⟨by rw [hke.out, hno.out]; rfl, rfl⟩
theorem bsw_any (h : CtD (LtN w) w al nl cl L) (hs : L.Pairwise (· < ·)) (hn16 : nl ≤ 4096) : Calls prog 92 #[.slice al nl cl, .int .u64 i] w fun e w' => ∃ b, e = .returned (.tuple #[.int .i64 (ahW L i : Nat), .bool b]) ∧ w' = w :=
 (bsw_full h hs hn16).mono fun _ _ ⟨e, q⟩ => ⟨_, e, q⟩
theorem uBz (h : CtD (LtN w) w al nl cl L) : Calls prog 67 #[.slice al nl cl, .int .u64 i] w fun e w' => ∃ r : Int, e = .returned (.int .i64 r) ∧ Hid ((0 ≤ r ↔ i ∈ L) ∧ -1 ≤ r ∧ r ≤ cl) ∧ Below w.heap.size w w' := by
 have hn : Hid (L.length = nl) := h.1
 have hnc := h.2.1
 have hcm := h.2.2.1.1
 have ga1 := isAgg22
 go_enter func67, ntmps67
 go_wp2
 go_loopw [8] (fun j wr => ∃ k : Nat, k ≤ nl ∧ j = .int .i64 k ∧ Hid (∀ q, q < k → L.getD q 0 ≠ i) ∧ wr = w) (fun j _ => nl - (intOf j).toNat)
 case atStart => exact ⟨0, Nat.zero_le _, rfl, fun q hq => absurd hq (by omega), rfl⟩
 case round =>
  obtain ⟨k, hk, rfl, hal, rfl⟩ := hrel
  by_cases hkn : k < nl
  ·obtain ⟨b, off, rfl, hb, hc⟩ := jRz h hkn
   have hkn' : (k : Int) < nl := by omega
   go_wp2_with (first
    | (with_reducible refine qSz (by kernel_rfl) _ _ rfl b _ rfl _ hc ga1 ?_)
    | ((with_reducible refine qez (by kernel_rfl) .eql _ _ _ _ rfl _ _ rfl rfl (qsz _ _ _ _ _ _) ?_ ?_) <;> intro hq))
   ·go_ret
    refine ⟨(k : Int), rfl, ⟨⟨fun _ => ?_, fun _ => by omega⟩, by omega, by omega⟩, brz _ _⟩
    rw [hq.out]
    exact jKz (by rw [hn.out]; exact hkn)
   ·go_roundw
    case rel => exact ⟨k + 1, by omega, by go_num, wvz hal.out (fun e => hq.out e.symm), trivial⟩
    case measure => simp [intOf]; omega
  ·obtain rfl : k = nl := by omega
   go_wp2
   go_ret
   have hq : ¬ i ∈ L := by
    intro e
    obtain ⟨j, hj, q⟩ := List.getElem_of_mem e
    have := hal.out j (by rw [← hn.out]; exact hj)
    rw [List.getD_eq_getElem?_getD, List.getElem?_eq_getElem hj] at this
    exact this q
   exact ⟨-1, rfl, ⟨⟨fun e => absurd e (by decide), fun e => absurd e hq⟩, by decide, by omega⟩, brz _ _⟩
theorem kPz (h : CtD (LtN w) w al nl cl L) : Asks 37 #[.slice al nl cl, .int .u64 i] (i ∈ L) w := by
 unfold Asks
 go_enter func37, ntmps37
 go_wp2_with (first
  | (go_at_call 67; (with_reducible refine (uBz h).mono ?_); rintro e w1 ⟨r, rfl, hr, hb1⟩))
 go_ret
 exact ⟨_, rfl, (show (decide (0 ≤ r) = true) ↔ i ∈ L from decide_eq_true_iff.trans hr.out.1), hb1⟩
theorem bdz (h : Obs w ao n cap X) (hn16 : n ≤ 4096) : Calls prog 15 #[.agg #[.int .i64 t, .int .u64 ke, .int .u64 ro, .slice ao n cap], .int .u64 i] w fun e w' => ∃ v, e = .returned v ∧ w'.ownsRow w.heap.size 22 1 v (holL X i).length (qMz (holL X i)) ∧ Below w.heap.size w w' := by
 have hn : Hid (X.length = n) := h.1
 have hnc := h.2.1
 have hcm := h.2.2.1.1
 have ga1 := isAgg22
 have ga3 := isAgg23
 have ga4 := isAgg28
 have c3 : (#[.int .i64 t, .int .u64 ke, .int .u64 ro, .slice ao n cap] : Array Value)[3]? = some (.slice ao n cap) := rfl
 obtain ⟨G, hG⟩ : ∃ G : Array Value, G = #[.int .i64 t, .int .u64 ke, .int .u64 ro, .slice ao n cap] := ⟨_, rfl⟩
 rw [← hG] at c3
 rw [← hG]
 clear hG
 go_enter func15, ntmps15
 go_wp2_with (first
  | (with_reducible refine qcz rfl _ _ rfl G rfl ?_; intro B W hB hb hk)
  | (with_reducible refine qaz (by kernel_rfl) _ _ rfl B _ rfl _ _ hb _ c3 ga3 ?_))
 have hBl : Hid (w.heap.size = B ∧ W.heap.size = B + 1) := hB
 clear hB
 go_loopw [5, 11] (fun v j wr => ∃ k : Nat, k ≤ n ∧ j = .int .i64 k ∧ wr.ownsRow W.heap.size 22 1 v (holL (X.take k) i).length (qMz (holL (X.take k) i)) ∧ Below W.heap.size W wr) (fun _ j _ => n - (intOf j).toNat)
 case atStart => exact ⟨0, Nat.zero_le _, rfl, World.ownsRow_nil _ _ _ _, brz _ _⟩
 case round =>
  obtain ⟨k, hkn1, rfl, hown, hb0⟩ := hrel
  have hbw := btz hk hb0
  replace hb := hb.next hb0
  have hb0s := hb0.size
  by_cases hkn : k < n
  ·obtain ⟨b, off, C, rfl, hbb, hC, hr⟩ := wqz (qvz h hbw) hkn
   obtain ⟨al, nl, cl, c5, hLk⟩ := hC.links
   have hkn' : (k : Int) < n := by omega
   have c0 := hC.id
   have hz := hC.size
   have h1c := hC.one
   have hsu := vBz (i := i) (show k < X.length by rw [hn.out]; exact hkn)
   have hl : (holL (X.take k) i).length ≤ k := by unfold holL; rw [List.length_map]; exact Nat.le_trans (List.length_filter_le ..) (by simp; omega)
   go_wp2_with (first
    | (with_reducible refine qtz (by kernel_rfl) 43 _ rfl b _ rfl C hr _ underlying43 (by kernel_rfl) (qfz hz) ?_)
    | ((with_reducible refine qgz rfl _ rfl zC qwz ?_); intro R W3 hB3 hR3 hk3)
    | ((with_reducible refine qbz rfl _ _ _ rfl R rfl C rfl zC hR3 (qfz hz) (qrz.trans hz.symm) h1c ?_); intro W4 hR4 o4; have k4 := o4.below wr.heap.size wr (by have := hB3.out.1; omega) hk3; have hL4 := (hLk.laterK fun b hb => k4.block b hb).wide (fun b (hb : b < wr.heap.size) => ltz hb k4.size))
    | (with_reducible refine qaz (by kernel_rfl) _ _ rfl R _ rfl _ _ hR4 _ c5 ga4 ?_)
    | (go_at_call 37; (with_reducible refine (kPz hL4).on ?_ ?_) <;> (intro w1 hq hb1'; have hR1 := hR4.next hb1'; have hb1 := btz k4 hb1'; replace hb := hb.next hb1))
    | (with_reducible refine qaz (by kernel_rfl) _ _ rfl R _ rfl _ _ hR1 _ c0 ga1 ?_)
    | ((with_reducible refine xNz rfl _ rfl (oat X k).id rfl ?_); intro Bq W8 hBq hbq hk8; have hown8 := wDz (wDz hown hb1) hk8)
    | (at_builtin; refine qLz ydz underlying28 rfl (by omega) rfl _ _ rfl W.heap.size _ _ _ rfl hown8 _ _ _ _ [.int .u64 (oat X k).id] rfl (kgz hbq) (fun u hu => by rw [List.mem_singleton] at hu; rw [hu]; rfl) (by unfold maxLen; omega) (by omega) (Nat.le_trans hb0s (Nat.le_trans hb1.size hk8.size)) ?_; intro v' w2 hown' hgrow))
   ·go_roundw
    case rel =>
     rw [if_pos hq.out] at hsu
     have hb2 : Below W.heap.size W w2 := ((hb0.trans (hb1.mono hb0s)).trans (hk8.mono (Nat.le_trans hb0s hb1.size))).grown hgrow (Nat.le_trans hb0s (Nat.le_trans hb1.size hk8.size)) (vlz hown8)
     refine ⟨k + 1, by omega, by go_num, ?_, hb2⟩
     rw [hsu, List.length_append]
     have e : qMz (holL (X.take k) i ++ [(oat X k).id]) = qMz (holL (X.take k) i) ++ [.int .u64 (oat X k).id] := by simp [qMz]
     rw [e]
     exact hown'
    case measure => simp [intOf]; omega
   ·go_roundw
    case rel =>
     rw [if_neg hq.out, List.append_nil] at hsu
     exact ⟨k + 1, by omega, by go_num, by rw [hsu]; exact wDz hown hb1, hb0.trans (hb1.mono hb0s)⟩
    case measure => simp [intOf]; omega
  ·obtain rfl : k = n := by omega
   go_wp2
   go_ret
   have ht : X.take k = X := by rw [← hn.out]; exact List.take_length
   rw [ht] at hown
   refine ⟨_, rfl, ⟨hown.1, ?_⟩, hbw⟩
   rcases hown.2 with q | ⟨g, c, cur, q1, q2, q3⟩
   ·exact .inl q
   ·exact .inr ⟨g, c, cur, q1, Nat.le_trans hk.size q2, q3⟩
theorem jbz {S : World → Prop} {b off i n cap : Nat} (hi : i < n) : Obl.holds prog S (.ia 28 (.slice (some ⟨b, off, none⟩) n cap) (.int .i64 i) (.pointer (some ⟨b, off + i, none⟩))) := fun w hS => by
 have hi' : (i : Int) < n := by omega
 go_simp
variable {v : Value}
theorem xVz {S : World → Prop} {P : Program} {ty : TypeId} {b o : Nat} (hc : ∀ w, S w → w.cell? ⟨b, o, none⟩ = some v) (hg : ∀ w, (isAgg ty).run P w = .ok false w) : Obl.holds P S (.load ty b o v) := fun w hS => by
 simp [loadVar, hg, hc w hS]
variable {C : Array Value}
theorem ob_lt {w W W' : World} {x : Ob} (h : ObD (LtN w) W C x) (k : Below w.heap.size w W) (q : Below W.heap.size W W') : ObD (LtN w) W' C x :=
 h.laterK fun b hb => q.block b (ltz hb k.size)
theorem ob_oth {w W W' : World} {P : Nat} {x : Ob} (h : ObD (LtN w) W C x) (hP : w.heap.size ≤ P) (q : Oth P W W') : ObD (LtN w) W' C x :=
 h.laterK fun b hb => q.block b (by have : b < w.heap.size := hb; omega)
theorem jtz {w W : World} (h : Obs w ao n cap X) (k : Below w.heap.size w W) : Calls prog 9 #[.agg #[.int .i64 t, .int .u64 ke, .int .u64 ro, .slice ao n cap], .int .u64 i] W fun e w' => ∃ C', e = .returned (.tuple #[.agg C', .bool (fnd X i).isSome]) ∧ ObD (LtN w) w' C' (fO X i) ∧ Below W.heap.size W w' :=
 gvz (D0 := LtN w) (fun _ hb => ltz hb k.size) (qZz h (fun _ hb => hb) k)
theorem kbz {base : Nat} (h : w.ownsRow base 22 1 v L.length (qMz L)) : ∃ al cl, v = .slice al L.length cl ∧ CtD (fun b => base ≤ b ∧ b < w.heap.size) w al L.length cl L := by
 obtain ⟨ao, cap, e, h1, h2, h3, h4⟩ := RowC.of_owns h
 refine ⟨ao, cap, e, rfl, h2, h3, fun hn => ?_⟩
 obtain ⟨b, off, ea, hb, hr⟩ := h4 hn
 refine ⟨b, off, ea, hb, fun i hi => ?_⟩
 refine hr i _ ?_
 unfold qMz
 rw [List.getElem?_map, List.getElem?_eq_getElem hi, List.getD_eq_getElem?_getD, List.getElem?_eq_getElem hi]
 rfl
theorem yHz {W : World} {b b' : Nat} {e : TypeId} {size : Nat} {k : Nat} {xs : List Value} (hb : b' ≤ b) (h : W.ownsRow b e size v k xs) : W.ownsRow b' e size v k xs := by
 refine ⟨h.1, ?_⟩
 rcases h.2 with q | ⟨g, c, cur, q1, q2, q3⟩
 ·exact .inl q
 ·exact .inr ⟨g, c, cur, q1, Nat.le_trans hb q2, q3⟩
theorem abv_step {m : Nat} {j h : Int} {r : List Int} (e : holL X j = h :: r) : abvL X (m + 1) j = h :: abvL X m h := by
 conv => lhs; unfold abvL
 rw [e]
theorem abv_stop {m : Nat} {j : Int} (e : holL X j = []) : abvL X m j = [] := by
 cases m with
 | zero => rfl
 | succ m => unfold abvL; rw [e]
theorem rabove_w (h : Obs w ao n cap X) (hn16 : n ≤ 4096) : Calls prog 77 #[.agg #[.int .i64 t, .int .u64 ke, .int .u64 ro, .slice ao n cap], .int .u64 i] w fun e w' => ∃ v, e = .returned v ∧ w'.ownsRow w.heap.size 22 1 v (rabv X i).length (qMz (rabv X i)) ∧ Below w.heap.size w w' := by
 have hn : Hid (X.length = n) := h.1
 have ga1 := isAgg22
 have ga3 := isAgg23
 have c3 : (#[.int .i64 t, .int .u64 ke, .int .u64 ro, .slice ao n cap] : Array Value)[3]? = some (.slice ao n cap) := rfl
 have hzw : (prog.info? 25).map (·.size) = some (#[.int .i64 t, .int .u64 ke, .int .u64 ro, .slice ao n cap] : Array Value).size := by kernel_rfl
 have hho := fun (W : World) (i : Int) (hk : Below w.heap.size w W) => kaz (t := t) (ke := ke) (ro := ro) (i := i) (qvz h hk) hn16
 obtain ⟨G, hG⟩ : ∃ G : Array Value, G = #[.int .i64 t, .int .u64 ke, .int .u64 ro, .slice ao n cap] := ⟨_, rfl⟩
 rw [← hG] at c3 hzw hho
 rw [← hG]
 clear hG
 obtain ⟨A, hA⟩ : ∃ A, Hid (A = abvL X (n + 1) i) := ⟨_, rfl⟩
 obtain ⟨RV, hRV⟩ : ∃ RV, Hid (rabv X i = RV) := ⟨_, rfl⟩
 have hrv : Hid (RV = if A.length ≤ n then A else []) := by show RV = _; rw [← hRV.out]; unfold rabv; rw [hn.out, hA.out]
 rw [hRV.out]
 go_enter func77, ntmps77
 go_wp2_with (first
  | (with_reducible refine qcz rfl 25 _ rfl G rfl ?_; intro B2 W2 hN2 hB2 hk0))
 have hs0 := hk0.size
 clear hN2
 go_loopw [1, 5] (fun vi vo wr => ∃ (j : Int) (pre : List Int), vi = .int .u64 j ∧ pre.length ≤ n + 1 ∧ wr.ownsRow W2.heap.size 22 1 vo pre.length (qMz pre) ∧ Hid (pre ++ abvL X (n + 1 - pre.length) j = A) ∧ Below W2.heap.size W2 wr) (fun _ vo _ => match vo with | .slice _ k _ => n + 1 - k | _ => 0)
 case atStart => exact ⟨i, [], rfl, Nat.zero_le _, World.ownsRow_nil _ _ _ _, hA.out.symm, brz _ _⟩
 case round =>
  obtain ⟨j, pre, rfl, hpl, hown, hpa, hk2⟩ := hrel
  replace hB2 := hB2.next hk2
  have hk := hk0.trans (hk2.mono hs0)
  obtain ⟨al, cl, rfl, hct⟩ := kbz hown
  by_cases hle : pre.length ≤ n
  ·have hle' : ((pre.length : Nat) : Int) ≤ n := by omega
   obtain ⟨m, hm⟩ : ∃ m, Hid (n + 1 - pre.length = m + 1) := ⟨n - pre.length, by show _ = _; omega⟩
   rw [hm.out] at hpa
   have hhj := hho wr j hk
   cases hj : holL X j with
   | nil =>
    rw [hj] at hhj
    have hA2 : Hid (A = pre) := by show A = pre; rw [← hpa.out, abv_stop hj, List.append_nil]
    go_wp2_with (first
     | (with_reducible refine qaz (by kernel_rfl) _ _ rfl B2 _ rfl _ _ hB2 _ c3 ga3 ?_)
     | (with_reducible refine qdz (by kernel_rfl) _ _ rfl B2 rfl G hB2 _ underlying25 (by kernel_rfl) hzw ?_)
     | (go_at_call 43; (with_reducible refine hhj.mono ?_); rintro e w1 ⟨v, rfl, hown1, hb1⟩; obtain ⟨al1, cl1, rfl, hct1⟩ := kbz hown1; replace hk := btz hk hb1; have hown2 := wDz hown hb1))
    go_ret
    refine ⟨_, rfl, ?_, hk⟩
    have e : RV = pre := by rw [hrv.out, hA2.out, if_pos hle]
    rw [e]
    exact yHz hs0 hown2
   | cons a r =>
    rw [hj] at hhj
    have hst := abv_step (m := m) hj
    go_wp2_with (first
     | (with_reducible refine qaz (by kernel_rfl) _ _ rfl B2 _ rfl _ _ hB2 _ c3 ga3 ?_)
     | (with_reducible refine qdz (by kernel_rfl) _ _ rfl B2 rfl G hB2 _ underlying25 (by kernel_rfl) hzw ?_)
     | (go_at_call 43; (with_reducible refine hhj.mono ?_); rintro e w1 ⟨v, rfl, hown1, hb1⟩; obtain ⟨al1, cl1, rfl, hct1⟩ := kbz hown1; obtain ⟨b1, off1, rfl, hbb1, hc1⟩ := jRz hct1 (i := 0) (by simp); have hB2' := hB2.next hb1; have hk1 := btz hk hb1; have hown2 := wDz hown hb1; have hlr : (0 : Int) < ((a :: r).length : Nat) := (by simp only [List.length_cons]; omega); have hlz : ((((a :: r).length : Nat) : Int) == 0) = false := (by rw [beq_eq_false_iff_ne]; omega); simp only [List.getD_cons_zero] at hc1)
     | (with_reducible refine qSz (by kernel_rfl) _ _ rfl b1 _ rfl _ hc1 ga1 ?_)
     | ((with_reducible refine xNz rfl _ rfl a rfl ?_); intro Bq W8 hBq hbq hk8; have hown8 := wDz hown2 hk8)
     | (at_builtin; refine qLz ydz underlying28 rfl (by omega) rfl _ _ rfl W2.heap.size _ _ _ rfl hown8 _ _ _ _ [.int .u64 a] rfl (kgz hbq) (fun u hu => by rw [List.mem_singleton] at hu; rw [hu]; rfl) (by unfold maxLen; omega) (by omega) (Nat.le_trans hk2.size (Nat.le_trans hb1.size hk8.size)) ?_; intro v' w2 hown' hgrow))
    go_roundw
    case rel =>
     have hk8' : Below W2.heap.size W2 W8 := (btz hk2 hb1).trans (hk8.mono (Nat.le_trans hk2.size hb1.size))
     have hb2 : Below W2.heap.size W2 w2 := hk8'.grown hgrow hk8'.size (vlz hown8)
     refine ⟨a, pre ++ [a], rfl, by simp; omega, ?_, ?_, hb2⟩
     ·have e : qMz (pre ++ [a]) = qMz pre ++ [.int .u64 a] := by simp [qMz]
      rw [e, List.length_append]
      exact hown'
     ·show pre ++ [a] ++ abvL X (n + 1 - (pre ++ [a]).length) a = A
      have e : n + 1 - (pre ++ [a]).length = m := by have := hm.out; simp; omega
      rw [e, ← hpa.out, hst, List.append_assoc]
      rfl
    case measure =>
     obtain ⟨al9, cl9, rfl, _⟩ := RowC.of_owns hown'
     simp only []
     omega
  ·have hle' : ¬ ((pre.length : Nat) : Int) ≤ n := by omega
   have hpn : Hid (pre.length = n + 1) := by show _ = _; omega
   have hA2 : Hid (A = pre) := by show A = pre; rw [← hpa.out, hpn.out, Nat.sub_self]; unfold abvL; rw [List.append_nil]
   go_wp2_with (first
    | (with_reducible refine qaz (by kernel_rfl) _ _ rfl B2 _ rfl _ _ hB2 _ c3 ga3 ?_))
   go_ret
   refine ⟨_, rfl, ?_, hk⟩
   have e : RV = [] := by rw [hrv.out, hA2.out, if_neg hle]
   rw [e]
   exact World.ownsRow_nil _ _ _ _
def insW (L : List Int) (i : Int) : List Int := L.take (ahW L i) ++ i :: L.drop (ahW L i)
theorem uSz : ∀ u ∈ qMz L, u.oneCell' = true := by
 intro u hu
 obtain ⟨x, _, rfl⟩ := List.mem_map.1 hu
 rfl
theorem gez {n cap k : Nat} (hk : k ≤ n) (hn : n ≤ cap) (W : World) : (Instr.sliceAt 28 (.slice ao n cap) none (some (.int .i64 (k : Int))) none).run prog W = .ok (.slice ao k cap) W := by
 have h2 : k ≤ cap := by omega
 unfold Instr.sliceAt Instr.slice Instr.sliceBounds
 simp [go_sem, run_underlying underlying28, Result.andThen, h2]
theorem ct_take {D : Nat → Prop} {n cap k : Nat} (h : CtD D w ao n cap L) (hk : k ≤ n) : CtD D w ao k cap (L.take k) := by
 obtain ⟨h1, h2, h3, h4⟩ := h
 refine ⟨by rw [List.length_take]; omega, by omega, h3, fun hz => ?_⟩
 obtain ⟨b, off, e, hb, hx⟩ := h4 (by omega)
 refine ⟨b, off, e, hb, fun i hi => ?_⟩
 rw [hx i (by omega)]
 congr 2
 simp only [List.getD_eq_getElem?_getD, List.getElem?_take, if_pos hi]
theorem vXz {D : Nat → Prop} {n cap k : Nat} (h : CtD D w ao n cap L) (hk : k ≤ n) : ∃ a', CtD D w a' (n - k) (cap - k) (L.drop k) ∧ (∀ W, (Instr.sliceAt 28 (.slice ao n cap) (some (.int .i64 (k : Int))) none none).run prog W = .ok (.slice a' (n - k) (cap - k)) W) := by
 cases ao with
 | none =>
  have h0 := h.2.2.1.2 rfl
  have hn := h.2.1
  obtain rfl : n = 0 := by omega
  obtain rfl : k = 0 := by omega
  subst h0
  refine ⟨none, by simpa using h, fun W => ?_⟩
  unfold Instr.sliceAt Instr.slice Instr.sliceBounds
  simp [go_sem, run_underlying underlying28, Result.andThen]
 | some a =>
  have hn := h.2.1
  by_cases hc : cap = k
  ·have hkn : k = n := by omega
   refine ⟨some a, ?_, fun W => ?_⟩
   ·obtain ⟨h1, h2, h3, h4⟩ := h
    exact ⟨by rw [List.length_drop]; omega, by omega, ⟨by omega, fun e => by cases e⟩, fun hz => by omega⟩
   ·subst hc
    unfold Instr.sliceAt Instr.slice Instr.sliceBounds
    simp [go_sem, run_underlying underlying28, Result.andThen, hk]
  ·refine ⟨some (a.add k), ?_, fun W => ?_⟩
   ·obtain ⟨h1, h2, h3, h4⟩ := h
    refine ⟨by rw [List.length_drop]; omega, by omega, ⟨by omega, fun e => by cases e⟩, fun hz => ?_⟩
    obtain ⟨b, off, e, hb, hx⟩ := h4 (by omega)
    cases e
    refine ⟨b, off + k, ?_, hb, fun i hi => ?_⟩
    ·unfold Addr.add
     split
     ·rename_i h0; rw [h0]; rfl
     ·rfl
    ·rw [show off + k + i = off + (k + i) by omega, hx _ (by omega)]
     congr 2
     simp only [List.getD_eq_getElem?_getD, List.getElem?_drop]
   ·unfold Instr.sliceAt Instr.slice Instr.sliceBounds
    simp [go_sem, run_underlying underlying28, Result.andThen, hk, hc]
theorem infoSW : (prog.info? 28).map (fun i => (i.zero, i.size, i.bytes)) = some (some (.slice none 0 0), 1, 24) := by kernel_rfl
theorem run_bs3W {a0 a1 a2 : Option Addr} {n0 n1 n2 c0 c1 c2 : Nat} (w : World) : (Instr.buildSlice 142 3 #[(0, .slice a0 n0 c0), (1, .slice a1 n1 c1), (2, .slice a2 n2 c2)]).run prog w = .ok (.slice (some ⟨w.heap.size, 0, none⟩) 3 3) (w.alloc (.cells #[.slice a0 n0 c0, .slice a1 n1 c1, .slice a2 n2 c2] 28)) := by
 obtain ⟨i0, hi, hz0, hz1, hz2⟩ := info_parts infoSW
 refine run_buildSlice w _ _ 3 _ _ i0 _ underlying142 hi hz0 (by rw [hz1]; omega) (by rw [hz1]; omega) ?_
 rw [hz1]
 have := Great.fill_whole (s := 1) (by omega) [.slice a0 n0 c0, .slice a1 n1 c1, .slice a2 n2 c2] ((Array.range (3 * 1)).map ((Value.slice none 0 0).cells[· % (Value.slice none 0 0).cells.size]!)) (by simp [Value.cells]) (by simp)
 simpa [Value.cells] using this
theorem linked_v (h : CtD (LtN w) w al nl cl L) (hs : L.Pairwise (· < ·)) (hn16 : nl ≤ 4096) : Calls prog 60 #[.slice al nl cl, .int .u64 i] w fun e w' => ∃ v, e = .returned v ∧ w'.ownsRow w.heap.size 22 1 v (insW L i).length (qMz (insW L i)) ∧ Below w.heap.size w w' := by
 have hmx : prog.follows .mixedOrders = true := by kernel_rfl
 have hbs := bsw_any (i := i) h hs hn16
 obtain ⟨k, hke⟩ : ∃ k, ahW L i = k := ⟨_, rfl⟩
 have hkl : k ≤ nl := by rw [← hke, ← h.1]; exact bIz L i
 have hlc := h.2.1
 have hLl : L.length = nl := h.1
 rw [hke] at hbs
 have h1 := ct_take h hkl
 obtain ⟨a3, h3, hs3⟩ := vXz h hkl
 go_enter func60, ntmps60
 go_wp2_with (first
  | (go_at_call 92; (with_reducible refine hbs.mono ?_); rintro e w1 ⟨bb, rfl, rfl⟩))
 refine PgM.region_out (S := fun W => Below w1.heap.size w1 W) hmx ((brz _ _).drew) (fun hS => ?_)
 generalize w1.drew = W5 at hS ⊢
 refine qlz (by kernel_rfl) (fun _ _ _ _ _ h => h) hS [(0, none), (1, none), (2, some (.slice al k cl)), (3, none), (5, none), (6, none), (7, some (.slice a3 (nl - k) (cl - k)))] (l' := #[tt, tt, tt, tt, ff, tt, tt, tt, ff, ff, ff]) (a' := { tmps := #[.slice al nl cl, .int .u64 i, ud, undef, .slice none 0 0, .int .i64 k, .bool bb, .tuple #[.int .i64 k, .bool bb], .slice al nl cl, .int .u64 i, .tuple #[.int .i64 k, .bool bb], .int .i64 k, .bool bb, .slice al nl cl, .int .i64 k, .slice al k cl, .int .u64 i, undef, .slice al nl cl, .int .i64 k, .slice a3 (nl - k) (cl - k), ud, undef], defers := [] }) (obs := [.sl 28 (.slice al nl cl) (none) (some (.int .i64 k)) (none) (.slice al k cl), .sl 28 (.slice al nl cl) (some (.int .i64 k)) (none) (none) (.slice a3 (nl - k) (cl - k))]) (n := 4) (by kernel_rfl) (by kernel_rfl) ⟨fun W _ => gez hkl hlc W, fun W _ => hs3 W, trivial⟩ ?_
 refine qBz (i := 4) (n := 3) rfl (by kernel_rfl) ?_
 refine jjz (t := 28) (n := 1) (vs := [(0, .int .u64 i)]) (d := some 17) (by kernel_rfl) (gjz W5) ?_
 have kq := (brz W5.heap.size W5).alloc (lrz _) (.cells #[.int .u64 i] 22)
 have hq := Blk.new W5 #[.int .u64 i] 22
 generalize W5.alloc (.cells #[.int .u64 i] 22) = W6 at kq hq ⊢
 replace hS : Below w1.heap.size w1 W6 := btz hS kq
 clear kq
 generalize W5.heap.size = Bi at hq ⊢
 refine ⟨hS, ?_⟩
 refine qBz (i := 8) (n := 2) rfl (by kernel_rfl) ?_
 refine jjz (t := 142) (n := 3) (vs := [(0, .slice al k cl), (1, .slice (some ⟨Bi, 0, none⟩) 1 1), (2, .slice a3 (nl - k) (cl - k))]) (d := some 21) (by kernel_rfl) (run_bs3W W6) ?_
 have kq2 := (brz W6.heap.size W6).alloc (lrz _) (.cells #[.slice al k cl, .slice (some ⟨Bi, 0, none⟩) 1 1, .slice a3 (nl - k) (cl - k)] 28)
 have hq2 := Blk.new W6 #[.slice al k cl, .slice (some ⟨Bi, 0, none⟩) 1 1, .slice a3 (nl - k) (cl - k)] 28
 generalize W6.alloc (.cells #[.slice al k cl, .slice (some ⟨Bi, 0, none⟩) 1 1, .slice a3 (nl - k) (cl - k)] 28) = W7 at kq2 hq2 ⊢
 replace hq := hq.next kq2
 replace hS : Below w1.heap.size w1 W7 := btz hS kq2
 clear kq2
 generalize W6.heap.size = Bq at hq2 ⊢
 refine ⟨hS, ?_⟩
 have hcat := yiz (w := W7) (Bq := Bq) (m := 3) (af := fun i => if i = 0 then al else if i = 1 then some ⟨Bi, 0, none⟩ else a3) (nf := fun i => if i = 0 then k else if i = 1 then 1 else nl - k) (cf := fun i => if i = 0 then cl else if i = 1 then 1 else cl - k) (sf := fun q => if q = 0 then qMz (L.take k) else if q = 1 then [.int .u64 i] else qMz (L.drop k)) hq2
  (fun i hi => by rcases i with _ | _ | _ | i <;> first | rfl | (exfalso; omega))
  (fun i hi => by rcases i with _ | _ | _ | i <;> first | exact h1.row.next hS | exact kgz hq | exact h3.row.next hS | (exfalso; omega))
  (fun i hi => by rcases i with _ | _ | _ | i <;> first | exact uSz | (intro u hu; rw [List.mem_singleton.1 hu]; rfl) | (exfalso; omega)) (by omega) (by show 0 + k + 1 + (nl - k) < 4294967296; omega)
 refine qoz (i := 9) (fuel := 1) (f := 93) (vs := [.slice (some ⟨Bq, 0, none⟩) 3 3]) (d := some 22) (by kernel_rfl) (by kernel_rfl) (by kernel_rfl) call93 hcat ?_
 rintro e W8 ⟨V, rfl, hown, kb⟩
 have hS8 : Below w1.heap.size w1 W8 := btz hS kb
 refine ⟨_, rfl, hS8, ?_⟩
 refine qlz (by kernel_rfl) (fun _ _ _ _ _ h => h) hS8 [(10, none)] (l' := #[tt, tt, tt, tt, tt, tt, tt, tt, tt, tt, tt]) (a' := { tmps := #[.slice al nl cl, .int .u64 i, ud, undef, V, .int .i64 k, .bool bb, .tuple #[.int .i64 k, .bool bb], .slice al nl cl, .int .u64 i, .tuple #[.int .i64 k, .bool bb], .int .i64 k, .bool bb, .slice al nl cl, .int .i64 k, .slice al k cl, .int .u64 i, .slice (some ⟨Bi, 0, none⟩) 1 1, .slice al nl cl, .int .i64 k, .slice a3 (nl - k) (cl - k), .slice (some ⟨Bq, 0, none⟩) 3 3, V], defers := [] }) (obs := []) (n := 0) (by kernel_rfl) (by kernel_rfl) trivial ?_
 refine wpAnyH_done (by kernel_rfl) ?_ _
 go_wp2
 go_ret
 refine ⟨V, rfl, ?_, hS8⟩
 have e1 : insW L i = L.take k ++ [i] ++ L.drop k := by unfold insW; rw [hke]; simp
 have e2 : (insW L i).length = k + 1 + (nl - k) := by rw [e1]; simp; omega
 have e3 : qMz (insW L i) = qMz (L.take k) ++ [.int .u64 i] ++ qMz (L.drop k) := by rw [e1]; simp [qMz]
 rw [e2, e3]
 have := yHz hS.size hown
 simpa [psum, pcat] using this
theorem qTz {fn : Func} {p u : Tmp} (h : fn.results = #[.cell p 25, .tmp u]) {tmps : Array Value} {B : Nat} (hp : tmps.getD p undef = .pointer (some ⟨B, 0, none⟩)) (hu : tmps.getD u undef = v) (hB : Blk w B C 25) (hs : C.size = 4) : (results fn tmps).run prog w = .ok (.tuple #[.agg C, v]) w := by
 rw [results_cell_tmp h, hp, hu]
 have := run_loadVar_mid (P := prog) w B 0 25 C.toList _ hB.range0 underlying25 rfl (by rw [wnz]; simp [hs])
 rw [Array.toArray_toList] at this
 simp [asAddr, this, Result.andThen]
abbrev ObsN (w : World) (D0 : Nat → Prop) (w' : World) (ao : Option Addr) (n cap : Nat) (X : List Ob) : Prop := ObsD (New w w') (fun b => D0 b ∨ New w w' b) w' ao n cap X
variable {D0 : Nat → Prop}
theorem ObsN.store {w w' w'' : World} {R : Nat} (h : ObsN w D0 w' ao n cap X) (q : Oth R w' w'') (hR : R < w.heap.size) (hD : ∀ b, D0 b → b ≠ R) : ObsN w D0 w'' ao n cap X := by
 have e : w''.heap.size = w'.heap.size := q.size
 have h1 := h.laterK (w' := w'') (fun b hb => q.block b (by rcases hb with c | c; exact hD b c; have := c.1; omega)) (fun b hb => q.block b (by have := hb.1; omega))
 exact h1.wide (fun b hb => hb.imp id fun c => ⟨c.1, by rw [e]; exact c.2⟩) (fun b hb => ⟨hb.1, by rw [e]; exact hb.2⟩)
theorem ObsN.low {w W w' : World} (h : ObsN W D0 w' ao n cap X) (k : w.heap.size ≤ W.heap.size) : ObsN w D0 w' ao n cap X :=
 ObsD.wide h (fun b hb => hb.imp id fun c => ⟨Nat.le_trans k c.1, c.2⟩) (fun b hb => ⟨Nat.le_trans k hb.1, hb.2⟩)
theorem ObsN.next {w w' w'' : World} (h : ObsN w D0 w' ao n cap X) (hD : ∀ b, D0 b → b < w'.heap.size) (k : Below w'.heap.size w' w'') : ObsN w D0 w'' ao n cap X := by
 have h1 := ObsD.laterK h (w' := w'') (fun b hb => k.block b (by rcases hb with c | c; exact hD b c; exact c.2)) (fun b hb => k.block b hb.2)
 exact h1.wide (fun b hb => hb.imp id fun c => ⟨c.1, ltz c.2 k.size⟩) (fun b hb => ⟨hb.1, ltz hb.2 k.size⟩)
theorem w7z {t ke ro er : Int} (hD : ∀ b, D0 b → b < w.heap.size) (h : ObsD (LtN w) D0 w ao n cap X) (hs : Srt X) (hn16 : n < 1024) (hsm : wez X) (hid : fnd X 0 = none) : Calls prog 31 #[.agg #[.int .i64 t, .int .u64 ke, .int .u64 ro, .slice ao n cap], .int .i64 er] w fun e w' => ∃ ao2 n2 cap2, e = .returned (.tuple #[.agg #[.int .i64 t, .int .u64 ke, .int .u64 ro, .slice ao2 n2 cap2], .int .i64 er]) ∧ ObsN w D0 w' ao2 n2 cap2 X ∧ Below w.heap.size w w' := by
 have hzw : (prog.info? 25).map (·.size) = some (#[.int .i64 t, .int .u64 ke, .int .u64 ro, .slice ao n cap] : Array Value).size := by kernel_rfl
 have hV : (#[.int .i64 t, .int .u64 ke, .int .u64 ro, .slice ao n cap] : Array Value).extract 0 (0 + 4) = #[.int .i64 t, .int .u64 ke, .int .u64 ro, .slice ao n cap] := rfl
 have hG4 : 0 + 4 ≤ (#[.int .i64 t, .int .u64 ke, .int .u64 ro, .slice ao n cap] : Array Value).size := lrz _
 have hz2 : ∀ v, (prog.info? 25).map (·.size) = some (#[.int .i64 t, .int .u64 ke, .int .u64 ro, v] : Array Value).size := fun _ => wnz
 have hs2 : ∀ v, zW.size = (#[.int .i64 t, .int .u64 ke, .int .u64 ro, v] : Array Value).size := fun _ => rfl
 have h12 : ∀ ao n cap, (#[.int .i64 t, .int .u64 ke, .int .u64 ro, .slice ao n cap] : Array Value).all (·.oneCell') = true := fun _ _ _ => by kernel_rfl
 have hdr := fun (W : World) (hk : Below w.heap.size w W) => drop_w (t := t) (ke := ke) (ro := ro) (i := 0) (D0 := D0) (fun b hb => ltz (hD b hb) hk.size) (qZz h hD hk) hs hn16 hsm
 simp only [y6z hs hid] at hdr
 obtain ⟨G, hG⟩ : ∃ G : Array Value, G = #[.int .i64 t, .int .u64 ke, .int .u64 ro, .slice ao n cap] := ⟨_, rfl⟩
 rw [← hG] at hzw hdr hV hG4
 rw [← hG]
 clear hG
 go_enter func31, ntmps31
 go_wp2_with (first
  | (with_reducible refine qcz rfl 68 _ rfl G rfl ?_; intro B W2 hN2 hB hk)
  | ((with_reducible refine qgz rfl _ rfl zW wlz ?_); intro R W3 hN3 hR hk3; replace hB := hB.next hk3; replace hk := btz hk hk3)
  | (with_reducible refine qiz (by kernel_rfl) 25 _ rfl B 0 rfl 4 G _ hB G hV hG4 _ underlying25 (by kernel_rfl) wnz ?_)
  | (go_at_call 58; (with_reducible refine (hdr _ hk).mono ?_); rintro e w4 ⟨aX, nX, cX, rfl, oX, hb4⟩; replace hR := hR.next hb4)
  | ((with_reducible refine qbz rfl _ _ _ rfl R rfl _ rfl zW hR (hz2 _) (hs2 _) (h12 aX nX cX) ?_); intro W5 hR5 q5))
 refine bodyPost_ret (qTz results31 rfl rfl hR5 rfl) rfl ?_
 have hRw : w.heap.size ≤ R ∧ R < W3.heap.size := by have := hN2.out; have := hN3.out; omega
 have hN := (ObsN.store oX q5 hRw.2 (fun b hb => by have := hD b hb; omega)).low hk.size
 exact ⟨aX, nX, cX, rfl, hN, q5.below _ _ hRw.1 (btz hk hb4)⟩
end
end Go.Proofs.YthnpckhmdnjikaaGreat
