/-
 PROVED HERE: how a map from words to numbers is made, asked and changed; what package sweep's loses tells; plain facts on w. What is asked stands at each.
-/
import Derived.RangeFuncRecord
import Derived.Test.YtcmcakandbpjfaaZ3
import Derived.Test.YtcmcakandbpjfaaZ8
import Derived.Test.YtcmcakandbpjfaaZ14
import Derived.Test.YtcmcakandbpjfaaZ16
namespace Go.Proofs.Ytcmcakandbpjfaa
set_option maxRecDepth 100000
set_option maxHeartbeats 8000000
open Go.RowKit Go.Shelf
set_option linter.unusedVariables false
attribute [local go_sem] Oper.semAt_some

abbrev Tl := List (Int × Int)
def lkT (k : Int) : Tl → Option Int
 | [] => none
 | p :: l => if p.1 = k then some p.2 else lkT k l
def updT (k v : Int) : Tl → Tl
 | [] => [(k, v)]
 | p :: l => if p.1 = k then (k, v) :: l else p :: updT k v l
theorem lk_updT (k v j : Int) : ∀ l : Tl, lkT j (updT k v l) = if j = k then some v else lkT j l
 | [] => by unfold updT lkT; by_cases q : k = j <;> simp [q, lkT]; intro e; exact absurd e.symm q
 | p :: l => by
  have ih := lk_updT k v j l
  unfold updT
  by_cases q : p.1 = k
  ·rw [if_pos q]
   by_cases r : j = k
   ·subst r; simp [lkT]
   ·have r' : ¬k = j := fun e => r e.symm
    have r2 : ¬p.1 = j := fun e => r (e.symm.trans q)
    simp [lkT, r, r', r2]
  ·rw [if_neg q]
   by_cases r : p.1 = j
   ·have : ¬j = k := fun e => q (r.trans e)
    simp [lkT, r, this]
   ·simp only [lkT, if_neg r]; exact ih
def fndT (k : Int) : Tl → Nat → Option (Nat × Value)
 | [], _ => none
 | p :: l, i => if p.1 = k then some (i, .int .i64 p.2) else fndT k l (i + 1)
def kvt (e : MapEntry) : Value × Value := (e.key, e.val)
def ekt (p : Int × Int) : Value × Value := (.int .u64 p.1, .int .i64 p.2)
theorem find_t (k : Int) (kd : IntKind) : ∀ (es : List MapEntry) (l : Tl) (i : Nat), es.map kvt = l.map ekt → Instr.findNow (.int kd) (.int .u64 k) es i = some (fndT k l i)
 | [], [], i, _ => rfl
 | [], _ :: _, i, h => by cases h
 | _ :: _, [], i, h => by cases h
 | e :: es, p :: l, i, h => by
  simp only [List.map_cons, List.cons.injEq] at h
  obtain ⟨h1, h2⟩ := h
  have hk : e.key = .int .u64 p.1 := congrArg Prod.fst h1
  have hvl : e.val = .int .i64 p.2 := congrArg Prod.snd h1
  unfold Instr.findNow fndT
  rw [hk, hvl]
  by_cases q : p.1 = k
  ·subst q; simp [Instr.sameNow]
  ·have q' : ¬k = p.1 := fun e => q e.symm
   rw [if_neg q, ← find_t k kd es l (i + 1) h2]
   have q2 : (k == p.1) = false := by simpa using q'
   simp only [Instr.sameNow, q2, if_true]
theorem fnd_lkt (k : Int) : ∀ (l : Tl) (i : Nat), (∀ j v, fndT k l i = some (j, v) → ∃ z, lkT k l = some z ∧ v = .int .i64 z) ∧ (fndT k l i = none → lkT k l = none)
 | [], i => ⟨fun j v h => (by cases h), fun _ => rfl⟩
 | p :: l, i => by
  obtain ⟨h1, h2⟩ := fnd_lkt k l (i + 1)
  unfold fndT lkT
  by_cases q : p.1 = k
  ·rw [if_pos q, if_pos q]
   exact ⟨fun j v e => (by cases e; exact ⟨_, rfl, rfl⟩), fun e => (by cases e)⟩
  ·rw [if_neg q, if_neg q]
   exact ⟨h1, h2⟩
theorem fnd_updt (k v : Int) : ∀ (es : List MapEntry) (l : Tl) (i : Nat), es.map kvt = l.map ekt →
  (∀ j u, fndT k l i = some (j, u) → ∃ m, j = i + m ∧ (∃ e, es[m]? = some e ∧ e.key = .int .u64 k) ∧ (es.modify m fun (e : MapEntry) => { e with key := .int .u64 k, val := .int .i64 v }).map kvt = (updT k v l).map ekt) ∧
  (fndT k l i = none → ∀ b, (es ++ [({ key := .int .u64 k, val := .int .i64 v, born := b } : MapEntry)]).map kvt = (updT k v l).map ekt)
 | [], [], i, _ => ⟨fun j u h => (by cases h), fun _ b => rfl⟩
 | [], _ :: _, i, h => by cases h
 | _ :: _, [], i, h => by cases h
 | e :: es, p :: l, i, h => by
  simp only [List.map_cons, List.cons.injEq] at h
  obtain ⟨h1, h2⟩ := h
  have hk : e.key = .int .u64 p.1 := congrArg Prod.fst h1
  obtain ⟨g1, g2⟩ := fnd_updt k v es l (i + 1) h2
  unfold fndT updT
  by_cases q : p.1 = k
  ·rw [if_pos q, if_pos q]
   refine ⟨fun j u e' => ?_, fun e' => (by cases e')⟩
   cases e'
   refine ⟨0, rfl, ⟨e, rfl, by rw [hk, q]⟩, ?_⟩
   simp only [List.modify_zero_cons, List.map_cons, h2]
   rfl
  ·rw [if_neg q, if_neg q]
   refine ⟨fun j u e' => ?_, fun e' b => ?_⟩
   ·obtain ⟨m, hm, he, hq⟩ := g1 j u e'
    refine ⟨m + 1, by omega, by simpa using he, ?_⟩
    simp only [List.modify_succ_cons, List.map_cons, hq, h1]
   ·simp only [List.cons_append, List.map_cons, g2 e' b, h1]
def MapT (W : World) (M : Nat) (f : Int → Option Int) : Prop := ∃ (es : Array MapEntry) (c : Nat) (l : Tl), W.heap[M]? = some (.map es c) ∧ es.toList.map kvt = l.map ekt ∧ ∀ k, lkT k l = f k
theorem MapT.lt {W : World} {M : Nat} {f : Int → Option Int} (h : MapT W M f) : M < W.heap.size := by
 obtain ⟨es, c, l, h1, _⟩ := h
 exact (Array.getElem?_eq_some_iff.1 h1).1
theorem MapT.block {W W' : World} {M : Nat} {f : Int → Option Int} (h : MapT W M f) (k : W'.heap[M]? = W.heap[M]?) : MapT W' M f := by
 obtain ⟨es, c, l, h1, h2⟩ := h
 exact ⟨es, c, l, k.trans h1, h2⟩
theorem MapT.next {W W' : World} {M : Nat} {f : Int → Option Int} (h : MapT W M f) (k : Below W.heap.size W W') : MapT W' M f := h.block (k.block M h.lt)
theorem MapT.off {W : World} {M : Nat} {f : Int → Option Int} {b o : Nat} {v : Value} (h : MapT W M f) (hc : W.cell? ⟨b, o, none⟩ = some v) : b ≠ M := by
 rintro rfl
 obtain ⟨es, c, l, h1, _⟩ := h
 simp [World.cell?, h1] at hc
theorem u64_okT (e : Bool) (k : Int) (W : World) : (Instr.checkKey e 10000 22 (.int .u64 k)).run Try.prog W = .ok () W := by
 show (Instr.checkKey e (9999 + 1) 22 (.int .u64 k)).run Try.prog W = .ok () W
 generalize 9999 = n
 unfold Instr.checkKey
 simp [run_underlying Try.underlying22, Result.andThen]
theorem mapT_get {W : World} {M : Nat} {f : Int → Option Int} (h : MapT W M f) (k : Int) : (Instr.lookup 74 (.map (some M)) (.int .u64 k) false).run Try.prog W = .ok (.int .i64 ((f k).getD 0)) W := by
 obtain ⟨es, c, l, h1, h2, h3⟩ := h
 have ho : (getObj M).run Try.prog W = .ok (.map es c) W := by simp [getObj, Sem.run, h1]
 obtain ⟨g1, g2⟩ := fnd_lkt k l 0
 have hf : (Instr.findKey 22 (.int .u64 k) es.toList).run Try.prog W = .ok (fndT k l 0) W := by
  simp [Instr.findKey, run_underlying Try.underlying22, Result.andThen, find_t k _ es.toList l 0 h2]
 rw [← h3 k]
 unfold Instr.lookup
 cases hc : fndT k l 0 with
 | none =>
  rw [hc] at hf
  simp [run_underlying Try.underlying74, Result.andThen, ho, u64_okT, hf, g2 hc]
 | some q =>
  obtain ⟨j, v⟩ := q
  rw [hc] at hf
  obtain ⟨z, hz, rfl⟩ := g1 j v hc
  simp [run_underlying Try.underlying74, Result.andThen, ho, u64_okT, hf, hz]
theorem mapT_ok {W : World} {M : Nat} {f : Int → Option Int} (h : MapT W M f) (k : Int) : (Instr.lookup 74 (.map (some M)) (.int .u64 k) true).run Try.prog W = .ok (.tuple #[.int .i64 ((f k).getD 0), .bool (f k).isSome]) W := by
 obtain ⟨es, c, l, h1, h2, h3⟩ := h
 have ho : (getObj M).run Try.prog W = .ok (.map es c) W := by simp [getObj, Sem.run, h1]
 obtain ⟨g1, g2⟩ := fnd_lkt k l 0
 have hf : (Instr.findKey 22 (.int .u64 k) es.toList).run Try.prog W = .ok (fndT k l 0) W := by
  simp [Instr.findKey, run_underlying Try.underlying22, Result.andThen, find_t k _ es.toList l 0 h2]
 rw [← h3 k]
 unfold Instr.lookup
 cases hc : fndT k l 0 with
 | none =>
  rw [hc] at hf
  simp [run_underlying Try.underlying74, Result.andThen, ho, u64_okT, hf, g2 hc]
 | some q =>
  obtain ⟨j, v⟩ := q
  rw [hc] at hf
  obtain ⟨z, hz, rfl⟩ := g1 j v hc
  simp [run_underlying Try.underlying74, Result.andThen, ho, u64_okT, hf, hz]
theorem mapT_put {W : World} {M : Nat} {f : Int → Option Int} (h : MapT W M f) (k v : Int) : ∃ o, (Instr.mapUpdate 74 (.map (some M)) (.int .u64 k) (.int .i64 v)).run Try.prog W = .ok () (W.putObj M o) ∧ MapT (W.putObj M o) M fun j => if j = k then some v else f j := by
 have hl := h.lt
 obtain ⟨es, c, l, h1, h2, h3⟩ := h
 have ho : (getObj M).run Try.prog W = .ok (.map es c) W := by simp [getObj, Sem.run, h1]
 have hs : ∀ o, (setObj M o).run Try.prog W = .ok () (W.putObj M o) := fun o => by simp [setObj, Sem.run, h1, World.putObj]
 obtain ⟨g1, g2⟩ := fnd_updt k v es.toList l 0 h2
 have hf : (Instr.findKey 22 (.int .u64 k) es.toList).run Try.prog W = .ok (fndT k l 0) W := by
  simp [Instr.findKey, run_underlying Try.underlying22, Result.andThen, find_t k _ es.toList l 0 h2]
 have h4 : ∀ j, lkT j (updT k v l) = if j = k then some v else f j := fun j => by rw [lk_updT, h3]
 unfold Instr.mapUpdate
 cases hc : fndT k l 0 with
 | none =>
  rw [hc] at hf
  refine ⟨.map (es.push { key := .int .u64 k, val := .int .i64 v, born := c }) (c + 1), ?_, _, _, updT k v l, World.putObj_heap_same hl, ?_, h4⟩
  ·simp [run_underlying Try.underlying74, Result.andThen, ho, u64_okT, hf, hs]
  ·rw [Array.toList_push]; exact g2 hc c
 | some q =>
  obtain ⟨j, u⟩ := q
  rw [hc] at hf
  obtain ⟨m, hm, ⟨e, he, hek⟩, hq⟩ := g1 j u hc
  obtain rfl : j = m := by omega
  have he' : es[j]? = some e := by simpa using he
  have hst : (Instr.keyThatStays (.int .u64 k) (.int .u64 k)).run Try.prog W = .ok (.int .u64 k) W := by
   have : Instr.sameBits 10000 (.int .u64 k) (.int .u64 k) = true := by unfold Instr.sameBits; simp
   simp [Instr.keyThatStays, this]
  refine ⟨.map (es.modify j fun (e : MapEntry) => { e with key := .int .u64 k, val := .int .i64 v }) c, ?_, _, _, updT k v l, World.putObj_heap_same hl, ?_, h4⟩
  ·simp [run_underlying Try.underlying74, Result.andThen, ho, u64_okT, hf, hs, he', hek, hst]
  ·rw [Array.toList_modify]; exact hq
theorem putObj_oth (W : World) (M : Nat) (o : Obj) : Oth M W (W.putObj M o) :=
 ⟨World.putObj_size, fun b hb => World.putObj_heap_other hb, fun A w hA h => h.trans ⟨rfl, rfl, rfl, by rw [World.putObj_size]; exact Nat.le_refl _, fun k hk => World.putObj_heap_other (by omega)⟩⟩
section
variable {ops : Array Oper} {rest : List Oper} {op : Oper} {a : Act} {Q : Exit → Act → World → Prop} {w : World}
theorem wpList_getT (hw : Region.wanted op (yielded ops a.tmps) = true) (x y : Operand) (ho : op.op = .lookup 74 x y false) (M : Nat) (hx : a.eval x = .map (some M)) (k : Int) (hy : a.eval y = .int .u64 k) (f : Int → Option Int) (hm : MapT w M f)
  (h : wpList Try.prog ops Q rest (a.put op.dst (.int .i64 ((f k).getD 0))) w) : wpList Try.prog ops Q (op :: rest) a w := by
 refine wpList_val hw ?_ h
 unfold execOp
 simp [ho, hx, hy, mapT_get hm k]
theorem wpList_putT (hgd : op.guard = none) (x y z : Operand) (ho : op.op = .mapUpdate 74 x y z) (M : Nat) (hx : a.eval x = .map (some M)) (k : Int) (hy : a.eval y = .int .u64 k) (v : Int) (hz : a.eval z = .int .i64 v) (f : Int → Option Int) (hm : MapT w M f)
  (h : ∀ W, MapT W M (fun j => if j = k then some v else f j) → Oth M w W → wpList Try.prog ops Q rest (a.put op.dst undef) W) : wpList Try.prog ops Q (op :: rest) a w :=
 wpList_plain hgd fun K hK => by
  obtain ⟨o, h1, h2⟩ := mapT_put hm k v
  unfold Oper.wp execOp
  simp only [ho, hx, hy, hz, Sem.run_bind, h1, Result.andThen_ok]
  exact hK _ _ (h _ h2 (putObj_oth w M o))
theorem wpList_makeT (hgd : op.guard = none) (ho : op.op = .makeMap 74 none)
  (h : ∀ M W, Hid (w.heap.size = M ∧ W.heap.size = M + 1) → MapT W M (fun _ => none) → Below w.heap.size w W → wpList Try.prog ops Q rest (a.put op.dst (.map (some M))) W) : wpList Try.prog ops Q (op :: rest) a w :=
 wpList_plain hgd fun K hK => by
  unfold Oper.wp execOp
  simp only [ho, Instr.makeMap, newObj]
  exact hK _ _ (h _ _ ⟨rfl, by simp⟩ ⟨#[], 0, [], World.alloc_heap_new w _, rfl, fun _ => rfl⟩ ((Below.refl _ w).alloc (Nat.le_refl _) _))
end
def lessT (k : Int) (f : Int → Option Int) : Int → Option Int := fun j => if j = k then some ((f k).getD 0 - 1) else f j
theorem loses_v {w : World} {M : Nat} {f : Int → Option Int} {k : Int} (h : MapT w M f) (hb : Hid (-1000000 ≤ (f k).getD 0 ∧ (f k).getD 0 ≤ 1000000)) : Calls Try.prog 54 #[.map (some M), .int .u64 k] w fun e w' => e = .returned (.bool (decide ((f k).getD 0 = 1))) ∧ MapT w' M (lessT k f) ∧ Oth M w w' := by
 obtain ⟨v, hv⟩ : ∃ v, Hid ((f k).getD 0 = v) := ⟨_, rfl⟩
 have hlo : -1000000 ≤ v := by have := hb.out; rw [hv.out] at this; exact this.1
 have hhi : v ≤ 1000000 := by have := hb.out; rw [hv.out] at this; exact this.2
 have hw : IntKind.i64.wrap (v - 1) = v - 1 := by rw [IntKind.wrap_i64]; omega
 have e2 : Hid ((lessT k f k).getD 0 = v - 1) := by show (lessT k f k).getD 0 = _; unfold lessT; rw [if_pos rfl, hv.out]; rfl
 have hf : Hid (lessT k f = fun j => if j = k then some (v - 1) else f j) := by show lessT k f = _; unfold lessT; rw [hv.out]
 have hz : Hid (decide ((f k).getD 0 = 1) = (v - 1 == 0)) := by
  rw [hv.out]
  show decide (v = 1) = _
  rw [Bool.eq_iff_iff, decide_eq_true_iff, beq_iff_eq]; omega
 obtain ⟨r, hr⟩ : ∃ r, Hid (decide ((f k).getD 0 = 1) = r) := ⟨_, rfl⟩
 rw [hr.out]
 rw [hr.out] at hz
 obtain ⟨g, hg⟩ : ∃ g, Hid (lessT k f = g) := ⟨_, rfl⟩
 rw [hg.out] at hf e2 ⊢
 clear hb hr hg
 go_enter Try.func54, Try.ntmps54
 go_wp2_with (first
  | (((with_reducible refine wpList_getT (by kernel_rfl) _ _ rfl M rfl k rfl f h ?_); rw [hv.out]); skip)
  | ((with_reducible refine wpList_putT rfl _ _ _ rfl M rfl k rfl (v - 1) ?hval f h ?_); (case hval => simp [Act.eval]); rw [← hf.out]; intro W h2 o2; clear h)
  | (((with_reducible refine wpList_getT (by kernel_rfl) _ _ rfl M rfl k rfl g h2 ?_); rw [e2.out]); skip))
 go_ret
 exact ⟨by rw [hz.out]; rfl, h2, o2⟩
end Go.Proofs.Ytcmcakandbpjfaa
namespace Go.Proofs.Ytcmcakandbpjfaa
set_option maxRecDepth 100000
set_option maxHeartbeats 8000000

structure Kin (x y : Ob) : Prop where
 id : y.id = x.id
 kind : y.kind = x.kind
 label : y.label = x.label
 quota : y.quota = x.quota
 fixed : y.fixed = x.fixed
 links : y.links = x.links
 dlen : y.data.length = x.data.length
 lo : y.th.lo = x.th.lo
 hi : y.th.hi = x.th.hi
theorem Kin.refl (x : Ob) : Kin x x := ⟨rfl, rfl, rfl, rfl, rfl, rfl, rfl, rfl, rfl⟩
theorem put_map {X : List Ob} (hs : Srt X) {y : Ob} (hy : (fnd X y.id).isSome = true) : puR X y = X.map fun x => if x.id = y.id then y else x := by
 refine srt_ext (srt_put hs y) ?_ fun x => ?_
 ·unfold Srt at hs ⊢
  rw [List.pairwise_map]
  refine hs.imp fun {a b} hab => ?_
  split <;> split <;> omega
 ·rw [mem_puR, List.mem_map]
  constructor
  ·rintro (rfl | ⟨h1, h2⟩)
   ·obtain ⟨z, hz⟩ := Option.isSome_iff_exists.1 hy
    exact ⟨z, (fnd_id hz).2, if_pos (fnd_id hz).1⟩
   ·exact ⟨x, h1, if_neg h2⟩
  ·rintro ⟨z, hz, rfl⟩
   by_cases e : z.id = y.id
   ·rw [if_pos e]; exact .inl rfl
   ·rw [if_neg e]; exact .inr ⟨hz, e⟩
end Go.Proofs.Ytcmcakandbpjfaa
namespace Go.Proofs.Ytcmcakandbpjfaa
set_option maxRecDepth 100000
set_option maxHeartbeats 8000000
open Go.RowKit Go.Shelf
set_option linter.unusedVariables false
attribute [local go_sem] Oper.semAt_some

def ahW (L : List Int) (i : Int) : Nat := (L.filter fun x => decide (x < i)).length
theorem ahW_of {i : Int} : ∀ {L : List Int} {k : Nat}, k ≤ L.length → (∀ j, j < k → L.getD j 0 < i) → (∀ j, k ≤ j → j < L.length → i ≤ L.getD j 0) → ahW L i = k
 | [], k, hk, _, _ => by simp at hk; subst hk; rfl
 | a :: r, 0, _, _, h2 => by
  unfold ahW
  have : (a :: r).filter (fun x => decide (x < i)) = [] := by
   rw [List.filter_eq_nil_iff]
   intro x hx
   obtain ⟨j, hj, e⟩ := List.getElem_of_mem hx
   have := h2 j (Nat.zero_le _) hj
   rw [List.getD_eq_getElem?_getD, List.getElem?_eq_getElem hj, Option.getD_some, e] at this
   simp; omega
  rw [this]; rfl
 | a :: r, k + 1, hk, h1, h2 => by
  have h0 := h1 0 (by omega)
  simp only [List.getD_cons_zero] at h0
  have ih := ahW_of (L := r) (k := k) (by simpa using hk) (fun j hj => by simpa using h1 (j + 1) (by omega)) (fun j q1 q2 => by simpa using h2 (j + 1) (by omega) (by simpa using q2))
  unfold ahW at ih ⊢
  rw [List.filter_cons_of_pos (by simpa using h0), List.length_cons, ih]
theorem sNaN_any {w : World} {a : Int} : Calls Try.prog 53 #[.int .u64 a] w fun e w' => e = .returned (.bool false) ∧ w' = w := by
 go_enter Try.func53, Try.ntmps53
 go_wp2
 go_ret
 exact ⟨rfl, rfl⟩
theorem less_any {w : World} {a b : Int} : Calls Try.prog 52 #[.int .u64 a, .int .u64 b] w fun e w' => e = .returned (.bool (decide (a < b))) ∧ w' = w := by
 by_cases h : a < b
 ·rw [decide_eq_true h]
  go_enter Try.func52, Try.ntmps52
  go_wp2_with (go_at_call 66; refine isNaN_any.mono ?_; rintro e w1 ⟨rfl, rfl⟩)
  go_ret
  exact ⟨by first | rfl | simp [h], rfl⟩
 ·rw [decide_eq_false h]
  go_enter Try.func52, Try.ntmps52
  go_wp2_with (go_at_call 66; refine isNaN_any.mono ?_; rintro e w1 ⟨rfl, rfl⟩)
  go_ret
  exact ⟨by first | rfl | simp [h], rfl⟩
theorem bsw_full {w : World} {al : Option Addr} {nl cl : Nat} {L : List Int} {i : Int} (h : CtD (LtN w) w al nl cl L) (hs : L.Pairwise (· < ·)) (hn16 : nl ≤ 4096) : Calls Try.prog 26 #[.slice al nl cl, .int .u64 i] w fun e w' => e = .returned (.tuple #[.int .i64 (ahW L i : Nat), .bool (decide (i ∈ L))]) ∧ w' = w := by
 have hn : Hid (L.length = nl) := h.1
 have hnc := h.2.1
 have hcm := h.2.2.1.1
 have hsH : Hid (∀ j k, j < k → k < nl → L.getD j 0 < L.getD k 0) := by
  refine (?_ : ∀ j k, j < k → k < nl → L.getD j 0 < L.getD k 0)
  intro j k q1 q2
  have hl := hn.out
  have := List.pairwise_iff_getElem.1 hs j k (by omega) (by omega) q1
  rwa [List.getD_eq_getElem?_getD, List.getElem?_eq_getElem (by omega), List.getD_eq_getElem?_getD, List.getElem?_eq_getElem (by omega)]
 have ga1 := Try.isAgg22
 clear hs
 go_enter Try.func26, Try.ntmps26
 go_wp2
 go_loopw [7, 8] (fun vl vh wr => ∃ lo hi : Nat, lo ≤ hi ∧ hi ≤ nl ∧ vl = .int .i64 lo ∧ vh = .int .i64 hi ∧ Hid (∀ j, j < lo → L.getD j 0 < i) ∧ Hid (∀ j, hi ≤ j → j < nl → i ≤ L.getD j 0) ∧ wr = w) (fun vl vh _ => (intOf vh).toNat - (intOf vl).toNat)
 case atStart => exact ⟨0, nl, Nat.zero_le _, Nat.le_refl _, rfl, rfl, fun j hj => absurd hj (by omega), fun j h1 h2 => absurd h2 (by omega), rfl⟩
 case round =>
  obtain ⟨lo, hi, hlh, hhn, rfl, rfl, hlo, hhi, rfl⟩ := hrel
  by_cases hlt : lo < hi
  ·obtain ⟨m, hm⟩ : ∃ m : Nat, m = (lo + hi) / 2 := ⟨_, rfl⟩
   have hmi : ((lo : Int) + hi) / 2 = m := by omega
   have hmn : m < nl := by omega
   have hm1 : lo ≤ m := by omega
   have hm2 : m < hi := by omega
   have hmn' : (m : Int) < nl := by omega
   have hm96 : m ≤ 4096 := by omega
   obtain ⟨b, off, rfl, hbb, hc⟩ := ct_at h hmn
   clear hm
   have hls := less_any (w := wr) (a := L.getD m 0) (b := i)
   by_cases hxi : L.getD m 0 < i
   ·rw [decide_eq_true hxi] at hls
    have hlo2 : Hid (∀ j, j < m + 1 → L.getD j 0 < i) := by
     refine (?_ : ∀ j, j < m + 1 → L.getD j 0 < i)
     intro j hj
     rcases Nat.lt_or_ge j m with q | q
     ·have := hsH.out j m q hmn; omega
     ·obtain rfl : j = m := by omega
      exact hxi
    generalize L.getD m 0 = z at hc hls
    go_wp2_with (first
     | (with_reducible refine wpList_bin (by kernel_rfl) .shr _ _ _ _ rfl _ _ rfl rfl (shr_one _ _ _ _ hmi) ?_)
     | (with_reducible refine wpList_conv (by kernel_rfl) 95 3 _ rfl (.int .u64 (m : Int)) rfl (conv_ui _ hm96) ?_)
     | (with_reducible refine wpList_loadc (by kernel_rfl) _ _ rfl b _ rfl _ hc ga1 ?_)
     | (go_at_call 52; (with_reducible refine hls.mono ?_); rintro e w1 ⟨rfl, rfl⟩))
    go_roundw
    case rel => exact ⟨m + 1, hi, by omega, hhn, by go_num, rfl, hlo2, hhi, trivial⟩
    case measure => simp [intOf]; omega
   ·rw [decide_eq_false hxi] at hls
    have hhi2 : Hid (∀ j, m ≤ j → j < nl → i ≤ L.getD j 0) := by
     refine (?_ : ∀ j, m ≤ j → j < nl → i ≤ L.getD j 0)
     intro j hj hjn
     rcases Nat.lt_or_ge m j with q | q
     ·have := hsH.out m j q hjn; omega
     ·obtain rfl : j = m := by omega
      omega
    generalize L.getD m 0 = z at hc hls
    go_wp2_with (first
     | (with_reducible refine wpList_bin (by kernel_rfl) .shr _ _ _ _ rfl _ _ rfl rfl (shr_one _ _ _ _ hmi) ?_)
     | (with_reducible refine wpList_conv (by kernel_rfl) 95 3 _ rfl (.int .u64 (m : Int)) rfl (conv_ui _ hm96) ?_)
     | (with_reducible refine wpList_loadc (by kernel_rfl) _ _ rfl b _ rfl _ hc ga1 ?_)
     | (go_at_call 52; (with_reducible refine hls.mono ?_); rintro e w1 ⟨rfl, rfl⟩))
    go_roundw
    case rel => exact ⟨lo, m, by omega, by omega, rfl, rfl, hlo, hhi2, trivial⟩
    case measure => simp [intOf]; omega
  ·obtain rfl : lo = hi := by omega
   have hke : Hid (ahW L i = lo) := ahW_of (by rw [hn.out]; exact hhn) hlo.out (fun j h1 h2 => hhi.out j h1 (by rw [← hn.out]; exact h2))
   have hin : i ∈ L → ∃ j, j < nl ∧ L.getD j 0 = i := fun q => by
    obtain ⟨j, hj, e⟩ := List.getElem_of_mem q
    exact ⟨j, by rw [← hn.out]; exact hj, by rw [List.getD_eq_getElem?_getD, List.getElem?_eq_getElem hj]; exact e⟩
   by_cases hln : lo < nl
   ·obtain ⟨b, off, rfl, hbb, hc⟩ := ct_at h hln
    have hln' : (lo : Int) < nl := by omega
    have hyes : L.getD lo 0 = i → decide (i ∈ L) = true := fun e => by
     refine decide_eq_true ?_
     rw [← e, List.getD_eq_getElem?_getD, List.getElem?_eq_getElem (by rw [hn.out]; exact hln)]
     exact List.getElem_mem _
    have hnot : L.getD lo 0 ≠ i → decide (i ∈ L) = false := fun e => decide_eq_false fun q => by
     obtain ⟨j, hj, ej⟩ := hin q
     have h1 := hhi.out lo (Nat.le_refl _) hln
     rcases Nat.lt_trichotomy j lo with r | r | r
     ·have := hlo.out j r; omega
     ·subst r; exact e ej
     ·have := hsH.out lo j r hj; omega
    clear hin
    generalize L.getD lo 0 = z at hc hyes hnot
    by_cases hxi : z = i
    ·have hd : Hid (decide (i ∈ L) = true) := hyes hxi
     clear hyes hnot
     subst hxi
     go_wp2_with (first
      | (with_reducible refine wpList_loadc (by with_unfolding_all rfl) _ _ rfl b _ rfl _ hc ga1 ?_)
      | (go_at_call 53; refine sNaN_any.mono ?_; rintro e w1 ⟨rfl, rfl⟩))
     go_ret2
     rw [hke.out, hd.out]
     exact ⟨rfl, rfl⟩
    ·have hxb : (z == i) = false := by simpa using hxi
     have hd : Hid (decide (i ∈ L) = false) := hnot hxi
     clear hyes hnot
     go_wp2_with (first
      | (with_reducible refine wpList_loadc (by with_unfolding_all rfl) _ _ rfl b _ rfl _ hc ga1 ?_)
      | (go_at_call 53; refine sNaN_any.mono ?_; rintro e w1 ⟨rfl, rfl⟩))
     go_ret2
     rw [hke.out, hd.out]
     exact ⟨rfl, rfl⟩
   ·have hln' : ¬ (lo : Int) < nl := by omega
    have hno : Hid (decide (i ∈ L) = false) := decide_eq_false fun q => by
     obtain ⟨j, hj, ej⟩ := hin q
     have := hlo.out j (by omega)
     omega
    clear hin
    go_wp2
    go_ret2
    exact ⟨by rw [hke.out, hno.out]; rfl, rfl⟩
end Go.Proofs.Ytcmcakandbpjfaa
namespace Go.Proofs.Ytcmcakandbpjfaa
set_option maxRecDepth 100000
set_option maxHeartbeats 8000000
open Go.RowKit Go.Shelf
set_option linter.unusedVariables false
attribute [local go_sem] Oper.semAt_some

abbrev ObsN (w : World) (D0 : Nat → Prop) (w' : World) (ao : Option Addr) (n cap : Nat) (X : List Ob) : Prop := ObsD (New w w') (fun b => D0 b ∨ New w w' b) w' ao n cap X
theorem ObsN.low {w W w' : World} {D0 : Nat → Prop} {ao : Option Addr} {n cap : Nat} {X : List Ob} (h : ObsN W D0 w' ao n cap X) (k : w.heap.size ≤ W.heap.size) : ObsN w D0 w' ao n cap X :=
 ObsD.wide h (fun b hb => hb.imp id fun c => ⟨Nat.le_trans k c.1, c.2⟩) (fun b hb => ⟨Nat.le_trans k hb.1, hb.2⟩)
theorem ObsN.next {w w' w'' : World} {D0 : Nat → Prop} {ao : Option Addr} {n cap : Nat} {X : List Ob} (h : ObsN w D0 w' ao n cap X) (hD : ∀ b, D0 b → b < w'.heap.size) (k : Below w'.heap.size w' w'') : ObsN w D0 w'' ao n cap X := by
 have h1 := ObsD.laterK h (w' := w'') (fun b hb => k.block b (by rcases hb with c | c; exact hD b c; exact c.2)) (fun b hb => k.block b hb.2)
 exact h1.wide (fun b hb => hb.imp id fun c => ⟨c.1, Nat.lt_of_lt_of_le c.2 k.size⟩) (fun b hb => ⟨hb.1, Nat.lt_of_lt_of_le hb.2 k.size⟩)
end Go.Proofs.Ytcmcakandbpjfaa
namespace Go.Proofs.Ytcmcakandbpjfaa
set_option maxRecDepth 100000
set_option maxHeartbeats 8000000
open Go.RowKit Go.Shelf
set_option linter.unusedVariables false
attribute [local go_sem] Oper.semAt_some

structure Lays (X : List Ob) : Prop where
 srt : Srt X
 sms : Smalls X
 nul : fnd X 0 = none
 quo : ∀ x ∈ X, 0 ≤ x.quota ∧ x.quota ≤ 4096
 lab : ∀ x ∈ X, x.label.length < 1048576
 ris : ∀ x ∈ X, x.links.Pairwise (· < ·) ∧ x.links.length ≤ 4000
theorem Lays.at {X : List Ob} (h : Lays X) (i : Int) : Small (fO X i) ∧ (0 ≤ (fO X i).quota ∧ (fO X i).quota ≤ 4096) ∧ (fO X i).label.length < 1048576 ∧ ((fO X i).links.Pairwise (· < ·) ∧ (fO X i).links.length ≤ 4000) := by
 unfold fO
 cases hf : fnd X i with
 | none => exact ⟨⟨by decide, by decide, by decide, by decide, by decide, by decide, by decide, by decide, by decide, by decide, by decide, by decide, by decide, by decide⟩, by decide, by decide, List.Pairwise.nil, by decide⟩
 | some x => exact ⟨h.sms x (fnd_id hf).2, h.quo x (fnd_id hf).2, h.lab x (fnd_id hf).2, h.ris x (fnd_id hf).2⟩
end Go.Proofs.Ytcmcakandbpjfaa
namespace Go.Proofs.Ytcmcakandbpjfaa
set_option maxRecDepth 100000
set_option maxHeartbeats 8000000
open Go.RowKit Go.Shelf
set_option linter.unusedVariables false
attribute [local go_sem] Oper.semAt_some

def useV (X : List Ob) (o : Ob) : Int := pagO o + (o.links.map (qOf X)).sum
end Go.Proofs.Ytcmcakandbpjfaa
namespace Go.Proofs.Ytcmcakandbpjfaa
set_option maxRecDepth 100000
set_option maxHeartbeats 8000000
open Go.RowKit Go.Shelf
set_option linter.unusedVariables false
attribute [local go_sem] Oper.semAt_some

def awS (q : Int) : Ob := ⟨2, 1, [], q, false, [], [], [], zTh, zGt, [], []⟩
def awE : Ob := ⟨1, 2, [], 3, false, [2], [], [], zTh, zGt, [], []⟩
end Go.Proofs.Ytcmcakandbpjfaa
namespace Go.Proofs.Ytcmcakandbpjfaa
set_option maxRecDepth 100000
set_option maxHeartbeats 8000000
open Go.RowKit Go.Shelf
set_option linter.unusedVariables false
attribute [local go_sem] Oper.semAt_some

theorem ct_up {W W' : World} {a : Option Addr} {n cap : Nat} {L : List Int} (h : CtD (LtN W) W a n cap L) (k : Below W.heap.size W W') : CtD (LtN W') W' a n cap L :=
 (h.laterK fun b hb => k.block b hb).wide fun b hb => Nat.lt_of_lt_of_le hb k.size
end Go.Proofs.Ytcmcakandbpjfaa
namespace Go.Proofs.Ytcmcakandbpjfaa
set_option maxRecDepth 100000
set_option maxHeartbeats 8000000

theorem fO_some {X : List Ob} {i : Int} {x : Ob} (h : fnd X i = some x) : fO X i = x := by unfold fO; rw [h]; rfl
theorem hol_uniq {X : List Ob} {i : Int} (h : (holL X i).length ≤ 1) {c d : Ob} (hc : c ∈ X) (hd : d ∈ X) (ic : i ∈ c.links) (jd : i ∈ d.links) : c = d := by
 unfold holL at h
 rw [List.length_map] at h
 have m1 : c ∈ X.filter (fun d => decide (i ∈ d.links)) := List.mem_filter.2 ⟨hc, by simpa using ic⟩
 have m2 : d ∈ X.filter (fun d => decide (i ∈ d.links)) := List.mem_filter.2 ⟨hd, by simpa using jd⟩
 generalize X.filter (fun d => decide (i ∈ d.links)) = l at h m1 m2
 cases l with
 | nil => cases m1
 | cons a r =>
  have hr : r = [] := List.eq_nil_of_length_eq_zero (by rw [List.length_cons] at h; omega)
  subst hr
  rw [List.mem_singleton.1 m1, List.mem_singleton.1 m2]
end Go.Proofs.Ytcmcakandbpjfaa
namespace Go.Proofs.Ytcmcakandbpjfaa
set_option maxRecDepth 100000
set_option maxHeartbeats 8000000
set_option linter.unusedVariables false

theorem fitD_mk {t ro : Int} {key : Nat} {Y : List Ob} (h1 : fitW ⟨t, key, ro, Y⟩ = true) (h2 : (fnd Y ro).isSome = true) (h3 : ∀ o ∈ Y, lnkB Y o = true) (h4 : ∀ o ∈ Y, plaB Y ro o = true) (h5 : spaB key Y = true) : fitD t key ro Y = true := by
 unfold fitD
 simp only [Bool.and_eq_true]
 exact ⟨⟨h1, h2⟩, (all_oat (p := fun o => lnkB Y o && plaB Y ro o)).2 fun o ho => by rw [h3 o ho, h4 o ho]; rfl, h5⟩
theorem fitD_el {t ro : Int} {key : Nat} {Y : List Ob} (h : fitD t key ro Y = true) : fitW ⟨t, key, ro, Y⟩ = true ∧ (fnd Y ro).isSome = true ∧ (∀ o ∈ Y, lnkB Y o = true) ∧ (∀ o ∈ Y, plaB Y ro o = true) ∧ spaB key Y = true := by
 unfold fitD at h
 simp only [Bool.and_eq_true] at h
 have hh := (all_oat (p := fun o => lnkB Y o && plaB Y ro o)).1 h.2.1
 refine ⟨h.1.1, h.1.2, fun o ho => ?_, fun o ho => ?_, h.2.2⟩
 ·have := hh o ho; rw [Bool.and_eq_true] at this; exact this.1
 ·have := hh o ho; rw [Bool.and_eq_true] at this; exact this.2
structure Kid (x y : Ob) : Prop where
 id : y.id = x.id
 kind : y.kind = x.kind
 label : y.label = x.label
 lo : y.th.lo = x.th.lo
 hi : y.th.hi = x.th.hi
theorem Kid.refl (x : Ob) : Kid x x := ⟨rfl, rfl, rfl, rfl, rfl⟩
section
variable {g : Ob → Ob} {X : List Ob}
theorem abv_kid {Y : List Ob} {P : Int → Prop} (hh : ∀ i, P i → holL Y i = holL X i) (hc : ∀ i, P i → ∀ c ∈ holL X i, P c) : ∀ (f : Nat) (i : Int), P i → abvL Y f i = abvL X f i
 | 0, _, _ => rfl
 | f + 1, i, hi => by
  unfold abvL
  rw [hh i hi]
  cases e : holL X i with
  | nil => rfl
  | cons a r => simp only; rw [abv_kid hh hc f a (hc i hi a (by rw [e]; exact List.mem_cons_self ..))]
end
end Go.Proofs.Ytcmcakandbpjfaa
namespace Go.Proofs.Ytcmcakandbpjfaa
set_option maxRecDepth 100000
set_option maxHeartbeats 8000000
set_option linter.unusedVariables false

theorem hol_mem {X : List Ob} {i k : Int} : i ∈ holL X k ↔ ∃ d ∈ X, d.id = i ∧ k ∈ d.links := by
 unfold holL
 rw [List.mem_map]
 constructor
 ·rintro ⟨d, hd, e⟩
  obtain ⟨h1, h2⟩ := List.mem_filter.1 hd
  exact ⟨d, h1, e, of_decide_eq_true h2⟩
 ·rintro ⟨d, h1, e, h2⟩
  exact ⟨d, List.mem_filter.2 ⟨h1, decide_eq_true h2⟩, e⟩
theorem hol_sng {t ro : Int} {key : Nat} {X : List Ob} (hf : fitD t key ro X = true) {x : Ob} (hx : x ∈ X) (hs : sngO x = true) : (holL X x.id).length ≤ 1 := by
 have := (fitD_el hf).2.2.2.1 x hx
 unfold plaB at this
 by_cases e : x.id = ro
 ·rw [if_pos e] at this
  simp only [Bool.and_eq_true, decide_eq_true_eq] at this
  omega
 ·rw [if_neg e, hs] at this
  simp only [Bool.and_eq_true, Bool.or_true, Bool.and_true, Bool.not_eq_true', decide_eq_false_iff_not] at this
  omega
end Go.Proofs.Ytcmcakandbpjfaa
namespace Go.Proofs.Ytcmcakandbpjfaa
set_option maxRecDepth 100000
set_option maxHeartbeats 8000000
set_option linter.unusedVariables false

def hasO (key : Nat) (x : Ob) (i : Int) : Bool := SrM.hasK key x.th.lo.toNat x.th.hi.toNat i.toNat
def rapO (x y : Ob) : Bool := rapB x.th.lo.toNat x.th.hi.toNat y.th.lo.toNat y.th.hi.toNat
theorem spa_all {key : Nat} {Y : List Ob} (hs : Srt Y) : spaB key Y = true ↔ ∀ x ∈ Y, x.kind = 4 → ∀ y ∈ Y, hasO key x y.id = false ∧ (y.kind = 4 → y.id ≠ x.id → rapO x y = true) := by
 unfold spaB
 rw [List.all_eq_true]
 constructor
 ·intro h x hx k y hy
  obtain ⟨i, hi, ei⟩ := List.getElem_of_mem hx
  obtain ⟨j, hj, ej⟩ := List.getElem_of_mem hy
  have h1 := h i (List.mem_range.2 hi)
  rw [oat_get hi, ei, decide_eq_true k] at h1
  simp only [Bool.not_true, Bool.false_or] at h1
  rw [List.all_eq_true] at h1
  have h2 := h1 j (List.mem_range.2 hj)
  unfold rowB at h2
  rw [oat_get hi, ei, oat_get hj, ej] at h2
  simp only [Bool.not_eq_true', Bool.or_eq_false_iff] at h2
  refine ⟨h2.1, fun ky hne => ?_⟩
  have hji : j ≠ i := fun q => by subst q; rw [ei] at ej; exact hne (by rw [ej])
  have h3 := h2.2
  rw [decide_eq_true ky, decide_eq_true hji] at h3
  show rapB _ _ _ _ = true
  simpa using h3
 ·intro h i hi
  have hi' := List.mem_range.1 hi
  by_cases k : (oat Y i).kind = 4
  ·rw [decide_eq_true k]
   simp only [Bool.not_true, Bool.false_or]
   rw [List.all_eq_true]
   intro j hj
   have hj' := List.mem_range.1 hj
   have := h _ (oat_mem hi') k _ (oat_mem hj')
   unfold rowB
   rw [Bool.not_eq_true', Bool.or_eq_false_iff]
   refine ⟨this.1, ?_⟩
   by_cases ky : (oat Y j).kind = 4
   ·by_cases hji : j = i
    ·rw [decide_eq_false (not_not_intro hji)]; simp
    ·have hne : (oat Y j).id ≠ (oat Y i).id := fun q => hji ((oat_inj hs hi' hj').1 q)
     have := this.2 ky hne
     unfold rapO at this
     rw [this]; simp
   ·rw [decide_eq_false ky]; rfl
  ·rw [decide_eq_false k]; rfl
end Go.Proofs.Ytcmcakandbpjfaa
namespace Go.Proofs.Ytcmcakandbpjfaa
set_option maxRecDepth 100000
set_option maxHeartbeats 8000000
set_option linter.unusedVariables false

def lnkX (P : Int → Int → Bool) (c : Ob) : Ob := { c with links := c.links.filter fun j => !P c.id j }
def swpX (X : List Ob) (P : Int → Int → Bool) (G : List Int) : List Ob := (X.map (lnkX P)).filter fun x => decide (¬ x.id ∈ G)
def oneP (d i : Int) : Int → Int → Bool := fun c j => decide (c = d) && decide (j = i)
structure Gone (X : List Ob) (ro : Int) (P : Int → Int → Bool) (G : List Int) : Prop where
 rise : G.Pairwise (· < ·)
 mem : ∀ g ∈ G, (fnd X g).isSome = true
 root : ¬ ro ∈ G
 iff : ∀ x ∈ X, x.id ≠ ro → (x.id ∈ G ↔ ∀ c ∈ X, x.id ∈ c.links → P c.id x.id = true ∨ c.id ∈ G)
theorem rise_nil {l : List Int} (h : ∀ x, x ∈ l ↔ False) : l = [] := by
 cases l with
 | nil => rfl
 | cons a r => exact absurd (List.mem_cons_self ..) (fun q => (h a).1 q)
theorem rise_ext : ∀ {l m : List Int}, l.Pairwise (· < ·) → m.Pairwise (· < ·) → (∀ x, x ∈ l ↔ x ∈ m) → l = m
 | [], m, _, _, e => (rise_nil fun x => by rw [← e]; simp).symm
 | a :: l, [], _, _, e => absurd ((e a).1 (List.mem_cons_self ..)) (by simp)
 | a :: l, b :: m, hl, hm, e => by
  obtain ⟨h1, h2⟩ := List.pairwise_cons.1 hl
  obtain ⟨k1, k2⟩ := List.pairwise_cons.1 hm
  have hab : a = b := by
   rcases List.mem_cons.1 ((e a).1 (List.mem_cons_self ..)) with q | q
   ·exact q
   ·rcases List.mem_cons.1 ((e b).2 (List.mem_cons_self ..)) with r | r
    ·exact r.symm
    ·have := h1 b r; have := k1 a q; omega
  subst hab
  congr 1
  refine rise_ext h2 k2 fun x => ⟨fun q => ?_, fun q => ?_⟩
  ·rcases List.mem_cons.1 ((e x).1 (List.mem_cons_of_mem _ q)) with r | r
   ·have := h1 x q; omega
   ·exact r
  ·rcases List.mem_cons.1 ((e x).2 (List.mem_cons_of_mem _ q)) with r | r
   ·have := k1 x q; omega
   ·exact r
section
variable {t ro : Int} {key : Nat} {X : List Ob} {P : Int → Int → Bool} {G H : List Int}
theorem cont_way (hf : fitD t key ro X = true) {x c : Ob} (hx : x ∈ X) (k2 : x.kind = 2) (hc : c ∈ X) (hi : x.id ∈ c.links) : x.id ≠ ro ∧ wayL X x.id = c.id :: wayL X c.id := by
 have hT := tre_of hf
 have hne : x.id ≠ ro := fun e => by
  have : c.id ∈ holL X x.id := hol_mem.2 ⟨c, hc, rfl, hi⟩
  rw [e, hT.hro] at this; cases this
 obtain ⟨d, hd, _, hdi, _, hw⟩ := way_step hT hx hne
 have h1 := hol_sng hf hx (by unfold sngO; rw [k2]; rfl)
 have : c = d := hol_uniq h1 hc hd hi hdi
 rw [this]; exact ⟨hne, hw⟩
theorem gone_c (hf : fitD t key ro X = true) (h : Gone X ro P G) (k : Gone X ro P H) : ∀ (n : Nat) (x : Ob), x ∈ X → x.kind = 2 → (wayL X x.id).length ≤ n → x.id ∈ G → x.id ∈ H
 | n, x, hx, k2, hn, hg => by
  have hne : x.id ≠ ro := fun e => h.root (e ▸ hg)
  refine (k.iff x hx hne).2 fun c hc hi => ?_
  rcases (h.iff x hx hne).1 hg c hc hi with q | q
  ·exact .inl q
  ·have hw := (cont_way hf hx k2 hc hi).2
   rw [hw, List.length_cons] at hn
   cases n with
   | zero => omega
   | succ n => exact .inr (gone_c hf h k n c hc (links_cont (tre_of hf) hc hi) (by omega) q)
theorem gone_sub (hf : fitD t key ro X = true) (h : Gone X ro P G) (k : Gone X ro P H) (g : Int) (hg : g ∈ G) : g ∈ H := by
 obtain ⟨x, hx⟩ := Option.isSome_iff_exists.1 (h.mem g hg)
 obtain ⟨e, hm⟩ := fnd_id hx
 subst e
 have hne : x.id ≠ ro := fun e => h.root (e ▸ hg)
 refine (k.iff x hm hne).2 fun c hc hi => ?_
 rcases (h.iff x hm hne).1 hg c hc hi with q | q
 ·exact .inl q
 ·exact .inr (gone_c hf h k _ c hc (links_cont (tre_of hf) hc hi) (Nat.le_refl _) q)
theorem gone_uniq (hf : fitD t key ro X = true) (h : Gone X ro P G) (k : Gone X ro P H) : G = H := rise_ext h.rise k.rise fun x => ⟨gone_sub hf h k x, gone_sub hf k h x⟩
end
def cntL (X : List Ob) (k : Int) : Nat := (holL X k).length
structure CutI (X : List Ob) (i : Int) (at_ : Nat) (row C : List Int) : Prop where
 nod : C.Nodup
 rowe : row = i :: C.flatMap fun c => (fO X c).links
 le : at_ ≤ row.length
 mem : ∀ k, k ∈ C ↔ 1 ≤ cntL X k ∧ cntL X k ≤ (row.take at_).count k
 way : ∀ k ∈ C, (fO X k).kind = 2 → (wayL X i).length ≤ (wayL X k).length
section
variable {t ro : Int} {key : Nat} {X : List Ob} {i : Int} {row C : List Int} {n : Nat}
theorem cut_zero (X : List Ob) (i : Int) : CutI X i 0 [i] [] := ⟨List.nodup_nil, rfl, Nat.zero_le _, fun k => ⟨fun h => (by cases h), fun h => by simp at h; omega⟩, fun k h => by cases h⟩
theorem count_step (hn : n < row.length) (k : Int) : (row.take (n + 1)).count k = (row.take n).count k + if row.getD n 0 = k then 1 else 0 := by
 rw [List.take_add_one, List.count_append, List.getElem?_eq_getElem hn, List.getD_eq_getElem?_getD, List.getElem?_eq_getElem hn]
 simp only [Option.toList_some, Option.getD_some]
 rw [List.count_singleton]
 by_cases e : row[n] = k <;> simp [e]
theorem cut_no (h : CutI X i n row C) (hn : n < row.length) (hx : cntL X (row.getD n 0) ≠ (row.take n).count (row.getD n 0) + 1) : CutI X i (n + 1) row C := by
 refine ⟨h.nod, h.rowe, hn, fun k => ?_, h.way⟩
 rw [h.mem, count_step hn]
 by_cases e : row.getD n 0 = k
 ·rw [if_pos e]; rw [e] at hx; omega
 ·rw [if_neg e]; omega
theorem fO_links {X : List Ob} {c j : Int} (h : j ∈ (fO X c).links) : ∃ o, fnd X c = some o ∧ fO X c = o ∧ o ∈ X ∧ o.id = c := by
 cases e : fnd X c with
 | none => unfold fO at h; rw [e] at h; simp [zOb] at h
 | some o => exact ⟨o, rfl, fO_some e, (fnd_id e).2, (fnd_id e).1⟩
theorem cut_yes (hf : fitD t key ro X = true) (h : CutI X i n row C) (hn : n < row.length) (hx : cntL X (row.getD n 0) = (row.take n).count (row.getD n 0) + 1) : CutI X i (n + 1) (row ++ (fO X (row.getD n 0)).links) (C ++ [row.getD n 0]) := by
 have hnew : ¬ row.getD n 0 ∈ C := fun q => by have := (h.mem _).1 q; omega
 refine ⟨?_, ?_, by rw [List.length_append]; omega, fun k => ?_, fun k hk k2 => ?_⟩
 ·rw [List.nodup_append]
  exact ⟨h.nod, List.pairwise_singleton _ _, fun a ha b hb e => by rw [List.mem_singleton] at hb; rw [e, hb] at ha; exact hnew ha⟩
 ·have e := h.rowe
  rw [List.flatMap_append, List.flatMap_singleton]
  generalize (fO X (row.getD n 0)).links = L
  rw [e]; rfl
 ·rw [List.mem_append, h.mem, List.mem_singleton, List.take_append_of_le_length (by omega), count_step hn]
  by_cases e : row.getD n 0 = k
  ·rw [if_pos e]; rw [e] at hx; omega
  ·rw [if_neg e]
   constructor
   ·rintro (q | q)
    ·omega
    ·exact absurd q.symm e
   ·intro q; exact .inl (by omega)
 ·rcases List.mem_append.1 hk with q | q
  ·exact h.way k q k2
  ·rw [List.mem_singleton] at q
   have hm : k ∈ row := by
    rw [q, List.getD_eq_getElem?_getD, List.getElem?_eq_getElem hn]; exact List.getElem_mem hn
   rw [h.rowe] at hm
   rcases List.mem_cons.1 hm with r | r
   ·rw [r]; exact Nat.le_refl _
   ·obtain ⟨c, hc, hl⟩ := List.mem_flatMap.1 r
    obtain ⟨o, ho, eo, hox, hid⟩ := fO_links hl
    rw [eo] at hl
    have hT := tre_of hf
    obtain ⟨x, hxe⟩ := Option.isSome_iff_exists.1 (hT.lnk o hox k hl).1
    have hxk : fO X k = x := fO_some hxe
    rw [hxk] at k2
    have hw := (cont_way hf (fnd_id hxe).2 k2 hox (by rw [(fnd_id hxe).1]; exact hl)).2
    rw [(fnd_id hxe).1] at hw
    have h2 := h.way c hc (by rw [eo]; exact links_cont hT hox hl)
    rw [hw, List.length_cons, hid]
    omega
theorem cut_len (hf : fitD t key ro X = true) (h : CutI X i n row C) : row.length ≤ 1 + 64 * X.length := by
 have hT := tre_of hf
 have h1 : C.length ≤ X.length := by
  have := nodup_le C (X.map Ob.id) h.nod fun k hk => by
   have h1 := ((h.mem k).1 hk).1
   unfold cntL at h1
   obtain ⟨c, hc⟩ := List.exists_mem_of_length_pos (by omega : 0 < (holL X k).length)
   obtain ⟨d, hd, _, hi⟩ := holL_mem hc
   obtain ⟨x, hx⟩ := Option.isSome_iff_exists.1 (hT.lnk d hd k hi).1
   exact List.mem_map.2 ⟨x, (fnd_id hx).2, (fnd_id hx).1⟩
  rwa [List.length_map] at this
 have h2 : ∀ L : List Int, (L.flatMap fun c => (fO X c).links).length ≤ 64 * L.length := by
  intro L
  induction L with
  | nil => simp
  | cons a r ih =>
   rw [List.flatMap_cons, List.length_append, List.length_cons]
   have : (fO X a).links.length ≤ 64 := by
    cases hl : (fO X a).links with
    | nil => simp
    | cons b m =>
     obtain ⟨o, _, eo, hox, _⟩ := fO_links (X := X) (c := a) (j := b) (by rw [hl]; exact List.mem_cons_self ..)
     rw [← hl, eo]
     have hb : b ∈ o.links := by rw [← eo, hl]; exact List.mem_cons_self ..
     exact ((own2 (links_cont hT hox hb)).1 (sound_iff.1 (hT.snd o hox)).2.1).1
   omega
 rw [h.rowe, List.length_cons]
 have := h2 C
 omega
theorem count_one {k : Int} : ∀ {l : List Int}, l.Nodup → k ∈ l → l.count k = 1
 | [], _, h => by cases h
 | a :: r, hn, h => by
  obtain ⟨h1, h2⟩ := List.nodup_cons.1 hn
  rw [List.count_cons]
  by_cases e : a = k
  ·subst e
   rw [List.count_eq_zero_of_not_mem h1]; simp
  ·rcases List.mem_cons.1 h with q | q
   ·exact absurd q.symm e
   ·rw [count_one h2 q]; simp [e]
theorem flat_count {X : List Ob} (hn : ∀ o ∈ X, o.links.Nodup) (k : Int) : ∀ C : List Int, (C.flatMap fun c => (fO X c).links).count k = (C.filter fun c => decide (k ∈ (fO X c).links)).length
 | [] => rfl
 | a :: r => by
  rw [List.flatMap_cons, List.count_append, flat_count hn k r, List.filter_cons]
  have : (fO X a).links.Nodup := by
   cases e : fnd X a with
   | none => unfold fO; rw [e]; exact List.nodup_nil
   | some o => rw [fO_some e]; exact hn o (fnd_id e).2
  by_cases q : k ∈ (fO X a).links
  ·rw [if_pos (decide_eq_true q), List.length_cons, count_one this q]; omega
  ·rw [if_neg (by simpa using q), List.count_eq_zero_of_not_mem q]; omega
theorem sub_of_len {L M : List Int} (hM : M.Nodup) (hs : ∀ x ∈ M, x ∈ L) (hl : L.length ≤ M.length) : ∀ x ∈ L, x ∈ M := fun x hx => Classical.byContradiction fun q => by
 have := nodup_le (x :: M) L (List.nodup_cons.2 ⟨q, hM⟩) fun y hy => by
  rcases List.mem_cons.1 hy with r | r
  ·rw [r]; exact hx
  ·exact hs y r
 rw [List.length_cons] at this
 omega
theorem hol_nodup {X : List Ob} (hs : Srt X) (k : Int) : (holL X k).Nodup := by
 unfold holL
 have : ((X.filter fun d => decide (k ∈ d.links)).map Ob.id).Pairwise (· < ·) := List.pairwise_map.2 (List.Pairwise.filter _ hs)
 exact this.imp fun h => by omega
theorem cut_gone (hf : fitD t key ro X = true) {d : Int} (hd : i ∈ (fO X d).links) (h : CutI X i row.length row C) : Gone X ro (oneP d i) ((X.map Ob.id).filter fun k => decide (k ∈ C)) := by
 have hT := tre_of hf
 have hro : ¬ ro ∈ C := fun q => by have := ((h.mem ro).1 q).1; unfold cntL at this; rw [hT.hro] at this; simp at this
 obtain ⟨D, hD, eD, hDX, hDi⟩ := fO_links hd
 rw [eD] at hd
 have hdC : ¬ d ∈ C := fun q => by
  obtain ⟨x, hx⟩ := Option.isSome_iff_exists.1 (hT.lnk D hDX i hd).1
  have h2 : D.kind = 2 := links_cont hT hDX hd
  by_cases k2 : x.kind = 2
  ·have hw := (cont_way hf (fnd_id hx).2 k2 hDX (by rw [(fnd_id hx).1]; exact hd)).2
   have := h.way d q (by rw [eD]; exact h2)
   rw [(fnd_id hx).1] at hw
   rw [hw, List.length_cons, hDi] at this
   omega
  ·have hl : (fO X i).links = [] := by rw [fO_some hx]; exact links_nil (hT.snd x (fnd_id hx).2) k2
   have hC : ∀ k ∈ C, k = i := fun k hk => by
    have h1 := ((h.mem k).1 hk)
    have h3 : 0 < (row.take row.length).count k := by omega
    rw [List.take_length] at h3
    have h4 := List.count_pos_iff.1 h3
    rw [h.rowe] at h4
    rcases List.mem_cons.1 h4 with r | r
    ·exact r
    ·obtain ⟨c, hc, hlc⟩ := List.mem_flatMap.1 r
     obtain ⟨o, _, eo, hox, hid⟩ := fO_links hlc
     rw [eo] at hlc
     -- a first one: c is i, or lies below one; all of C lies below i alone
     exact Classical.byContradiction fun hne => by
      have : ∀ (m : Nat) (c : Int), c ∈ C → (fO X c).kind = 2 → (wayL X c).length ≤ m → False := fun m => by
       induction m with
       | zero =>
        intro c hc k2' hm
        have h1 := ((h.mem c).1 hc)
        have h3 : 0 < (row.take row.length).count c := by omega
        rw [List.take_length] at h3
        have h4 := List.count_pos_iff.1 h3
        rw [h.rowe] at h4
        rcases List.mem_cons.1 h4 with r | r
        ·rw [r, fO_some hx] at k2'; exact k2 k2'
        ·obtain ⟨e, he, hle⟩ := List.mem_flatMap.1 r
         obtain ⟨p, _, ep, hpx, hpid⟩ := fO_links hle
         rw [ep] at hle
         obtain ⟨y, hy⟩ := Option.isSome_iff_exists.1 (hT.lnk p hpx c hle).1
         rw [fO_some hy] at k2'
         have hw := (cont_way hf (fnd_id hy).2 k2' hpx (by rw [(fnd_id hy).1]; exact hle)).2
         rw [(fnd_id hy).1] at hw
         rw [hw] at hm
         simp at hm
       | succ m ih =>
        intro c hc k2' hm
        have h1 := ((h.mem c).1 hc)
        have h3 : 0 < (row.take row.length).count c := by omega
        rw [List.take_length] at h3
        have h4 := List.count_pos_iff.1 h3
        rw [h.rowe] at h4
        rcases List.mem_cons.1 h4 with r | r
        ·rw [r, fO_some hx] at k2'; exact k2 k2'
        ·obtain ⟨e, he, hle⟩ := List.mem_flatMap.1 r
         obtain ⟨p, _, ep, hpx, hpid⟩ := fO_links hle
         rw [ep] at hle
         obtain ⟨y, hy⟩ := Option.isSome_iff_exists.1 (hT.lnk p hpx c hle).1
         rw [fO_some hy] at k2'
         have hw := (cont_way hf (fnd_id hy).2 k2' hpx (by rw [(fnd_id hy).1]; exact hle)).2
         rw [(fnd_id hy).1] at hw
         rw [hw, List.length_cons] at hm
         exact ih e he (by rw [ep]; exact links_cont hT hpx hle) (by rw [← hpid]; omega)
      exact this _ c hc (by rw [eo]; exact links_cont hT hox hlc) (Nat.le_refl _)
   have := hC d q
   rw [this, fO_some hx] at eD
   rw [eD] at k2
   exact k2 h2
 have hmem : ∀ g, g ∈ (X.map Ob.id).filter (fun k => decide (k ∈ C)) ↔ (∃ x ∈ X, x.id = g) ∧ g ∈ C := fun g => by
  rw [List.mem_filter, List.mem_map, decide_eq_true_eq]
 refine ⟨?_, fun g hg => ?_, fun q => hro ((hmem ro).1 q).2, fun x hx hne => ?_⟩
 ·exact List.Pairwise.filter _ (List.pairwise_map.2 hT.srt)
 ·obtain ⟨⟨x, hx, e⟩, _⟩ := (hmem g).1 hg
  rw [← e]; exact fnd_mem hx
 ·have hcnt : (row.take row.length).count x.id = (if i = x.id then 1 else 0) + (C.filter fun c => decide (x.id ∈ (fO X c).links)).length := by
   rw [List.take_length]
   conv => lhs; rw [h.rowe]
   rw [List.count_cons, flat_count (fun o ho => links_nodup (hT.snd o ho))]
   by_cases e : i = x.id <;> simp [e] <;> omega
  have h1 : 1 ≤ cntL X x.id := List.length_pos_iff.2 (hT.hol x hx hne)
  rw [hmem, h.mem, hcnt]
  generalize hM : (C.filter fun c => decide (x.id ∈ (fO X c).links)) = M
  have hMn : M.Nodup := by rw [← hM]; exact List.Pairwise.filter _ h.nod
  have hMm : ∀ c, c ∈ M ↔ c ∈ C ∧ c ∈ holL X x.id := fun c => by
   rw [← hM, List.mem_filter, decide_eq_true_eq, hol_mem]
   constructor
   ·rintro ⟨a, b⟩
    obtain ⟨o, _, eo, hox, hid⟩ := fO_links b
    exact ⟨a, o, hox, hid, by rw [eo] at b; exact b⟩
   ·rintro ⟨a, o, ho, e, hl⟩
    refine ⟨a, ?_⟩
    rw [fO_some ((fnd_some hT.srt).2 ⟨ho, e⟩)]; exact hl
  have hL := hol_nodup hT.srt x.id
  constructor
  ·rintro ⟨_, _, hle⟩ c hc hi
   have hcL : c.id ∈ holL X x.id := hol_mem.2 ⟨c, hc, rfl, hi⟩
   unfold cntL at hle
   by_cases e : i = x.id
   ·rw [if_pos e] at hle
    by_cases ed : c.id = d
    ·exact .inl (by unfold oneP; rw [ed, ← e]; simp)
    ·right
     rw [hmem]
     refine ⟨⟨c, hc, rfl⟩, ?_⟩
     have hdL : d ∈ holL X x.id := hol_mem.2 ⟨D, hDX, hDi, by rw [← e]; exact hd⟩
     have hdM : ¬ d ∈ M := fun q => hdC ((hMm d).1 q).1
     have := sub_of_len (L := holL X x.id) (M := d :: M) (List.nodup_cons.2 ⟨hdM, hMn⟩) (fun y hy => by
      rcases List.mem_cons.1 hy with r | r
      ·rw [r]; exact hdL
      ·exact ((hMm y).1 r).2) (by rw [List.length_cons]; omega) c.id hcL
     rcases List.mem_cons.1 this with r | r
     ·exact absurd r ed
     ·exact ((hMm _).1 r).1
   ·rw [if_neg e] at hle
    right
    rw [hmem]
    refine ⟨⟨c, hc, rfl⟩, ?_⟩
    have := sub_of_len (L := holL X x.id) (M := M) hMn (fun y hy => ((hMm y).1 hy).2) (by omega) c.id hcL
    exact ((hMm _).1 this).1
  ·intro hall
   refine ⟨⟨x, hx, rfl⟩, h1, ?_⟩
   unfold cntL
   have hsub : ∀ c ∈ holL X x.id, (c = d ∧ x.id = i) ∨ c ∈ M := fun c hc => by
    obtain ⟨o, ho, eo, hl⟩ := hol_mem.1 hc
    rcases hall o ho hl with q | q
    ·unfold oneP at q
     simp only [Bool.and_eq_true, decide_eq_true_eq] at q
     exact .inl ⟨eo ▸ q.1, q.2⟩
    ·right
     rw [hmem] at q
     exact (hMm c).2 ⟨eo ▸ q.2, hc⟩
   by_cases e : i = x.id
   ·rw [if_pos e]
    have := nodup_le _ (d :: M) hL fun c hc => by
     rcases hsub c hc with q | q
     ·rw [q.1]; exact List.mem_cons_self ..
     ·exact List.mem_cons_of_mem _ q
    rw [List.length_cons] at this
    omega
   ·rw [if_neg e]
    have := nodup_le _ M hL fun c hc => by
     rcases hsub c hc with q | q
     ·exact absurd q.2.symm e
     ·exact q
    omega
end
end Go.Proofs.Ytcmcakandbpjfaa
namespace Go.Proofs.Ytcmcakandbpjfaa
set_option maxRecDepth 100000
set_option maxHeartbeats 8000000
open Go.RowKit Go.Shelf
set_option linter.unusedVariables false
attribute [local go_sem] Oper.semAt_some

def cntF (X : List Ob) (L : List Int) : Int → Option Int := fun k => if cntL X k + L.count k = 0 then none else some ((cntL X k + L.count k : Nat) : Int)
theorem cntF_word {X : List Ob} {L : List Int} {j : Nat} (hj : j < L.length) : (fun m => if m = L.getD j 0 then some ((cntF X (L.take j) (L.getD j 0)).getD 0 + 1) else cntF X (L.take j) m) = cntF X (L.take (j + 1)) := by
 funext m
 have hs := count_step hj m
 by_cases e : m = L.getD j 0
 ·rw [if_pos e]
  rw [if_pos e.symm] at hs
  subst e
  unfold cntF
  rw [hs]
  generalize cntL X (L.getD j 0) = a
  generalize (L.take j).count (L.getD j 0) = c
  by_cases z : a + c = 0
  ·have h1 : a = 0 := by omega
   have h2 : c = 0 := by omega
   subst h1; subst h2; rfl
  ·rw [if_neg z, if_neg (by omega)]
   show some (((a + c : Nat) : Int) + 1) = _
   congr 1
 ·rw [if_neg e]
  rw [if_neg (fun q => e q.symm)] at hs
  have hs' := hs.trans (Nat.add_zero _)
  unfold cntF
  rw [hs']
theorem cntF_ob {X : List Ob} {k : Nat} (hk : k < X.length) (hn : (oat X k).links.Nodup) : cntF (X.take k) (oat X k).links = cntF (X.take (k + 1)) [] := by
 funext m
 have h1 : cntL (X.take (k + 1)) m = cntL (X.take k) m + (oat X k).links.count m := by
  unfold cntL
  rw [holL_succ hk, List.length_append]
  by_cases q : m ∈ (oat X k).links
  ·rw [if_pos q, count_one hn q]; rfl
  ·rw [if_neg q, List.count_eq_zero_of_not_mem q]; rfl
 unfold cntF
 rw [h1]
 simp
theorem cntF_le {X : List Ob} {L : List Int} (m : Int) : 0 ≤ (cntF X L m).getD 0 ∧ (cntF X L m).getD 0 ≤ ((X.length + L.length : Nat) : Int) := by
 have h1 : cntL X m ≤ X.length := by unfold cntL holL; rw [List.length_map]; exact List.length_filter_le ..
 have h2 : L.count m ≤ L.length := List.count_le_length
 unfold cntF
 split
 ·exact ⟨Int.le_refl _, by show (0 : Int) ≤ _; omega⟩
 ·show 0 ≤ ((cntL X m + L.count m : Nat) : Int) ∧ ((cntL X m + L.count m : Nat) : Int) ≤ _
  omega
theorem tied_v {w : World} {t ke ro : Int} {ao : Option Addr} {n cap : Nat} {X : List Ob} (h : Obs w ao n cap X) (hn16 : n ≤ 4096) (hsm : Smalls X) (hnd : ∀ x ∈ X, x.links.Nodup) : Calls Try.prog 32 #[.agg #[.int .i64 t, .int .u64 ke, .int .u64 ro, .slice ao n cap]] w fun e w' => ∃ M, e = .returned (.map (some M)) ∧ w.heap.size ≤ M ∧ MapT w' M (cntF X []) ∧ Below w.heap.size w w' := by
 have hn : Hid (X.length = n) := h.1
 have hnc := h.2.1
 have hcm := h.2.2.1.1
 have ga1 := Try.isAgg22
 have ga3 := Try.isAgg23
 have ga4 := Try.isAgg28
 have c3 : (#[.int .i64 t, .int .u64 ke, .int .u64 ro, .slice ao n cap] : Array Value)[3]? = some (.slice ao n cap) := rfl
 have hsmH : Hid (Smalls X) := hsm
 have hndH : Hid (∀ x ∈ X, x.links.Nodup) := hnd
 obtain ⟨G, hG⟩ : ∃ G : Array Value, G = #[.int .i64 t, .int .u64 ke, .int .u64 ro, .slice ao n cap] := ⟨_, rfl⟩
 rw [← hG] at c3
 rw [← hG]
 clear hG hsm hnd
 go_enter Try.func32, Try.ntmps32
 go_wp2_with (first
  | (with_reducible refine wpList_box rfl 25 _ rfl G rfl ?_; intro B W2 hN2 hB hk)
  | ((with_reducible refine wpList_makeT rfl rfl ?_); intro M W3 hN3 hM hk3; replace hB := hB.next hk3; replace hk := hk.trans (hk3.mono hk.size); have hBM : Hid (B < M ∧ w.heap.size ≤ M) := ⟨by have := hN2.out; have := hN3.out; omega, by have := hN2.out; have := hN3.out; omega⟩)
  | (with_reducible refine wpList_load1 (by kernel_rfl) _ _ rfl B _ rfl _ _ hB _ c3 ga3 ?_))
 have hM0 : MapT W3 M (cntF (X.take 0) []) := hM
 clear hN2 hN3 hM
 go_loopw [12] (fun j wr => ∃ k : Nat, k ≤ n ∧ j = .int .i64 k ∧ MapT wr M (cntF (X.take k) []) ∧ Below w.heap.size w wr) (fun j _ => n - (intOf j).toNat)
 case atStart => exact ⟨0, Nat.zero_le _, rfl, hM0, hk⟩
 case round =>
  clear hB hk hM0 hk3
  obtain ⟨k, hkn1, rfl, hM, hk⟩ := hrel
  by_cases hkn : k < n
  ·obtain ⟨b, off, C, rfl, hbb, hC, hr⟩ := obs_at (obs_next h hk) hkn
   have hkn' : (k : Int) < n := by omega
   have hz := hC.size
   have h1c := hC.one
   obtain ⟨al, nl, cl, c5, hL⟩ := hC.links
   have hln : Hid ((oat X k).links.length = nl) := hL.1
   have hlc := hL.2.1
   have hlm := hL.2.2.1.1
   have hkX : k < X.length := by rw [hn.out]; exact hkn
   have hl32 : nl < 4294967296 := by rw [← hln.out]; exact (hsmH.out _ (oat_mem hkX)).c5
   have hnx := cntF_ob hkX (hndH.out _ (oat_mem hkX))
   obtain ⟨L, hLe⟩ : ∃ L, Hid ((oat X k).links = L) := ⟨_, rfl⟩
   rw [hLe.out] at hln hL hnx
   have hXk : Hid ((X.take k).length = k) := by show (X.take k).length = k; rw [List.length_take]; omega
   obtain ⟨Y, hY⟩ : ∃ Y, Hid (X.take k = Y) := ⟨_, rfl⟩
   rw [hY.out] at hnx hM hXk
   have hnxH : Hid (cntF Y L = cntF (X.take (k + 1)) []) := hnx
   clear hnx hLe hkX
   have hMr := hM
   go_wp2_with (first
    | (with_reducible refine wpList_loadm (by kernel_rfl) 54 _ rfl b _ rfl C hr _ Try.underlying54 (by kernel_rfl) (size40C hz) ?_)
    | ((with_reducible refine wpList_alloc rfl _ rfl zC zero40 ?_); intro R W4 hB4 hR4 hk4)
    | ((with_reducible refine wpList_store_blk rfl _ _ _ rfl R rfl C rfl zC hR4 (size40C hz) (zC_size.trans hz.symm) h1c ?_); intro W5 hR5 o5; have k5 := o5.below wr.heap.size wr (by have := hB4.out.1; omega) hk4; have hL5 := (hL.laterK fun b hb => k5.block b hb).wide (fun b (hb : b < wr.heap.size) => Nat.lt_of_lt_of_le hb k5.size); replace hM := hM.next k5; replace hk := hk.trans (k5.mono hk.size))
    | (with_reducible refine wpList_load1 (by kernel_rfl) _ _ rfl R _ rfl _ _ hR5 _ c5 ga4 ?_))
   have hM1 : MapT W5 M (cntF Y (L.take 0)) := hM
   have hcs : ∀ j, j < nl → ∃ b2 off2, al = some ⟨b2, off2, none⟩ ∧ b2 ≠ M ∧ W5.cell? ⟨b2, off2 + j, none⟩ = some (.int .u64 (L.getD j 0)) := fun j hj => by
    obtain ⟨b2, off2, e, hbb2, hc2⟩ := ct_at hL hj
    exact ⟨b2, off2, e, hMr.off hc2, (World.cell?_of_block (w := wr) (a := ⟨b2, off2 + j, none⟩) (k5.block b2 hbb2)).trans hc2⟩
   go_loopw [19] (fun i wr2 => ∃ j : Nat, j ≤ nl ∧ i = .int .i64 j ∧ MapT wr2 M (cntF Y (L.take j)) ∧ Oth M W5 wr2) (fun i _ => nl - (intOf i).toNat)
   case atStart => exact ⟨0, Nat.zero_le _, rfl, hM1, Oth.refl _ _⟩
   case round =>
    clear hM hM1
    obtain ⟨j, hjn1, rfl, hM, oM⟩ := hrel
    by_cases hjn : j < nl
    ·obtain ⟨b2, off2, rfl, hbM, hc2⟩ := hcs j hjn
     have hjn' : (j : Int) < nl := by omega
     have hcj := (World.cell?_of_block (w := W5) (a := ⟨b2, off2 + j, none⟩) (oM.block b2 hbM)).trans hc2
     obtain ⟨y, hy⟩ : ∃ y, Hid (L.getD j 0 = y) := ⟨_, rfl⟩
     rw [hy.out] at hcj
     have hst := cntF_word (X := Y) (L := L) (j := j) (by rw [hln.out]; exact hjn)
     have hle := cntF_le (X := Y) (L := L.take j) y
     rw [hy.out] at hst
     obtain ⟨v, hv⟩ : ∃ v, Hid ((cntF Y (L.take j) y).getD 0 = v) := ⟨_, rfl⟩
     rw [hv.out] at hst hle
     have hlo := hle.1
     have hhi : v ≤ 4294971392 := by have := hle.2; rw [hXk.out, List.length_take] at this; omega
     have hw : IntKind.i64.wrap (v + 1) = v + 1 := by rw [IntKind.wrap_i64]; omega
     have hstH : Hid ((fun m => if m = y then some (v + 1) else cntF Y (L.take j) m) = cntF Y (L.take (j + 1))) := hst
     clear hst hle
     go_wp2_with (first
      | (with_reducible refine wpList_loadc (by kernel_rfl) _ _ rfl b2 _ rfl _ hcj ga1 ?_)
      | (((with_reducible refine wpList_getT (by kernel_rfl) _ _ rfl M rfl y rfl _ hM ?_); rw [hv.out]); skip)
      | ((with_reducible refine wpList_putT rfl _ _ _ rfl M rfl y rfl (v + 1) ?hval _ hM ?_); (case hval => simp [Act.eval]); rw [hstH.out]; intro W6 hM6 o6))
     go_roundw
     case rel => exact ⟨j + 1, by omega, by go_num, hM6, oM.trans o6⟩
     case measure => simp [intOf]; omega
    ·obtain rfl : j = nl := by omega
     have hfull : L.take j = L := by rw [← hln.out]; exact List.take_length
     rw [hfull, hnxH.out] at hM
     go_wp2
     go_roundw
     case rel => exact ⟨k + 1, by omega, by go_num, hM, oM.below _ _ hBM.out.2 hk⟩
     case measure => simp [intOf]; omega
  ·obtain rfl : k = n := by omega
   have ht : X.take k = X := by rw [← hn.out]; exact List.take_length
   rw [ht] at hM
   go_wp2
   go_ret
   exact ⟨M, rfl, hBM.out.2, hM, hk⟩
end Go.Proofs.Ytcmcakandbpjfaa
