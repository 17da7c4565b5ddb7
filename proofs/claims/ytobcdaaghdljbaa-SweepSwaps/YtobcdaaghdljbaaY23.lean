/-
 PROVED HERE: how a map from words to numbers is made, asked and changed; what package sweep's loses tells; plain facts on w. What is asked stands at each.
-/
import Derived.RangeFuncRecord
import Derived.Test.YtobcdaaghdljbaaY4
import Derived.Test.YtobcdaaghdljbaaY11
import Derived.Test.YtobcdaaghdljbaaY18
import Derived.Test.YtobcdaaghdljbaaY19
import Derived.Test.YtobcdaaghdljbaaY22
namespace Go.Proofs.Ytobcdaaghdljbaa
set_option maxRecDepth 100000
set_option maxHeartbeats 8000000
open Go.RowKit Go.Shelf
set_option linter.unusedVariables false
attribute [local go_sem] Oper.semAt_some

abbrev Tl := List (Int × Int)
def lkT (k : Int) : Tl → Option Int
 | [] => none
 | p :: l => if p.1 = k then some p.2 else lkT k l
def updT (k v : Int) : Tl → Tl
 | [] => [(k, v)]
 | p :: l => if p.1 = k then (k, v) :: l else p :: updT k v l
theorem lk_updT (k v j : Int) : ∀ l : Tl, lkT j (updT k v l) = if j = k then some v else lkT j l
 | [] => by unfold updT lkT; by_cases q : k = j <;> simp [q, lkT]; intro e; exact absurd e.symm q
 | p :: l => by
  have ih := lk_updT k v j l
  unfold updT
  by_cases q : p.1 = k
  ·rw [if_pos q]
   by_cases r : j = k
   ·subst r; simp [lkT]
   ·have r' : ¬k = j := fun e => r e.symm
    have r2 : ¬p.1 = j := fun e => r (e.symm.trans q)
    simp [lkT, r, r', r2]
  ·rw [if_neg q]
   by_cases r : p.1 = j
   ·have : ¬j = k := fun e => q (r.trans e)
    simp [lkT, r, this]
   ·simp only [lkT, if_neg r]; exact ih
def fndT (k : Int) : Tl → Nat → Option (Nat × Value)
 | [], _ => none
 | p :: l, i => if p.1 = k then some (i, .int .i64 p.2) else fndT k l (i + 1)
def kvt (e : MapEntry) : Value × Value := (e.key, e.val)
def ekt (p : Int × Int) : Value × Value := (.int .u64 p.1, .int .i64 p.2)
theorem find_t (k : Int) (kd : IntKind) : ∀ (es : List MapEntry) (l : Tl) (i : Nat), es.map kvt = l.map ekt → Instr.findNow (.int kd) (.int .u64 k) es i = some (fndT k l i)
 | [], [], i, _ => rfl
 | [], _ :: _, i, h => by cases h
 | _ :: _, [], i, h => by cases h
 | e :: es, p :: l, i, h => by
  simp only [List.map_cons, List.cons.injEq] at h
  obtain ⟨h1, h2⟩ := h
  have hk : e.key = .int .u64 p.1 := congrArg Prod.fst h1
  have hvl : e.val = .int .i64 p.2 := congrArg Prod.snd h1
  unfold Instr.findNow fndT
  rw [hk, hvl]
  by_cases q : p.1 = k
  ·subst q; simp [Instr.sameNow]
  ·have q' : ¬k = p.1 := fun e => q e.symm
   rw [if_neg q, ← find_t k kd es l (i + 1) h2]
   have q2 : (k == p.1) = false := by simpa using q'
   simp only [Instr.sameNow, q2, if_true]
theorem fnd_lkt (k : Int) : ∀ (l : Tl) (i : Nat), (∀ j v, fndT k l i = some (j, v) → ∃ z, lkT k l = some z ∧ v = .int .i64 z) ∧ (fndT k l i = none → lkT k l = none)
 | [], i => ⟨fun j v h => (by cases h), fun _ => rfl⟩
 | p :: l, i => by
  obtain ⟨h1, h2⟩ := fnd_lkt k l (i + 1)
  unfold fndT lkT
  by_cases q : p.1 = k
  ·rw [if_pos q, if_pos q]
   exact ⟨fun j v e => (by cases e; exact ⟨_, rfl, rfl⟩), fun e => (by cases e)⟩
  ·rw [if_neg q, if_neg q]
   exact ⟨h1, h2⟩
theorem fnd_updt (k v : Int) : ∀ (es : List MapEntry) (l : Tl) (i : Nat), es.map kvt = l.map ekt →
  (∀ j u, fndT k l i = some (j, u) → ∃ m, j = i + m ∧ (∃ e, es[m]? = some e ∧ e.key = .int .u64 k) ∧ (es.modify m fun (e : MapEntry) => { e with key := .int .u64 k, val := .int .i64 v }).map kvt = (updT k v l).map ekt) ∧
  (fndT k l i = none → ∀ b, (es ++ [({ key := .int .u64 k, val := .int .i64 v, born := b } : MapEntry)]).map kvt = (updT k v l).map ekt)
 | [], [], i, _ => ⟨fun j u h => (by cases h), fun _ b => rfl⟩
 | [], _ :: _, i, h => by cases h
 | _ :: _, [], i, h => by cases h
 | e :: es, p :: l, i, h => by
  simp only [List.map_cons, List.cons.injEq] at h
  obtain ⟨h1, h2⟩ := h
  have hk : e.key = .int .u64 p.1 := congrArg Prod.fst h1
  obtain ⟨g1, g2⟩ := fnd_updt k v es l (i + 1) h2
  unfold fndT updT
  by_cases q : p.1 = k
  ·rw [if_pos q, if_pos q]
   refine ⟨fun j u e' => ?_, fun e' => (by cases e')⟩
   cases e'
   refine ⟨0, rfl, ⟨e, rfl, by rw [hk, q]⟩, ?_⟩
   simp only [List.modify_zero_cons, List.map_cons, h2]
   rfl
  ·rw [if_neg q, if_neg q]
   refine ⟨fun j u e' => ?_, fun e' b => ?_⟩
   ·obtain ⟨m, hm, he, hq⟩ := g1 j u e'
    refine ⟨m + 1, by omega, by simpa using he, ?_⟩
    simp only [List.modify_succ_cons, List.map_cons, hq, h1]
   ·simp only [List.cons_append, List.map_cons, g2 e' b, h1]
def MapT (W : World) (M : Nat) (f : Int → Option Int) : Prop := ∃ (es : Array MapEntry) (c : Nat) (l : Tl), W.heap[M]? = some (.map es c) ∧ es.toList.map kvt = l.map ekt ∧ ∀ k, lkT k l = f k
theorem MapT.lt {W : World} {M : Nat} {f : Int → Option Int} (h : MapT W M f) : M < W.heap.size := by
 obtain ⟨es, c, l, h1, _⟩ := h
 exact (Array.getElem?_eq_some_iff.1 h1).1
theorem MapT.block {W W' : World} {M : Nat} {f : Int → Option Int} (h : MapT W M f) (k : W'.heap[M]? = W.heap[M]?) : MapT W' M f := by
 obtain ⟨es, c, l, h1, h2⟩ := h
 exact ⟨es, c, l, k.trans h1, h2⟩
theorem MapT.next {W W' : World} {M : Nat} {f : Int → Option Int} (h : MapT W M f) (k : Below W.heap.size W W') : MapT W' M f := h.block (k.block M h.lt)
theorem MapT.off {W : World} {M : Nat} {f : Int → Option Int} {b o : Nat} {v : Value} (h : MapT W M f) (hc : W.cell? ⟨b, o, none⟩ = some v) : b ≠ M := by
 rintro rfl
 obtain ⟨es, c, l, h1, _⟩ := h
 simp [World.cell?, h1] at hc
theorem zero_i (w : World) : (zeroValue 3).run Try.prog w = .ok (.int .i64 0) w := Try.zeroValue3 w
theorem u64_okT (e : Bool) (k : Int) (W : World) : (Instr.checkKey e 10000 22 (.int .u64 k)).run Try.prog W = .ok () W := by
 show (Instr.checkKey e (9999 + 1) 22 (.int .u64 k)).run Try.prog W = .ok () W
 generalize 9999 = n
 unfold Instr.checkKey
 simp [run_underlying Try.underlying22, Result.andThen]
theorem mapT_get {W : World} {M : Nat} {f : Int → Option Int} (h : MapT W M f) (k : Int) : (Instr.lookup 74 (.map (some M)) (.int .u64 k) false).run Try.prog W = .ok (.int .i64 ((f k).getD 0)) W := by
 obtain ⟨es, c, l, h1, h2, h3⟩ := h
 have ho : (getObj M).run Try.prog W = .ok (.map es c) W := by simp [getObj, Sem.run, h1]
 obtain ⟨g1, g2⟩ := fnd_lkt k l 0
 have hf : (Instr.findKey 22 (.int .u64 k) es.toList).run Try.prog W = .ok (fndT k l 0) W := by
  simp [Instr.findKey, run_underlying Try.underlying22, Result.andThen, find_t k _ es.toList l 0 h2]
 rw [← h3 k]
 unfold Instr.lookup
 cases hc : fndT k l 0 with
 | none =>
  rw [hc] at hf
  simp [run_underlying Try.underlying74, Result.andThen, ho, u64_okT, hf, g2 hc]
 | some q =>
  obtain ⟨j, v⟩ := q
  rw [hc] at hf
  obtain ⟨z, hz, rfl⟩ := g1 j v hc
  simp [run_underlying Try.underlying74, Result.andThen, ho, u64_okT, hf, hz]
theorem mapT_ok {W : World} {M : Nat} {f : Int → Option Int} (h : MapT W M f) (k : Int) : (Instr.lookup 74 (.map (some M)) (.int .u64 k) true).run Try.prog W = .ok (.tuple #[.int .i64 ((f k).getD 0), .bool (f k).isSome]) W := by
 obtain ⟨es, c, l, h1, h2, h3⟩ := h
 have ho : (getObj M).run Try.prog W = .ok (.map es c) W := by simp [getObj, Sem.run, h1]
 obtain ⟨g1, g2⟩ := fnd_lkt k l 0
 have hf : (Instr.findKey 22 (.int .u64 k) es.toList).run Try.prog W = .ok (fndT k l 0) W := by
  simp [Instr.findKey, run_underlying Try.underlying22, Result.andThen, find_t k _ es.toList l 0 h2]
 rw [← h3 k]
 unfold Instr.lookup
 cases hc : fndT k l 0 with
 | none =>
  rw [hc] at hf
  simp [run_underlying Try.underlying74, Result.andThen, ho, u64_okT, hf, g2 hc]
 | some q =>
  obtain ⟨j, v⟩ := q
  rw [hc] at hf
  obtain ⟨z, hz, rfl⟩ := g1 j v hc
  simp [run_underlying Try.underlying74, Result.andThen, ho, u64_okT, hf, hz]
theorem mapT_put {W : World} {M : Nat} {f : Int → Option Int} (h : MapT W M f) (k v : Int) : ∃ o, (Instr.mapUpdate 74 (.map (some M)) (.int .u64 k) (.int .i64 v)).run Try.prog W = .ok () (W.putObj M o) ∧ MapT (W.putObj M o) M fun j => if j = k then some v else f j := by
 have hl := h.lt
 obtain ⟨es, c, l, h1, h2, h3⟩ := h
 have ho : (getObj M).run Try.prog W = .ok (.map es c) W := by simp [getObj, Sem.run, h1]
 have hs : ∀ o, (setObj M o).run Try.prog W = .ok () (W.putObj M o) := fun o => by simp [setObj, Sem.run, h1, World.putObj]
 obtain ⟨g1, g2⟩ := fnd_updt k v es.toList l 0 h2
 have hf : (Instr.findKey 22 (.int .u64 k) es.toList).run Try.prog W = .ok (fndT k l 0) W := by
  simp [Instr.findKey, run_underlying Try.underlying22, Result.andThen, find_t k _ es.toList l 0 h2]
 have h4 : ∀ j, lkT j (updT k v l) = if j = k then some v else f j := fun j => by rw [lk_updT, h3]
 unfold Instr.mapUpdate
 cases hc : fndT k l 0 with
 | none =>
  rw [hc] at hf
  refine ⟨.map (es.push { key := .int .u64 k, val := .int .i64 v, born := c }) (c + 1), ?_, _, _, updT k v l, World.putObj_heap_same hl, ?_, h4⟩
  ·simp [run_underlying Try.underlying74, Result.andThen, ho, u64_okT, hf, hs]
  ·rw [Array.toList_push]; exact g2 hc c
 | some q =>
  obtain ⟨j, u⟩ := q
  rw [hc] at hf
  obtain ⟨m, hm, ⟨e, he, hek⟩, hq⟩ := g1 j u hc
  obtain rfl : j = m := by omega
  have he' : es[j]? = some e := by simpa using he
  have hst : (Instr.keyThatStays (.int .u64 k) (.int .u64 k)).run Try.prog W = .ok (.int .u64 k) W := by
   have : Instr.sameBits 10000 (.int .u64 k) (.int .u64 k) = true := by unfold Instr.sameBits; simp
   simp [Instr.keyThatStays, this]
  refine ⟨.map (es.modify j fun (e : MapEntry) => { e with key := .int .u64 k, val := .int .i64 v }) c, ?_, _, _, updT k v l, World.putObj_heap_same hl, ?_, h4⟩
  ·simp [run_underlying Try.underlying74, Result.andThen, ho, u64_okT, hf, hs, he', hek, hst]
  ·rw [Array.toList_modify]; exact hq
theorem putObj_oth (W : World) (M : Nat) (o : Obj) : Oth M W (W.putObj M o) :=
 ⟨World.putObj_size, fun b hb => World.putObj_heap_other hb, fun A w hA h => h.trans ⟨rfl, rfl, rfl, by rw [World.putObj_size]; exact Nat.le_refl _, fun k hk => World.putObj_heap_other (by omega)⟩⟩
section
variable {ops : Array Oper} {rest : List Oper} {op : Oper} {a : Act} {Q : Exit → Act → World → Prop} {w : World}
theorem wpList_getT (hw : Region.wanted op (yielded ops a.tmps) = true) (x y : Operand) (ho : op.op = .lookup 74 x y false) (M : Nat) (hx : a.eval x = .map (some M)) (k : Int) (hy : a.eval y = .int .u64 k) (f : Int → Option Int) (hm : MapT w M f)
  (h : wpList Try.prog ops Q rest (a.put op.dst (.int .i64 ((f k).getD 0))) w) : wpList Try.prog ops Q (op :: rest) a w := by
 refine wpList_val hw ?_ h
 unfold execOp
 simp [ho, hx, hy, mapT_get hm k]
theorem wpList_putT (hgd : op.guard = none) (x y z : Operand) (ho : op.op = .mapUpdate 74 x y z) (M : Nat) (hx : a.eval x = .map (some M)) (k : Int) (hy : a.eval y = .int .u64 k) (v : Int) (hz : a.eval z = .int .i64 v) (f : Int → Option Int) (hm : MapT w M f)
  (h : ∀ W, MapT W M (fun j => if j = k then some v else f j) → Oth M w W → wpList Try.prog ops Q rest (a.put op.dst undef) W) : wpList Try.prog ops Q (op :: rest) a w :=
 wpList_plain hgd fun K hK => by
  obtain ⟨o, h1, h2⟩ := mapT_put hm k v
  unfold Oper.wp execOp
  simp only [ho, hx, hy, hz, Sem.run_bind, h1, Result.andThen_ok]
  exact hK _ _ (h _ h2 (putObj_oth w M o))
theorem wpList_makeT (hgd : op.guard = none) (ho : op.op = .makeMap 74 none)
  (h : ∀ M W, Hid (w.heap.size = M ∧ W.heap.size = M + 1) → MapT W M (fun _ => none) → Below w.heap.size w W → wpList Try.prog ops Q rest (a.put op.dst (.map (some M))) W) : wpList Try.prog ops Q (op :: rest) a w :=
 wpList_plain hgd fun K hK => by
  unfold Oper.wp execOp
  simp only [ho, Instr.makeMap, newObj]
  exact hK _ _ (h _ _ ⟨rfl, by simp⟩ ⟨#[], 0, [], World.alloc_heap_new w _, rfl, fun _ => rfl⟩ ((Below.refl _ w).alloc (Nat.le_refl _) _))
end
def lessT (k : Int) (f : Int → Option Int) : Int → Option Int := fun j => if j = k then some ((f k).getD 0 - 1) else f j
theorem loses_v {w : World} {M : Nat} {f : Int → Option Int} {k : Int} (h : MapT w M f) (hb : Hid (-1000000 ≤ (f k).getD 0 ∧ (f k).getD 0 ≤ 1000000)) : Calls Try.prog 54 #[.map (some M), .int .u64 k] w fun e w' => e = .returned (.bool (decide ((f k).getD 0 = 1))) ∧ MapT w' M (lessT k f) ∧ Oth M w w' := by
 obtain ⟨v, hv⟩ : ∃ v, Hid ((f k).getD 0 = v) := ⟨_, rfl⟩
 have hlo : -1000000 ≤ v := by have := hb.out; rw [hv.out] at this; exact this.1
 have hhi : v ≤ 1000000 := by have := hb.out; rw [hv.out] at this; exact this.2
 have hw : IntKind.i64.wrap (v - 1) = v - 1 := by rw [IntKind.wrap_i64]; omega
 have e2 : Hid ((lessT k f k).getD 0 = v - 1) := by show (lessT k f k).getD 0 = _; unfold lessT; rw [if_pos rfl, hv.out]; rfl
 have hf : Hid (lessT k f = fun j => if j = k then some (v - 1) else f j) := by show lessT k f = _; unfold lessT; rw [hv.out]
 have hz : Hid (decide ((f k).getD 0 = 1) = (v - 1 == 0)) := by
  rw [hv.out]
  show decide (v = 1) = _
  rw [Bool.eq_iff_iff, decide_eq_true_iff, beq_iff_eq]; omega
 obtain ⟨r, hr⟩ : ∃ r, Hid (decide ((f k).getD 0 = 1) = r) := ⟨_, rfl⟩
 rw [hr.out]
 rw [hr.out] at hz
 obtain ⟨g, hg⟩ : ∃ g, Hid (lessT k f = g) := ⟨_, rfl⟩
 rw [hg.out] at hf e2 ⊢
 clear hb hr hg
 go_enter Try.func54, Try.ntmps54
 go_wp2_with (first
  | (((with_reducible refine wpList_getT (by kernel_rfl) _ _ rfl M rfl k rfl f h ?_); rw [hv.out]); skip)
  | ((with_reducible refine wpList_putT rfl _ _ _ rfl M rfl k rfl (v - 1) ?hval f h ?_); (case hval => simp [Act.eval]); rw [← hf.out]; intro W h2 o2; clear h)
  | (((with_reducible refine wpList_getT (by kernel_rfl) _ _ rfl M rfl k rfl g h2 ?_); rw [e2.out]); skip))
 go_ret
 exact ⟨by rw [hz.out]; rfl, h2, o2⟩
end Go.Proofs.Ytobcdaaghdljbaa
namespace Go.Proofs.Ytobcdaaghdljbaa
set_option maxRecDepth 100000
set_option maxHeartbeats 8000000

structure Kin (x y : Ob) : Prop where
 id : y.id = x.id
 kind : y.kind = x.kind
 label : y.label = x.label
 quota : y.quota = x.quota
 fixed : y.fixed = x.fixed
 links : y.links = x.links
 dlen : y.data.length = x.data.length
 lo : y.th.lo = x.th.lo
 hi : y.th.hi = x.th.hi
theorem Kin.refl (x : Ob) : Kin x x := ⟨rfl, rfl, rfl, rfl, rfl, rfl, rfl, rfl, rfl⟩
theorem put_map {X : List Ob} (hs : Srt X) {y : Ob} (hy : (fnd X y.id).isSome = true) : puR X y = X.map fun x => if x.id = y.id then y else x := by
 refine srt_ext (srt_put hs y) ?_ fun x => ?_
 ·unfold Srt at hs ⊢
  rw [List.pairwise_map]
  refine hs.imp fun {a b} hab => ?_
  split <;> split <;> omega
 ·rw [mem_puR, List.mem_map]
  constructor
  ·rintro (rfl | ⟨h1, h2⟩)
   ·obtain ⟨z, hz⟩ := Option.isSome_iff_exists.1 hy
    exact ⟨z, (fnd_id hz).2, if_pos (fnd_id hz).1⟩
   ·exact ⟨x, h1, if_neg h2⟩
  ·rintro ⟨z, hz, rfl⟩
   by_cases e : z.id = y.id
   ·rw [if_pos e]; exact .inl rfl
   ·rw [if_neg e]; exact .inr ⟨hz, e⟩
end Go.Proofs.Ytobcdaaghdljbaa
namespace Go.Proofs.Ytobcdaaghdljbaa
set_option maxRecDepth 100000
set_option maxHeartbeats 8000000
open Go.RowKit Go.Shelf
set_option linter.unusedVariables false
attribute [local go_sem] Oper.semAt_some

def ahW (L : List Int) (i : Int) : Nat := (L.filter fun x => decide (x < i)).length
theorem ahW_of {i : Int} : ∀ {L : List Int} {k : Nat}, k ≤ L.length → (∀ j, j < k → L.getD j 0 < i) → (∀ j, k ≤ j → j < L.length → i ≤ L.getD j 0) → ahW L i = k
 | [], k, hk, _, _ => by simp at hk; subst hk; rfl
 | a :: r, 0, _, _, h2 => by
  unfold ahW
  have : (a :: r).filter (fun x => decide (x < i)) = [] := by
   rw [List.filter_eq_nil_iff]
   intro x hx
   obtain ⟨j, hj, e⟩ := List.getElem_of_mem hx
   have := h2 j (Nat.zero_le _) hj
   rw [List.getD_eq_getElem?_getD, List.getElem?_eq_getElem hj, Option.getD_some, e] at this
   simp; omega
  rw [this]; rfl
 | a :: r, k + 1, hk, h1, h2 => by
  have h0 := h1 0 (by omega)
  simp only [List.getD_cons_zero] at h0
  have ih := ahW_of (L := r) (k := k) (by simpa using hk) (fun j hj => by simpa using h1 (j + 1) (by omega)) (fun j q1 q2 => by simpa using h2 (j + 1) (by omega) (by simpa using q2))
  unfold ahW at ih ⊢
  rw [List.filter_cons_of_pos (by simpa using h0), List.length_cons, ih]
theorem sNaN_any {w : World} {a : Int} : Calls Try.prog 53 #[.int .u64 a] w fun e w' => e = .returned (.bool false) ∧ w' = w := by
 go_enter Try.func53, Try.ntmps53
 go_wp2
 go_ret
 exact ⟨rfl, rfl⟩
theorem less_any {w : World} {a b : Int} : Calls Try.prog 52 #[.int .u64 a, .int .u64 b] w fun e w' => e = .returned (.bool (decide (a < b))) ∧ w' = w := by
 by_cases h : a < b
 ·rw [decide_eq_true h]
  go_enter Try.func52, Try.ntmps52
  go_wp2_with (go_at_call 66; refine isNaN_any.mono ?_; rintro e w1 ⟨rfl, rfl⟩)
  go_ret
  exact ⟨by first | rfl | simp [h], rfl⟩
 ·rw [decide_eq_false h]
  go_enter Try.func52, Try.ntmps52
  go_wp2_with (go_at_call 66; refine isNaN_any.mono ?_; rintro e w1 ⟨rfl, rfl⟩)
  go_ret
  exact ⟨by first | rfl | simp [h], rfl⟩
theorem bsw_full {w : World} {al : Option Addr} {nl cl : Nat} {L : List Int} {i : Int} (h : CtD (LtN w) w al nl cl L) (hs : L.Pairwise (· < ·)) (hn16 : nl ≤ 4096) : Calls Try.prog 26 #[.slice al nl cl, .int .u64 i] w fun e w' => e = .returned (.tuple #[.int .i64 (ahW L i : Nat), .bool (decide (i ∈ L))]) ∧ w' = w := by
 have hn : Hid (L.length = nl) := h.1
 have hnc := h.2.1
 have hcm := h.2.2.1.1
 have hsH : Hid (∀ j k, j < k → k < nl → L.getD j 0 < L.getD k 0) := by
  refine (?_ : ∀ j k, j < k → k < nl → L.getD j 0 < L.getD k 0)
  intro j k q1 q2
  have hl := hn.out
  have := List.pairwise_iff_getElem.1 hs j k (by omega) (by omega) q1
  rwa [List.getD_eq_getElem?_getD, List.getElem?_eq_getElem (by omega), List.getD_eq_getElem?_getD, List.getElem?_eq_getElem (by omega)]
 have ga1 := Try.isAgg22
 clear hs
 go_enter Try.func26, Try.ntmps26
 go_wp2
 go_loopw [7, 8] (fun vl vh wr => ∃ lo hi : Nat, lo ≤ hi ∧ hi ≤ nl ∧ vl = .int .i64 lo ∧ vh = .int .i64 hi ∧ Hid (∀ j, j < lo → L.getD j 0 < i) ∧ Hid (∀ j, hi ≤ j → j < nl → i ≤ L.getD j 0) ∧ wr = w) (fun vl vh _ => (intOf vh).toNat - (intOf vl).toNat)
 case atStart => exact ⟨0, nl, Nat.zero_le _, Nat.le_refl _, rfl, rfl, fun j hj => absurd hj (by omega), fun j h1 h2 => absurd h2 (by omega), rfl⟩
 case round =>
  obtain ⟨lo, hi, hlh, hhn, rfl, rfl, hlo, hhi, rfl⟩ := hrel
  by_cases hlt : lo < hi
  ·obtain ⟨m, hm⟩ : ∃ m : Nat, m = (lo + hi) / 2 := ⟨_, rfl⟩
   have hmi : ((lo : Int) + hi) / 2 = m := by omega
   have hmn : m < nl := by omega
   have hm1 : lo ≤ m := by omega
   have hm2 : m < hi := by omega
   have hmn' : (m : Int) < nl := by omega
   have hm96 : m ≤ 4096 := by omega
   obtain ⟨b, off, rfl, hbb, hc⟩ := ct_at h hmn
   clear hm
   have hls := less_any (w := wr) (a := L.getD m 0) (b := i)
   by_cases hxi : L.getD m 0 < i
   ·rw [decide_eq_true hxi] at hls
    have hlo2 : Hid (∀ j, j < m + 1 → L.getD j 0 < i) := by
     refine (?_ : ∀ j, j < m + 1 → L.getD j 0 < i)
     intro j hj
     rcases Nat.lt_or_ge j m with q | q
     ·have := hsH.out j m q hmn; omega
     ·obtain rfl : j = m := by omega
      exact hxi
    generalize L.getD m 0 = z at hc hls
    go_wp2_with (first
     | (with_reducible refine wpList_bin (by kernel_rfl) .shr _ _ _ _ rfl _ _ rfl rfl (shr_one _ _ _ _ hmi) ?_)
     | (with_reducible refine wpList_conv (by kernel_rfl) 95 3 _ rfl (.int .u64 (m : Int)) rfl (conv_ui _ hm96) ?_)
     | (with_reducible refine wpList_loadc (by kernel_rfl) _ _ rfl b _ rfl _ hc ga1 ?_)
     | (go_at_call 52; (with_reducible refine hls.mono ?_); rintro e w1 ⟨rfl, rfl⟩))
    go_roundw
    case rel => exact ⟨m + 1, hi, by omega, hhn, by go_num, rfl, hlo2, hhi, trivial⟩
    case measure => simp [intOf]; omega
   ·rw [decide_eq_false hxi] at hls
    have hhi2 : Hid (∀ j, m ≤ j → j < nl → i ≤ L.getD j 0) := by
     refine (?_ : ∀ j, m ≤ j → j < nl → i ≤ L.getD j 0)
     intro j hj hjn
     rcases Nat.lt_or_ge m j with q | q
     ·have := hsH.out m j q hjn; omega
     ·obtain rfl : j = m := by omega
      omega
    generalize L.getD m 0 = z at hc hls
    go_wp2_with (first
     | (with_reducible refine wpList_bin (by kernel_rfl) .shr _ _ _ _ rfl _ _ rfl rfl (shr_one _ _ _ _ hmi) ?_)
     | (with_reducible refine wpList_conv (by kernel_rfl) 95 3 _ rfl (.int .u64 (m : Int)) rfl (conv_ui _ hm96) ?_)
     | (with_reducible refine wpList_loadc (by kernel_rfl) _ _ rfl b _ rfl _ hc ga1 ?_)
     | (go_at_call 52; (with_reducible refine hls.mono ?_); rintro e w1 ⟨rfl, rfl⟩))
    go_roundw
    case rel => exact ⟨lo, m, by omega, by omega, rfl, rfl, hlo, hhi2, trivial⟩
    case measure => simp [intOf]; omega
  ·obtain rfl : lo = hi := by omega
   have hke : Hid (ahW L i = lo) := ahW_of (by rw [hn.out]; exact hhn) hlo.out (fun j h1 h2 => hhi.out j h1 (by rw [← hn.out]; exact h2))
   have hin : i ∈ L → ∃ j, j < nl ∧ L.getD j 0 = i := fun q => by
    obtain ⟨j, hj, e⟩ := List.getElem_of_mem q
    exact ⟨j, by rw [← hn.out]; exact hj, by rw [List.getD_eq_getElem?_getD, List.getElem?_eq_getElem hj]; exact e⟩
   by_cases hln : lo < nl
   ·obtain ⟨b, off, rfl, hbb, hc⟩ := ct_at h hln
    have hln' : (lo : Int) < nl := by omega
    have hyes : L.getD lo 0 = i → decide (i ∈ L) = true := fun e => by
     refine decide_eq_true ?_
     rw [← e, List.getD_eq_getElem?_getD, List.getElem?_eq_getElem (by rw [hn.out]; exact hln)]
     exact List.getElem_mem _
    have hnot : L.getD lo 0 ≠ i → decide (i ∈ L) = false := fun e => decide_eq_false fun q => by
     obtain ⟨j, hj, ej⟩ := hin q
     have h1 := hhi.out lo (Nat.le_refl _) hln
     rcases Nat.lt_trichotomy j lo with r | r | r
     ·have := hlo.out j r; omega
     ·subst r; exact e ej
     ·have := hsH.out lo j r hj; omega
    clear hin
    generalize L.getD lo 0 = z at hc hyes hnot
    by_cases hxi : z = i
    ·have hd : Hid (decide (i ∈ L) = true) := hyes hxi
     clear hyes hnot
     subst hxi
     go_wp2_with (first
      | (with_reducible refine wpList_loadc (by with_unfolding_all rfl) _ _ rfl b _ rfl _ hc ga1 ?_)
      | (go_at_call 53; refine sNaN_any.mono ?_; rintro e w1 ⟨rfl, rfl⟩))
     go_ret2
     rw [hke.out, hd.out]
     exact ⟨rfl, rfl⟩
    ·have hxb : (z == i) = false := by simpa using hxi
     have hd : Hid (decide (i ∈ L) = false) := hnot hxi
     clear hyes hnot
     go_wp2_with (first
      | (with_reducible refine wpList_loadc (by with_unfolding_all rfl) _ _ rfl b _ rfl _ hc ga1 ?_)
      | (go_at_call 53; refine sNaN_any.mono ?_; rintro e w1 ⟨rfl, rfl⟩))
     go_ret2
     rw [hke.out, hd.out]
     exact ⟨rfl, rfl⟩
   ·have hln' : ¬ (lo : Int) < nl := by omega
    have hno : Hid (decide (i ∈ L) = false) := decide_eq_false fun q => by
     obtain ⟨j, hj, ej⟩ := hin q
     have := hlo.out j (by omega)
     omega
    clear hin
    go_wp2
    go_ret2
    exact ⟨by rw [hke.out, hno.out]; rfl, rfl⟩
end Go.Proofs.Ytobcdaaghdljbaa
namespace Go.Proofs.Ytobcdaaghdljbaa
set_option maxRecDepth 100000
set_option maxHeartbeats 8000000
open Go.RowKit Go.Shelf
set_option linter.unusedVariables false
attribute [local go_sem] Oper.semAt_some

abbrev ObsN (w : World) (D0 : Nat → Prop) (w' : World) (ao : Option Addr) (n cap : Nat) (X : List Ob) : Prop := ObsD (New w w') (fun b => D0 b ∨ New w w' b) w' ao n cap X
theorem ObsN.low {w W w' : World} {D0 : Nat → Prop} {ao : Option Addr} {n cap : Nat} {X : List Ob} (h : ObsN W D0 w' ao n cap X) (k : w.heap.size ≤ W.heap.size) : ObsN w D0 w' ao n cap X :=
 ObsD.wide h (fun b hb => hb.imp id fun c => ⟨Nat.le_trans k c.1, c.2⟩) (fun b hb => ⟨Nat.le_trans k hb.1, hb.2⟩)
theorem ObsN.next {w w' w'' : World} {D0 : Nat → Prop} {ao : Option Addr} {n cap : Nat} {X : List Ob} (h : ObsN w D0 w' ao n cap X) (hD : ∀ b, D0 b → b < w'.heap.size) (k : Below w'.heap.size w' w'') : ObsN w D0 w'' ao n cap X := by
 have h1 := ObsD.laterK h (w' := w'') (fun b hb => k.block b (by rcases hb with c | c; exact hD b c; exact c.2)) (fun b hb => k.block b hb.2)
 exact h1.wide (fun b hb => hb.imp id fun c => ⟨c.1, Nat.lt_of_lt_of_le c.2 k.size⟩) (fun b hb => ⟨hb.1, Nat.lt_of_lt_of_le hb.2 k.size⟩)
end Go.Proofs.Ytobcdaaghdljbaa
namespace Go.Proofs.Ytobcdaaghdljbaa
set_option maxRecDepth 100000
set_option maxHeartbeats 8000000
open Go.RowKit Go.Shelf
set_option linter.unusedVariables false
attribute [local go_sem] Oper.semAt_some

structure Lays (X : List Ob) : Prop where
 srt : Srt X
 sms : Smalls X
 nul : fnd X 0 = none
 quo : ∀ x ∈ X, 0 ≤ x.quota ∧ x.quota ≤ 4096
 lab : ∀ x ∈ X, x.label.length < 1048576
 ris : ∀ x ∈ X, x.links.Pairwise (· < ·) ∧ x.links.length ≤ 4000
theorem Lays.at {X : List Ob} (h : Lays X) (i : Int) : Small (fO X i) ∧ (0 ≤ (fO X i).quota ∧ (fO X i).quota ≤ 4096) ∧ (fO X i).label.length < 1048576 ∧ ((fO X i).links.Pairwise (· < ·) ∧ (fO X i).links.length ≤ 4000) := by
 unfold fO
 cases hf : fnd X i with
 | none => exact ⟨⟨by decide, by decide, by decide, by decide, by decide, by decide, by decide, by decide, by decide, by decide, by decide, by decide, by decide, by decide⟩, by decide, by decide, List.Pairwise.nil, by decide⟩
 | some x => exact ⟨h.sms x (fnd_id hf).2, h.quo x (fnd_id hf).2, h.lab x (fnd_id hf).2, h.ris x (fnd_id hf).2⟩
end Go.Proofs.Ytobcdaaghdljbaa
namespace Go.Proofs.Ytobcdaaghdljbaa
set_option maxRecDepth 100000
set_option maxHeartbeats 8000000
open Go.RowKit Go.Shelf
set_option linter.unusedVariables false
attribute [local go_sem] Oper.semAt_some

def useV (X : List Ob) (o : Ob) : Int := pagO o + (o.links.map (qOf X)).sum
end Go.Proofs.Ytobcdaaghdljbaa
