/-
 PROVED HERE: what package obj's without and the document's alone's first part return when they are called (contracts over t. What is asked stands at each.
-/
import Derived.ChangeKeysEq
import Derived.Laws.StructEq
import Derived.Deep.DeepCutAuto
import Derived.Test.YtiiaohejldchdaaGreatZ13
namespace Go.Proofs.YtiiaohejldchdaaGreat
set_option maxRecDepth 100000
set_option maxHeartbeats 8000000
open Go.RowKit Go.Shelf
set_option linter.unusedVariables false
attribute [local go_sem] Oper.semAt_some

theorem size36 : (Tryz.prog.info? 39).map (·.size) = some 35 := by kernel_rfl
theorem size38 : (Tryz.prog.info? 41).map (·.size) = some 6 := by kernel_rfl
theorem size25 : (Tryz.prog.info? 28).map (·.size) = some 1 := by kernel_rfl
theorem size26 : (Tryz.prog.info? 29).map (·.size) = some 1 := by kernel_rfl
theorem size24 : (Tryz.prog.info? 27).map (·.size) = some 1 := by kernel_rfl
theorem app3_get {A T E : Array Value} {o n i : Nat} (ha : A.size = o) (ht : T.size = n) : (A ++ T ++ E)[i]? = if i < o then A[i]? else if i < o + n then T[i - o]? else E[i - (o + n)]? := by
 rw [Array.getElem?_append, Array.getElem?_append]
 have : (A ++ T).size = o + n := by simp [ha, ht]
 rw [this, ha]
 by_cases h1 : i < o
 ·rw [if_pos (by omega), if_pos h1, if_pos h1]
 ·by_cases h2 : i < o + n
  ·rw [if_pos h2, if_neg h1, if_neg h1, if_pos h2]
  ·rw [if_neg h2, if_neg h1, if_neg h2]
theorem one_app {A T : Array Value} (h : A.all (·.oneCell') = true) (k : T.all (·.oneCell') = true) : (A ++ T).all (·.oneCell') = true := by
 refine all_ext fun j v e => ?_
 rw [Array.getElem?_append] at e
 split at e
 ·exact all_get h e
 ·exact all_get k e
section
variable {D : Nat → Prop} {w : World} {C T G : Array Value} {x : Ob}
theorem part_get {n o i : Nat} (hs : C.size = 51) (hT : T.size = n) (ho : o + n ≤ 51) : (C.extract 0 o ++ T ++ C.extract (o + T.size) C.size)[i]? = if i < o then C[i]? else if i < o + n then T[i - o]? else C[i]? := by
 rw [app3_get (o := o) (n := n) (by simp; omega) hT]
 by_cases h1 : i < o
 ·rw [if_pos h1, if_pos h1, Array.getElem?_extract, if_pos (by omega), Nat.zero_add]
 ·rw [if_neg h1, if_neg h1]
  by_cases h2 : i < o + n
  ·rw [if_pos h2, if_pos h2]
  ·rw [if_neg h2, if_neg h2, Array.getElem?_extract, hT]
   by_cases h3 : i < 51
   ·rw [if_pos (by omega), show o + n + (i - (o + n)) = i by omega]
   ·rw [if_neg (by omega)]; simp; omega

theorem ObD.setT {t : Th} (h : ObD D w C x) (k : ThD D w T t) : ObD D w (C.extract 0 8 ++ T ++ C.extract (8 + T.size) C.size) { x with th := t } := by
 have e : ∀ i, (C.extract 0 8 ++ T ++ C.extract (8 + T.size) C.size)[i]? = if i < 8 then C[i]? else if i < 8 + 35 then T[i - 8]? else C[i]? := fun i => part_get h.size k.size (by omega)
 exact ⟨by simp [h.size, k.size], one_app (one_app (ext_one h.one) k.one) (ext_one h.one), by rw [e, if_pos (by omega)]; exact h.id, by rw [e, if_pos (by omega)]; exact h.kind, by rw [e, if_pos (by omega)]; exact h.label, by rw [e, if_pos (by omega)]; exact h.quota, by rw [e, if_pos (by omega)]; exact h.fixed, by rw [e, if_pos (by omega)]; exact h.links, by rw [e, if_pos (by omega)]; exact h.data, by rw [e, if_pos (by omega)]; exact h.maps, k.f.congr fun i hi => by rw [e, if_neg (by omega), if_pos (by omega), show 8 + i - 8 = i by omega], h.gt.congr fun i hi => by rw [e, if_neg (by omega), if_neg (by omega)], by rw [e, if_neg (by omega), if_neg (by omega)]; exact h.inn, by rw [e, if_neg (by omega), if_neg (by omega)]; exact h.out⟩
theorem ObD.setG {t : Gt} (h : ObD D w C x) (k : GtD D w T t) : ObD D w (C.extract 0 43 ++ T ++ C.extract (43 + T.size) C.size) { x with gt := t } := by
 have e : ∀ i, (C.extract 0 43 ++ T ++ C.extract (43 + T.size) C.size)[i]? = if i < 43 then C[i]? else if i < 43 + 6 then T[i - 43]? else C[i]? := fun i => part_get h.size k.size (by omega)
 exact ⟨by simp [h.size, k.size], one_app (one_app (ext_one h.one) k.one) (ext_one h.one), by rw [e, if_pos (by omega)]; exact h.id, by rw [e, if_pos (by omega)]; exact h.kind, by rw [e, if_pos (by omega)]; exact h.label, by rw [e, if_pos (by omega)]; exact h.quota, by rw [e, if_pos (by omega)]; exact h.fixed, by rw [e, if_pos (by omega)]; exact h.links, by rw [e, if_pos (by omega)]; exact h.data, by rw [e, if_pos (by omega)]; exact h.maps, h.th.congr fun i hi => by rw [e, if_pos (by omega)], k.f.congr fun i hi => by rw [e, if_neg (by omega), if_pos (by omega), show 43 + i - 43 = i by omega], by rw [e, if_neg (by omega), if_neg (by omega)]; exact h.inn, by rw [e, if_neg (by omega), if_neg (by omega)]; exact h.out⟩
end
theorem alo1 {x : Ob} (h : x.kind = 1) : aloO x = { comO x with data := x.data } := by unfold aloO; rw [if_pos h]; rfl
theorem wit2 {x : Ob} (h : x.kind = 2) : witO x = { x with links := [] } := by unfold witO; rw [if_neg (by omega), if_pos h]
theorem alo2 {x : Ob} (h : x.kind = 2) : aloO x = { comO x with links := x.links } := by unfold aloO; rw [if_neg (by omega), if_pos h]; rfl
theorem wit3 {x : Ob} (h : x.kind = 3) : witO x = { x with maps := [] } := by unfold witO; rw [if_neg (by omega), if_neg (by omega), if_pos h]
theorem alo3 {x : Ob} (h : x.kind = 3) : aloO x = { comO x with maps := x.maps } := by unfold aloO; rw [if_neg (by omega), if_neg (by omega), if_pos h]; rfl
theorem wit4 {x : Ob} (h : x.kind = 4) : witO x = { x with th := zTh } := by unfold witO; rw [if_neg (by omega), if_neg (by omega), if_neg (by omega), if_pos h]
theorem alo4 {x : Ob} (h : x.kind = 4) : aloO x = { comO x with th := x.th } := by unfold aloO; rw [if_neg (by omega), if_neg (by omega), if_neg (by omega), if_pos h]; rfl
theorem wit5 {x : Ob} (h : x.kind = 5) : witO x = { x with gt := zGt } := by unfold witO; rw [if_neg (by omega), if_neg (by omega), if_neg (by omega), if_neg (by omega), if_pos h]
theorem alo5 {x : Ob} (h : x.kind = 5) : aloO x = { comO x with gt := x.gt } := by unfold aloO; rw [if_neg (by omega), if_neg (by omega), if_neg (by omega), if_neg (by omega), if_pos h]; rfl
theorem wit6 {x : Ob} (h : x.kind = 6) : witO x = { x with inn := [], out := [] } := by unfold witO; rw [if_neg (by omega), if_neg (by omega), if_neg (by omega), if_neg (by omega), if_neg (by omega), if_pos h]
theorem alo6 {x : Ob} (h : x.kind = 6) : aloO x = { comO x with inn := x.inn, out := x.out } := by unfold aloO; rw [if_neg (by omega), if_neg (by omega), if_neg (by omega), if_neg (by omega), if_neg (by omega), if_pos h]; rfl
theorem wit7 {x : Ob} (h : ¬ (1 ≤ x.kind ∧ x.kind ≤ 6)) : witO x = x := by unfold witO; rw [if_neg (by omega), if_neg (by omega), if_neg (by omega), if_neg (by omega), if_neg (by omega), if_neg (by omega)]
theorem alo7 {x : Ob} (h : ¬ (1 ≤ x.kind ∧ x.kind ≤ 6)) : aloO x = comO x := by unfold aloO; rw [if_neg (by omega), if_neg (by omega), if_neg (by omega), if_neg (by omega), if_neg (by omega), if_neg (by omega)]
end Go.Proofs.YtiiaohejldchdaaGreat
namespace Go.Proofs.YtiiaohejldchdaaGreat
set_option maxRecDepth 100000
set_option maxHeartbeats 8000000
open Go.RowKit Go.Shelf
set_option linter.unusedVariables false
attribute [local go_sem] Oper.semAt_some

section
variable {P : Program} {ops : Array Oper} {rest : List Oper} {op : Oper} {a : Act} {Q : Exit → Act → World → Prop} {w : World}
theorem wpList_wanted (hw : Region.wanted op (yielded ops a.tmps) = true) (h : op.wp P a w (wpList P ops Q rest) Q) : wpList P ops Q (op :: rest) a w := by
 unfold wpList
 rw [if_pos hw]
 exact .inl h
theorem wpList_unwanted (hw : Region.wanted op (yielded ops a.tmps) = false) (h : wpList P ops Q rest (a.put op.dst undef) w) : wpList P ops Q (op :: rest) a w := by
 unfold wpList
 rw [if_neg (by rw [hw]; exact Bool.false_ne_true)]
 exact h
theorem wpList_val {v : Value} (hw : Region.wanted op (yielded ops a.tmps) = true) (hr : (execOp a.eval op).run P w = .ok (.value v) w) (h : wpList P ops Q rest (a.put op.dst v) w) : wpList P ops Q (op :: rest) a w :=
 wpList_wanted hw (by unfold Oper.wp; rw [hr]; exact h)
theorem wpList_test {X : Prop} (hw : Region.wanted op (yielded ops a.tmps) = true) (f : BinOp) (t t' : TypeId) (x y : Operand) (ho : op.op = .binOp f t x y t') (u v : Value) (hx : a.eval x = u) (hy : a.eval y = v)
  (hr : ∃ b : Bool, (do eqGuard f t x y u v; binOp f t u v).run P w = .ok (.bool b) w ∧ (b = true ↔ X))
  (h : Hid X → wpList P ops Q rest (a.put op.dst (.bool true)) w) (h' : Hid (¬ X) → wpList P ops Q rest (a.put op.dst (.bool false)) w) : wpList P ops Q (op :: rest) a w := by
 obtain ⟨b, hr, hb⟩ := hr
 refine wpList_val hw (by unfold execOp; simp only [ho, hx, hy]; rw [Sem.run_bind, hr]; rfl) ?_
 cases b with
 | true => exact h (hb.1 rfl)
 | false => exact h' fun x => absurd (hb.2 x) Bool.false_ne_true
theorem wpList_loadp (hw : Region.wanted op (yielded ops a.tmps) = true) (ty : TypeId) (x : Operand) (ho : op.op = .load ty x) (B o : Nat) (hx : a.eval x = .pointer (some ⟨B, o, none⟩)) (n : Nat) (C : Array Value) (t : TypeId) (hB : Blk w B C t) (V : Array Value) (hV : C.extract o (o + n) = V) (hs : o + n ≤ C.size) (d : TypeDesc)
  (hu : P.underlying ty = some d) (hd : d.isRow = true) (hi : (P.info? ty).map (·.size) = some n) (h : wpList P ops Q rest (a.put op.dst (.agg V)) w) : wpList P ops Q (op :: rest) a w := by
 subst hV
 refine wpList_val hw ?_ h
 unfold execOp
 simp only [ho, hx, Sem.run_bind, run_loadAt_mid w B o ty (C.extract o (o + n)).toList d (hB.range o n) hu hd (by rw [hi]; simp; omega), Result.andThen_ok, Array.toArray_toList]
 rfl
theorem wpList_load1 (hw : Region.wanted op (yielded ops a.tmps) = true) (ty : TypeId) (x : Operand) (ho : op.op = .load ty x) (B o : Nat) (hx : a.eval x = .pointer (some ⟨B, o, none⟩)) (C : Array Value) (t : TypeId) (hB : Blk w B C t) (v : Value) (hv : C[o]? = some v)
  (hg : ∀ w, (isAgg ty).run P w = .ok false w) (h : wpList P ops Q rest (a.put op.dst v) w) : wpList P ops Q (op :: rest) a w := by
 refine wpList_val hw ?_ h
 have hc : w.cell? ⟨B, o, none⟩ = some v := (hB.cell o).trans hv
 unfold execOp
 simp [ho, hx, Instr.loadAt, Instr.sureAddr, loadVar, hg, hc]
end
section
variable {w : World}
theorem eqg_int (t : TypeId) (x y : Operand) (k : IntKind) (m n : Int) : ∃ b : Bool, (do eqGuard .eql t x y (.int k m) (.int k n); binOp .eql t (.int k m) (.int k n)).run Tryz.prog w = .ok (.bool b) w ∧ (b = true ↔ m = n) :=
 ⟨m == n, by simp [eqGuard, binOp, Op.intCmp], by simp⟩
theorem neg_int (t : TypeId) (x y : Operand) (k : IntKind) (m n : Int) : ∃ b : Bool, (do eqGuard .neq t x y (.int k m) (.int k n); binOp .neq t (.int k m) (.int k n)).run Tryz.prog w = .ok (.bool b) w ∧ (b = true ↔ ¬ m = n) :=
 ⟨m != n, by simp [eqGuard, binOp, Op.intCmp], by simp⟩
theorem neg_bool (x y : Operand) (m n : Bool) : ∃ b : Bool, (do eqGuard .neq 4 x y (.bool m) (.bool n); binOp .neq 4 (.bool m) (.bool n)).run Tryz.prog w = .ok (.bool b) w ∧ (b = true ↔ ¬ m = n) :=
 ⟨m != n, by simp [eqGuard, binOp, Op.equal, show Op.maxDepth = 9999 + 1 from rfl, run_equalIn_bool' w 9999 4 m n Tryz.underlying4]; cases m <;> cases n <;> rfl, by simp⟩
theorem eqg_agg {f : BinOp} {t : TypeId} (ht : Tryz.prog.eqGuardType Tryz.prog.depth t = false) (x y : Operand) (u v : Array Value) {b : Bool} (h : (binOp f t (.agg u) (.agg v)).run Tryz.prog w = .ok (.bool b) w) : (do eqGuard f t x y (.agg u) (.agg v); binOp f t (.agg u) (.agg v)).run Tryz.prog w = .ok (.bool b) w := by
 rw [Sem.run_bind, run_eqGuard_agg w f t x y u v ht]
 exact h
theorem eqg_ref (x y : Operand) (a b c d : Int) : ∃ q : Bool, (do eqGuard .eql 32 x y (.agg #[.int .u64 a, .int .u64 b]) (.agg #[.int .u64 c, .int .u64 d]); binOp .eql 32 (.agg #[.int .u64 a, .int .u64 b]) (.agg #[.int .u64 c, .int .u64 d])).run Tryz.prog w = .ok (.bool q) w ∧ (q = true ↔ (a = c ∧ b = d)) := by
 refine ⟨a == c && b == d, eqg_agg Tryz.eqGuardType32 x y _ _ ?_, by simp⟩
 by_cases h1 : a = c <;> by_cases h2 : b = d <;> simp [go_sem, h1, h2]
theorem eqg_span (x y : Operand) (a b c d : Int) : ∃ q : Bool, (do eqGuard .eql 36 x y (.agg #[.int .u64 a, .int .u64 b]) (.agg #[.int .u64 c, .int .u64 d]); binOp .eql 36 (.agg #[.int .u64 a, .int .u64 b]) (.agg #[.int .u64 c, .int .u64 d])).run Tryz.prog w = .ok (.bool q) w ∧ (q = true ↔ (a = c ∧ b = d)) := by
 refine ⟨a == c && b == d, eqg_agg Tryz.eqGuardType36 x y _ _ ?_, by simp⟩
 by_cases h1 : a = c <;> by_cases h2 : b = d <;> simp [go_sem, h1, h2]
theorem run_wait (f : BinOp) (hf : f = .eql ∨ f = .neq) (a1 a2 a3 a4 b1 b2 b3 b4 : Int) (a5 b5 : Bool) : ∃ q : Bool, (binOp f 34 (.agg #[.int .u64 a1, .int .u64 a2, .int .u64 a3, .int .u64 a4, .bool a5]) (.agg #[.int .u64 b1, .int .u64 b2, .int .u64 b3, .int .u64 b4, .bool b5])).run Tryz.prog w = .ok (.bool (if f = .eql then q else !q)) w ∧ (q = true ↔ (a1 = b1 ∧ a2 = b2 ∧ a3 = b3 ∧ a4 = b4 ∧ a5 = b5)) := by
 refine ⟨a1 == b1 && (a2 == b2 && (a3 == b3 && (a4 == b4 && a5 == b5))), ?_, by simp⟩
 rcases hf with rfl | rfl <;> (by_cases h1 : a1 = b1 <;> by_cases h2 : a2 = b2 <;> by_cases h3 : a3 = b3 <;> by_cases h4 : a4 = b4 <;> first | (simp [go_sem, h1, h2, h3, h4]; done) | (cases a5 <;> cases b5 <;> simp [go_sem, h1, h2, h3, h4]))
theorem eqg_wait (x y : Operand) (a1 a2 a3 a4 b1 b2 b3 b4 : Int) (a5 b5 : Bool) : ∃ q : Bool, (do eqGuard .eql 34 x y (.agg #[.int .u64 a1, .int .u64 a2, .int .u64 a3, .int .u64 a4, .bool a5]) (.agg #[.int .u64 b1, .int .u64 b2, .int .u64 b3, .int .u64 b4, .bool b5]); binOp .eql 34 (.agg #[.int .u64 a1, .int .u64 a2, .int .u64 a3, .int .u64 a4, .bool a5]) (.agg #[.int .u64 b1, .int .u64 b2, .int .u64 b3, .int .u64 b4, .bool b5])).run Tryz.prog w = .ok (.bool q) w ∧ (q = true ↔ (a1 = b1 ∧ a2 = b2 ∧ a3 = b3 ∧ a4 = b4 ∧ a5 = b5)) := by
 obtain ⟨q, h1, h2⟩ := run_wait (w := w) .eql (.inl rfl) a1 a2 a3 a4 b1 b2 b3 b4 a5 b5
 exact ⟨q, eqg_agg Tryz.eqGuardType34 x y _ _ h1, h2⟩
theorem neg_wait (x y : Operand) (a1 a2 a3 a4 b1 b2 b3 b4 : Int) (a5 b5 : Bool) : ∃ q : Bool, (do eqGuard .neq 34 x y (.agg #[.int .u64 a1, .int .u64 a2, .int .u64 a3, .int .u64 a4, .bool a5]) (.agg #[.int .u64 b1, .int .u64 b2, .int .u64 b3, .int .u64 b4, .bool b5]); binOp .neq 34 (.agg #[.int .u64 a1, .int .u64 a2, .int .u64 a3, .int .u64 a4, .bool a5]) (.agg #[.int .u64 b1, .int .u64 b2, .int .u64 b3, .int .u64 b4, .bool b5])).run Tryz.prog w = .ok (.bool q) w ∧ (q = true ↔ ¬ (a1 = b1 ∧ a2 = b2 ∧ a3 = b3 ∧ a4 = b4 ∧ a5 = b5)) := by
 obtain ⟨q, h1, h2⟩ := run_wait (w := w) .neq (.inr rfl) a1 a2 a3 a4 b1 b2 b3 b4 a5 b5
 exact ⟨!q, eqg_agg Tryz.eqGuardType34 x y _ _ h1, by rw [← h2]; cases q <;> simp⟩
theorem eqItems_words : ∀ (n : Nat) (d : Nat) (l m : List Int), n ≤ l.length → n ≤ m.length → ∀ (is : List Nat), (∀ i ∈ is, i < n) → (Op.eqItems (d + 1) 22 1 (l.map (Value.int .u64)).toArray (m.map (Value.int .u64)).toArray is).run Tryz.prog w = .ok (is.all fun i => l.getD i 0 == m.getD i 0) w := by
 intro n d l m hl hm is
 induction is with
 | nil => intro _; simp [Op.eqItems]
 | cons i is ih =>
  intro h
  have hi := h i (by simp)
  have p1 : (part 22 (l.map (Value.int .u64)).toArray (i * 1)).run Tryz.prog w = .ok (.int .u64 (l.getD i 0)) w := by
   simp [part, Tryz.isAgg22, List.getD, List.getElem?_eq_getElem (show i < l.length by omega)]
  have p2 : (part 22 (m.map (Value.int .u64)).toArray (i * 1)).run Tryz.prog w = .ok (.int .u64 (m.getD i 0)) w := by
   simp [part, Tryz.isAgg22, List.getD, List.getElem?_eq_getElem (show i < m.length by omega)]
  simp only [Op.eqItems, Sem.run_bind, p1, p2, Result.andThen_ok, run_equalIn_int w d 22 .u64 .u64 _ _ Tryz.underlying22]
  cases hb : (l.getD i 0 == m.getD i 0)
  ·simp only [Bool.not_false, if_true, List.all_cons, hb, Bool.false_and, Sem.run_pure]
  ·simp only [Bool.not_true, Bool.false_eq_true, if_false, List.all_cons, hb, Bool.true_and]
   exact ih fun j hj => h j (by simp [hj])
theorem all_words : ∀ (l m : List Int), l.length = m.length → (((List.range l.length).all fun i => l.getD i 0 == m.getD i 0) = true ↔ l = m)
 | [], [], _ => by simp
 | x :: xs, y :: ys, h => by
  have ih := all_words xs ys (by simpa using h)
  rw [List.length_cons, List.range_succ_eq_map, List.all_cons, List.all_map]
  simp only [List.getD_cons_zero, Function.comp_def, List.getD_cons_succ, Bool.and_eq_true, ih]
  simp
 | [], _ :: _, h => by simp at h
 | _ :: _, [], h => by simp at h
theorem eqg_regs (x y : Operand) (l m : List Int) (hl : l.length = 16) (hm : m.length = 16) : ∃ q : Bool, (do eqGuard .eql 30 x y (.agg (l.map (Value.int .u64)).toArray) (.agg (m.map (Value.int .u64)).toArray); binOp .eql 30 (.agg (l.map (Value.int .u64)).toArray) (.agg (m.map (Value.int .u64)).toArray)).run Tryz.prog w = .ok (.bool q) w ∧ (q = true ↔ l = m) := by
 refine ⟨(List.range 16).all fun i => l.getD i 0 == m.getD i 0, eqg_agg Tryz.eqGuardType30 x y _ _ ?_, by have := all_words l m (by rw [hl, hm]); rw [hl] at this; exact this⟩
 obtain ⟨i0, hi0⟩ : ∃ i0, Tryz.prog.info? 22 = some i0 := Option.isSome_iff_exists.1 (by kernel_rfl)
 have hcells : Tryz.prog.cellsOf 22 = 1 := by kernel_rfl
 rw [run_eql_struct, show 10000 = 9999 + 1 from rfl, run_equalIn_array w 9999 _ _ Tryz.underlying30 hi0, hcells, show 9999 = 9998 + 1 from rfl, eqItems_words 16 9998 l m (by omega) (by omega) (List.range 16) (fun i hi => List.mem_range.1 hi)]
 rfl
end
end Go.Proofs.YtiiaohejldchdaaGreat
namespace Go.Proofs.YtiiaohejldchdaaGreat
set_option maxRecDepth 100000
set_option maxHeartbeats 8000000
open Go.RowKit Go.Shelf
set_option linter.unusedVariables false
attribute [local go_sem] Oper.semAt_some

def AskP (X : Prop) (W : World) (e : Ending) (w' : World) : Prop := ∃ b : Bool, e = .returned (.bool b) ∧ Hid (b = true ↔ X) ∧ Below W.heap.size W w'
def Asks (f : FuncId) (args : Array Value) (X : Prop) (W : World) : Prop := Calls Tryz.prog f args W (AskP X W)
theorem Asks.on {f : FuncId} {args : Array Value} {X : Prop} {W : World} {R : Ending → World → Prop} (h : Asks f args X W) (k : ∀ w', Hid X → Below W.heap.size W w' → R (.returned (.bool true)) w') (k' : ∀ w', Hid (¬ X) → Below W.heap.size W w' → R (.returned (.bool false)) w') : Calls Tryz.prog f args W R := by
 refine Calls.mono h ?_
 rintro e w' ⟨b, rfl, hb, hk⟩
 cases b with
 | true => exact k w' (hb.out.1 rfl) hk
 | false => exact k' w' (fun x => absurd (hb.out.2 x) Bool.false_ne_true) hk
theorem askP_no {X Y : Prop} {W w' : World} (h : Hid (¬ Y)) (hk : Below W.heap.size W w') (k : X → Y) : AskP X W (.returned (.bool false)) w' := ⟨false, rfl, ⟨fun e => absurd e Bool.false_ne_true, fun e => absurd (k e) h.out⟩, hk⟩
theorem askP_yes {X : Prop} {W w' : World} (k : X) (hk : Below W.heap.size W w') : AskP X W (.returned (.bool true)) w' := ⟨true, rfl, ⟨fun _ => k, fun _ => rfl⟩, hk⟩
theorem size29 : (Tryz.prog.info? 32).map (·.size) = some 2 := by kernel_rfl
theorem size33 : (Tryz.prog.info? 36).map (·.size) = some 2 := by kernel_rfl
theorem size31 : (Tryz.prog.info? 34).map (·.size) = some 5 := by kernel_rfl
theorem size27 : (Tryz.prog.info? 30).map (·.size) = some 16 := by kernel_rfl
section
variable {w0 W : World} {ao ao' : Option Addr} {n n' cap cap' : Nat}
theorem LabD.lab' {L : Lb} (h : LabD (LtN w0) w0 ao n cap L) (k : Below w0.heap.size w0 W) : Lab W.heap.size W ao n cap L := (h.laterK fun b hb => k.block b hb).wide fun b hb => Nat.lt_of_lt_of_le hb k.size
theorem CtD.ct' {L : List Int} (h : CtD (LtN w0) w0 ao n cap L) (k : Below w0.heap.size w0 W) : CtD (LtN W) W ao n cap L := (h.laterK fun b hb => k.block b hb).wide fun b hb => Nat.lt_of_lt_of_le hb k.size
theorem MpD.mp' {L : List PgM.Pg.Mp} (h : MpD (LtN w0) w0 ao n cap L) (k : Below w0.heap.size w0 W) : PgM.Mps W.heap.size W ao n cap L := PgM.MpsD.wide (PgM.MpsD.laterK h fun b hb => k.block b hb) fun b hb => Nat.lt_of_lt_of_le hb k.size
theorem reqL {L L' : Lb} (h : LabD (LtN w0) w0 ao n cap L) (h' : LabD (LtN w0) w0 ao' n' cap' L') (k : Below w0.heap.size w0 W) : Asks 33 #[.slice ao n cap, .slice ao' n' cap'] (L = L') W := by
 refine (rsame_any (h.lab' k) (Nat.le_refl _) (h'.lab' k) (Nat.le_refl _)).mono ?_
 rintro e w' ⟨rfl, hb⟩
 exact ⟨_, rfl, by unfold sameB; exact decide_eq_true_iff, hb⟩
theorem pg_sameB {L M : List PgM.Pg.Mp} : PgM.Pg.sameB L M = true ↔ L = M := by
 constructor
 ·intro h
  unfold PgM.Pg.sameB at h
  rw [Bool.and_eq_true, beq_iff_eq, List.all_eq_true] at h
  obtain ⟨h1, h2⟩ := h
  apply List.ext_getElem h1
  intro i q1 q2
  have := PgM.Pg.eqB_iff.1 (h2 i (List.mem_range.2 q1))
  rwa [PgM.Pg.mat_get q1, PgM.Pg.mat_get q2] at this
 ·rintro rfl; exact PgM.Pg.sameB_refl _
theorem reqM {L L' : List PgM.Pg.Mp} (h : MpD (LtN w0) w0 ao n cap L) (h' : MpD (LtN w0) w0 ao' n' cap' L') (k : Below w0.heap.size w0 W) : Asks 35 #[.slice ao n cap, .slice ao' n' cap'] (L = L') W := by
 refine (PgM.rsame_any (MpD.mp' h k) (MpD.mp' h' k)).mono ?_
 rintro e w' ⟨rfl, hb⟩
 exact ⟨_, rfl, pg_sameB, hb⟩
end
section
variable {D : Nat → Prop} {w : World} {T : Array Value} {t : Th} {g : Gt}
theorem ext2 {C : Array Value} {o : Nat} {u v : Value} (h : C[o]? = some u) (h' : C[o + 1]? = some v) : C.extract o (o + 2) = #[u, v] := by
 have hs : o + 1 < C.size := (Array.getElem?_eq_some_iff.1 h').1
 apply Array.ext_getElem?
 intro i
 rcases i with _ | _ | i
 ·rw [ext_get (n := 2) (by omega) (by omega)]; exact h
 ·rw [ext_get (n := 2) (by omega) (by omega)]; exact h'
 ·rw [Array.getElem?_extract, if_neg (by omega)]; simp
end
end Go.Proofs.YtiiaohejldchdaaGreat
namespace Go.Proofs.YtiiaohejldchdaaGreat
set_option maxRecDepth 100000
set_option maxHeartbeats 8000000
open Go.RowKit Go.Shelf
set_option linter.unusedVariables false
attribute [local go_sem] Oper.semAt_some

theorem CtD.at {D : Nat → Prop} {w : World} {ao : Option Addr} {n cap : Nat} {L : List Int} (h : CtD D w ao n cap L) {i : Nat} (hi : i < n) : ∃ (b off : Nat) (x : Int), ao = some ⟨b, off, none⟩ ∧ D b ∧ Hid (L.getD i 0 = x) ∧ w.cell? ⟨b, off + i, none⟩ = some (.int .u64 x) := by
 obtain ⟨b, off, e, hb, hc⟩ := h.2.2.2 (by omega)
 exact ⟨b, off, _, e, hb, rfl, hc i hi⟩
theorem eqw_succ {p q : Nat → Int} {k : Nat} (h : ∀ i, i < k → p i = q i) (hk : p k = q k) : ∀ i, i < k + 1 → p i = q i := fun i hi => by
 rcases Nat.lt_or_ge i k with h' | h'
 ·exact h i h'
 ·have : i = k := by omega
  rw [this]; exact hk
theorem words_ext {L M : List Int} (h : L.length = M.length) (k : ∀ i, i < L.length → L.getD i 0 = M.getD i 0) : L = M := by
 apply List.ext_getElem h
 intro i h1 h2
 have := k i h1
 simpa [List.getD_eq_getElem?_getD, List.getElem?_eq_getElem h1, List.getElem?_eq_getElem h2] using this
theorem reqU {w0 w : World} {a a' : Option Addr} {n c n' c' : Nat} {L M : List Int} (h0 : CtD (LtN w0) w0 a n c L) (h0' : CtD (LtN w0) w0 a' n' c' M) (k : Below w0.heap.size w0 w) :
  Asks 34 #[.slice a n c, .slice a' n' c'] (L = M) w := by
 have h := h0.ct' k
 have h' := h0'.ct' k
 clear h0 h0' k
 have hn : Hid (L.length = n) := h.1
 have hn' : Hid (M.length = n') := h'.1
 have hnc := h.2.1
 have hcm := h.2.2.1.1
 have hnc' := h'.2.1
 have hcm' := h'.2.2.1.1
 unfold Asks
 by_cases hnn : n = n'
 ·subst hnn
  go_enter Tryz.func34, Tryz.ntmps34
  go_wp2
  go_loopw [5] (fun i wr => ∃ k : Nat, k ≤ n ∧ i = .int .i64 k ∧ Hid (∀ j, j < k → L.getD j 0 = M.getD j 0) ∧ Below w.heap.size w wr) (fun i _ => n - (intOf i).toNat)
  case atStart => exact ⟨0, Nat.zero_le _, rfl, fun j hj => absurd hj (by omega), Below.refl _ _⟩
  case round =>
   obtain ⟨k, hk, rfl, hal, hb⟩ := hrel
   by_cases hkn : k < n
   ·obtain ⟨b, off, x, rfl, hB, hx, c0⟩ := (h.laterK fun b hb' => hb.block b hb').at hkn
    obtain ⟨b', off', y, rfl, hB', hy, d0⟩ := (h'.laterK fun b hb' => hb.block b hb').at hkn
    have hkn' : (k : Int) < n := by omega
    by_cases hxx : x = y
    ·have hal2 : Hid (∀ j, j < k + 1 → L.getD j 0 = M.getD j 0) := eqw_succ hal.out (by rw [hx.out, hy.out, hxx])
     subst hxx
     go_wp2
     go_quiet (fail)
     go_wp2
     go_roundw
     case rel => exact ⟨k + 1, by omega, by go_num, hal2, PgM.below_drewN hb _⟩
     case measure => simp [intOf]; omega
    ·have hf : Hid (¬ L = M) := by
      refine (?_ : ¬ L = M)
      intro e; apply hxx; rw [← hx.out, ← hy.out, e]
     have hd : (x == y) = false := by rw [beq_eq_false_iff_ne]; exact hxx
     clear hxx
     go_wp2
     go_quiet (fail)
     go_wp2
     go_ret
     exact askP_no hf (PgM.below_drewN hb _) id
   ·obtain rfl : k = n := by omega
    have hf : Hid (L = M) := words_ext (by rw [hn.out, hn'.out]) (fun i hi => hal.out i (by rw [hn.out] at hi; exact hi))
    go_wp2
    go_ret
    exact askP_yes hf.out hb
 ·have hf : Hid (¬ L = M) := by
   refine (?_ : ¬ L = M)
   intro e; apply hnn; rw [← hn.out, ← hn'.out, e]
  have hne : ((n : Int) == (n' : Int)) = false := by simp; omega
  go_enter Tryz.func34, Tryz.ntmps34
  go_wp2
  go_ret
  exact askP_no hf (Below.refl _ _) id
end Go.Proofs.YtiiaohejldchdaaGreat
namespace Go.Proofs.YtiiaohejldchdaaGreat
set_option maxRecDepth 100000
set_option maxHeartbeats 8000000
open Go.RowKit Go.Shelf
set_option linter.unusedVariables false
attribute [local go_sem] Oper.semAt_some

def Four (w : World) (b o : Nat) (R : Nat → Lb) : Prop := b < w.heap.size ∧ ∀ i, i < 4 → LbV (LtN w) w (w.cell? ⟨b, o + i, none⟩) (R i)
theorem Four.next {w w' : World} {b o : Nat} {R : Nat → Lb} (h : Four w b o R) (k : Below w.heap.size w w') : Four w' b o R :=
 ⟨Nat.lt_of_lt_of_le h.1 k.size, fun i hi => by rw [k.cell (p := ⟨b, o + i, none⟩) h.1]; exact (h.2 i hi).next k⟩
def labs (t : Th) : Nat → Lb
 | 0 => t.l0
 | 1 => t.l1
 | 2 => t.l2
 | _ => t.l3
theorem labs_iff {a b : Th} : (∀ i, i < 4 → labs a i = labs b i) ↔ (a.l0 = b.l0 ∧ a.l1 = b.l1 ∧ a.l2 = b.l2 ∧ a.l3 = b.l3) :=
 ⟨fun h => ⟨h 0 (by omega), h 1 (by omega), h 2 (by omega), h 3 (by omega)⟩, fun h i hi => by
  rcases i with _ | _ | _ | _ | i
  ·exact h.1
  ·exact h.2.1
  ·exact h.2.2.1
  ·exact h.2.2.2
  ·omega⟩
theorem ThD.four {w : World} {B : Nat} {T : Array Value} {t : Th} {ty : TypeId} (h : ThD (LtN w) w T t) (hb : Blk w B T ty) : Four w B 31 (labs t) := by
 refine ⟨hb.lt, fun i hi => ?_⟩
 rw [hb.cell]
 rcases i with _ | _ | _ | _ | i
 ·exact h.f.l0
 ·exact h.f.l1
 ·exact h.f.l2
 ·exact h.f.l3
 ·omega
theorem lab_eq {w w' : World} {ao : Option Addr} {n cap : Nat} {L : Lb} (h : LabD (LtN w) w ao n cap L) (k : Below w.heap.size w w') : LabD (LtN w') w' ao n cap L := (h.laterK fun b hb => k.block b hb).wide fun b hb => Nat.lt_of_lt_of_le hb k.size
end Go.Proofs.YtiiaohejldchdaaGreat
namespace Go.Proofs.YtiiaohejldchdaaGreat
set_option maxRecDepth 100000
set_option maxHeartbeats 8000000
open Go.RowKit Go.Shelf
set_option linter.unusedVariables false
attribute [local go_sem] Oper.semAt_some

theorem ext_regs {D : Nat → Prop} {w : World} {T : Array Value} {t : Th} (h : ThD D w T t) : T.extract 0 (0 + 16) = (t.regs.map (Value.int .u64)).toArray := by
 apply Array.ext_getElem?
 intro i
 by_cases hi : i < 16
 ·have hl : i < t.regs.length := by rw [h.f.rlen]; exact hi
  rw [ext_get (by rw [h.size]; omega) hi, Nat.zero_add]
  refine (h.f.regs i hi).trans ?_
  simp [List.getD_eq_getElem?_getD, List.getElem?_eq_getElem hl]
 ·rw [Array.getElem?_extract, if_neg (by omega)]
  exact (Array.getElem?_eq_none (by simp [h.f.rlen]; omega)).symm
theorem ext5 {C : Array Value} {o : Nat} {a b c d e : Value} (h0 : C[o]? = some a) (h1 : C[o + 1]? = some b) (h2 : C[o + 2]? = some c) (h3 : C[o + 3]? = some d) (h4 : C[o + 4]? = some e) : C.extract o (o + 5) = #[a, b, c, d, e] := by
 have hs : o + 4 < C.size := (Array.getElem?_eq_some_iff.1 h4).1
 apply Array.ext_getElem?
 intro i
 rcases i with _ | _ | _ | _ | _ | i
 ·rw [ext_get (n := 5) (by omega) (by omega)]; exact h0
 ·rw [ext_get (n := 5) (by omega) (by omega)]; exact h1
 ·rw [ext_get (n := 5) (by omega) (by omega)]; exact h2
 ·rw [ext_get (n := 5) (by omega) (by omega)]; exact h3
 ·rw [ext_get (n := 5) (by omega) (by omega)]; exact h4
 ·rw [Array.getElem?_extract, if_neg (by omega)]; simp
theorem rsameGate_any {w : World} {G G' : Array Value} {g g' : Gt} (h : GtD (LtN w) w G g) (h' : GtD (LtN w) w G' g') :
  Asks 37 #[.agg G, .agg G'] (g = g') w := by
 have hz := h.size
 have hz' := h'.size
 obtain ⟨a0, n0, k0, c0, l0⟩ := h.f.grant
 obtain ⟨a1, n1, k1, c1, l1⟩ := h.f.clear
 have x2 := ext2 h.f.sc h.f.si
 have c4 := h.f.pc
 have c5 := h.f.arg
 obtain ⟨a0', n0', k0', c0', l0'⟩ := h'.f.grant
 obtain ⟨a1', n1', k1', c1', l1'⟩ := h'.f.clear
 have x2' := ext2 h'.f.sc h'.f.si
 have c4' := h'.f.pc
 have c5' := h'.f.arg
 have ga0 := Tryz.isAgg27
 have ga1 := Tryz.isAgg22
 have ga2 := Tryz.isAgg3
 have ga3 := Tryz.isAgg4
 have ga4 := Tryz.isAgg28
 have ga5 := Tryz.isAgg29
 unfold Asks
 go_enter Tryz.func37, Tryz.ntmps37
 go_wp2_with (first
  | go_skip
  | (with_reducible refine wpList_box rfl _ _ rfl G rfl ?_; intro B W hB hb hk)
  | (with_reducible refine wpList_box rfl _ _ rfl G' rfl ?_; intro B' W' hB' hb' hk'; replace hb := hb.next hk'; replace hk := hk.trans (hk'.mono hk.size); clear hk')
  | (with_reducible refine wpList_load1 (by kernel_rfl) _ _ rfl B _ rfl _ _ hb _ (by assumption) (by assumption) ?_)
  | (with_reducible refine wpList_load1 (by kernel_rfl) _ _ rfl B' _ rfl _ _ hb' _ (by assumption) (by assumption) ?_)
  | (with_reducible refine wpList_loadp (by kernel_rfl) 32 _ rfl B _ rfl 2 _ _ hb _ (by assumption) (by omega) _ Tryz.underlying32 (by kernel_rfl) size29 ?_)
  | (with_reducible refine wpList_loadp (by kernel_rfl) 32 _ rfl B' _ rfl 2 _ _ hb' _ (by assumption) (by omega) _ Tryz.underlying32 (by kernel_rfl) size29 ?_)
  | ((with_reducible refine wpList_test (by kernel_rfl) .eql _ _ _ _ rfl _ _ rfl rfl (eqg_int _ _ _ _ _ _) ?_ ?_) <;> intro hq)
  | ((with_reducible refine wpList_test (by kernel_rfl) .eql _ _ _ _ rfl _ _ rfl rfl (eqg_ref _ _ _ _ _ _) ?_ ?_) <;> intro hq)
  | (go_at_call 33; (with_reducible refine (reqL (by assumption) (by assumption) hk).on ?_ ?_) <;> (intro w1 hq hb1; replace hb := hb.next hb1; replace hb' := hb'.next hb1; replace hk := hk.trans (hb1.mono hk.size); clear hb1)))
 all_goals go_ret
 all_goals first
  | (refine askP_no (by assumption) hk ?_; intro e; rw [e]; done)
  | (refine askP_no (by assumption) hk ?_; intro e; rw [e]; exact ⟨rfl, rfl⟩)
  | (refine askP_no (by assumption) hk ?_; intro e; rw [e]; exact ⟨rfl, rfl, rfl, rfl, rfl⟩)
  | (refine askP_no (by assumption) hk ?_; intro e; rw [e]; exact fun _ _ => rfl)
  | (refine askP_yes ?_ hk; exact gt_iff.1 ⟨Hid.out (by assumption), Hid.out (by assumption), Hid.out (by assumption), Hid.out (by assumption), Hid.out (by assumption)⟩)
  | fail
end Go.Proofs.YtiiaohejldchdaaGreat
