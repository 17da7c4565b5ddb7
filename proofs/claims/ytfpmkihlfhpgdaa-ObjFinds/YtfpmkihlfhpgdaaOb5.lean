/-
  PROVED HERE: operations of a region's list as one step each (a test whose answer is a letter, a part of a block read, a tail in which nothing more is asked), and equality of words, rows of words and small structs. No condition.
-/
import Derived.Test.YtfpmkihlfhpgdaaOb4
import Derived.ChangeKeysEq
import Derived.Laws.StructEq
namespace Go.Proofs.Ytfpmkihlfhpgdaa
open Go.RowKit Go.Shelf
set_option linter.unusedVariables false
attribute [local go_sem] Oper.semAt_some

/-- What is left of a region's operations when nothing more is asked. -/
def skp (ops : Array Oper) : List Oper → Act → Option Act
  | [], a => some a
  | o :: r, a =>
    if Region.wanted o (yielded ops a.tmps) then
      match o.op with
      | .move x => skp ops r (a.put o.dst (a.eval x))
      | .assign x => skp ops r (a.put o.dst (a.eval x))
      | .pick c x y =>
        match a.eval c with
        | .bool true => skp ops r (a.put o.dst (a.eval x))
        | .bool false => skp ops r (a.put o.dst (a.eval y))
        | _ => none
      | _ => none
    else skp ops r (a.put o.dst undef)
section
variable {P : Program} {ops : Array Oper} {rest : List Oper} {op : Oper} {a : Act} {Q : Exit → Act → World → Prop} {w : World}
theorem wpList_wanted (hw : Region.wanted op (yielded ops a.tmps) = true) (h : op.wp P a w (wpList P ops Q rest) Q) : wpList P ops Q (op :: rest) a w := by
  unfold wpList
  rw [if_pos hw]
  exact .inl h
theorem wpList_unwanted (hw : Region.wanted op (yielded ops a.tmps) = false) (h : wpList P ops Q rest (a.put op.dst undef) w) : wpList P ops Q (op :: rest) a w := by
  unfold wpList
  rw [if_neg (by rw [hw]; exact Bool.false_ne_true)]
  exact h
theorem wpList_val {v : Value} (hw : Region.wanted op (yielded ops a.tmps) = true) (hr : (execOp a.eval op).run P w = .ok (.value v) w) (h : wpList P ops Q rest (a.put op.dst v) w) : wpList P ops Q (op :: rest) a w :=
  wpList_wanted hw (by unfold Oper.wp; rw [hr]; exact h)
theorem wpList_tail : ∀ (rest : List Oper) (a : Act) {a' : Act}, skp ops rest a = some a' → Q .normal a' w → wpList P ops Q rest a w
  | [], a, a', h, q => by cases h; exact q
  | o :: r, a, a', h, q => by
    unfold skp at h
    by_cases hw : Region.wanted o (yielded ops a.tmps) = true
    · rw [if_pos hw] at h
      cases ho : o.op <;> rw [ho] at h <;> try (cases h)
      · exact wpList_val hw (by unfold execOp; simp [ho]) (wpList_tail r _ h q)
      · exact wpList_val hw (by unfold execOp; simp [ho]) (wpList_tail r _ h q)
      · rename_i c x y
        cases hc : a.eval c <;> simp only [hc] at h <;> try (cases h)
        rename_i b
        cases b
        · exact wpList_val hw (by unfold execOp; simp [ho, hc, asBool]) (wpList_tail r _ h q)
        · exact wpList_val hw (by unfold execOp; simp [ho, hc, asBool]) (wpList_tail r _ h q)
    · rw [if_neg hw] at h
      exact wpList_unwanted (by simpa using hw) (wpList_tail r _ h q)
/-- A test whose answer is a letter. -/
theorem wpList_test {X : Prop} (hw : Region.wanted op (yielded ops a.tmps) = true) (f : BinOp) (t t' : TypeId) (x y : Operand) (ho : op.op = .binOp f t x y t') (u v : Value) (hx : a.eval x = u) (hy : a.eval y = v)
    (hr : ∃ b : Bool, (do eqGuard f t x y u v; binOp f t u v).run P w = .ok (.bool b) w ∧ (b = true ↔ X))
    (h : Hid X → wpList P ops Q rest (a.put op.dst (.bool true)) w) (h' : Hid (¬ X) → wpList P ops Q rest (a.put op.dst (.bool false)) w) : wpList P ops Q (op :: rest) a w := by
  obtain ⟨b, hr, hb⟩ := hr
  refine wpList_val hw (by unfold execOp; simp only [ho, hx, hy]; rw [Sem.run_bind, hr]; rfl) ?_
  cases b with
  | true => exact h (hb.1 rfl)
  | false => exact h' fun x => absurd (hb.2 x) Bool.false_ne_true
theorem wpList_loadp (hw : Region.wanted op (yielded ops a.tmps) = true) (ty : TypeId) (x : Operand) (ho : op.op = .load ty x) (B o : Nat) (hx : a.eval x = .pointer (some ⟨B, o, none⟩)) (n : Nat) (C : Array Value) (t : TypeId) (hB : Blk w B C t) (V : Array Value) (hV : C.extract o (o + n) = V) (hs : o + n ≤ C.size) (d : TypeDesc)
    (hu : P.underlying ty = some d) (hd : d.isRow = true) (hi : (P.info? ty).map (·.size) = some n) (h : wpList P ops Q rest (a.put op.dst (.agg V)) w) : wpList P ops Q (op :: rest) a w := by
  subst hV
  refine wpList_val hw ?_ h
  unfold execOp
  simp only [ho, hx, Sem.run_bind, run_loadAt_mid w B o ty (C.extract o (o + n)).toList d (hB.range o n) hu hd (by rw [hi]; simp; omega), Result.andThen_ok, Array.toArray_toList]
  rfl
/-- One cell of a block is read. -/
theorem wpList_load1 (hw : Region.wanted op (yielded ops a.tmps) = true) (ty : TypeId) (x : Operand) (ho : op.op = .load ty x) (B o : Nat) (hx : a.eval x = .pointer (some ⟨B, o, none⟩)) (C : Array Value) (t : TypeId) (hB : Blk w B C t) (v : Value) (hv : C[o]? = some v)
    (hg : ∀ w, (isAgg ty).run P w = .ok false w) (h : wpList P ops Q rest (a.put op.dst v) w) : wpList P ops Q (op :: rest) a w := by
  refine wpList_val hw ?_ h
  have hc : w.cell? ⟨B, o, none⟩ = some v := (hB.cell o).trans hv
  unfold execOp
  simp [ho, hx, Instr.loadAt, Instr.sureAddr, loadVar, hg, hc]
theorem wpList_call {R : Ending → World → Prop} (hw : Region.wanted op (yielded ops a.tmps) = true) (f : FuncId) (args : Array Value) (hr : (execOp a.eval op).run P w = .ok (.enter f args) w) (hc : Calls P f args w R)
    (h : ∀ v w', R (.returned v) w' → wpList P ops Q rest (a.put op.dst v) w') (hp : ∀ c w', ¬ R (.panicked c) w') (ho : ∀ w', ¬ R .outgrown w') : wpList P ops Q (op :: rest) a w := by
  refine wpList_wanted hw ?_
  unfold Oper.wp
  rw [hr, Oper.upon_enter]
  refine hc.mono ?_
  intro e w' hR
  cases e with
  | returned v => exact h v w' hR
  | panicked c => exact absurd hR (hp c w')
  | outgrown => exact absurd hR (ho w')
end
section
variable {w : World}
theorem eqg_int (t : TypeId) (x y : Operand) (k : IntKind) (m n : Int) : ∃ b : Bool, (do eqGuard .eql t x y (.int k m) (.int k n); binOp .eql t (.int k m) (.int k n)).run Try.prog w = .ok (.bool b) w ∧ (b = true ↔ m = n) :=
  ⟨m == n, by simp [eqGuard, binOp, Op.intCmp], by simp⟩
theorem neg_int (t : TypeId) (x y : Operand) (k : IntKind) (m n : Int) : ∃ b : Bool, (do eqGuard .neq t x y (.int k m) (.int k n); binOp .neq t (.int k m) (.int k n)).run Try.prog w = .ok (.bool b) w ∧ (b = true ↔ ¬ m = n) :=
  ⟨m != n, by simp [eqGuard, binOp, Op.intCmp], by simp⟩
theorem eqg_bool (x y : Operand) (m n : Bool) : ∃ b : Bool, (do eqGuard .eql 4 x y (.bool m) (.bool n); binOp .eql 4 (.bool m) (.bool n)).run Try.prog w = .ok (.bool b) w ∧ (b = true ↔ m = n) :=
  ⟨m == n, by simp [eqGuard, binOp, Op.equal, show Op.maxDepth = 9999 + 1 from rfl, run_equalIn_bool' w 9999 4 m n Try.underlying4], by simp⟩
theorem neg_bool (x y : Operand) (m n : Bool) : ∃ b : Bool, (do eqGuard .neq 4 x y (.bool m) (.bool n); binOp .neq 4 (.bool m) (.bool n)).run Try.prog w = .ok (.bool b) w ∧ (b = true ↔ ¬ m = n) :=
  ⟨m != n, by simp [eqGuard, binOp, Op.equal, show Op.maxDepth = 9999 + 1 from rfl, run_equalIn_bool' w 9999 4 m n Try.underlying4]; cases m <;> cases n <;> rfl, by simp⟩
theorem eqg_agg {f : BinOp} {t : TypeId} (ht : Try.prog.eqGuardType Try.prog.depth t = false) (x y : Operand) (u v : Array Value) {b : Bool} (h : (binOp f t (.agg u) (.agg v)).run Try.prog w = .ok (.bool b) w) : (do eqGuard f t x y (.agg u) (.agg v); binOp f t (.agg u) (.agg v)).run Try.prog w = .ok (.bool b) w := by
  rw [Sem.run_bind, run_eqGuard_agg w f t x y u v ht]
  exact h
theorem eqg_ref (x y : Operand) (a b c d : Int) : ∃ q : Bool, (do eqGuard .eql 29 x y (.agg #[.int .u64 a, .int .u64 b]) (.agg #[.int .u64 c, .int .u64 d]); binOp .eql 29 (.agg #[.int .u64 a, .int .u64 b]) (.agg #[.int .u64 c, .int .u64 d])).run Try.prog w = .ok (.bool q) w ∧ (q = true ↔ (a = c ∧ b = d)) := by
  refine ⟨a == c && b == d, eqg_agg Try.eqGuardType29 x y _ _ ?_, by simp⟩
  by_cases h1 : a = c <;> by_cases h2 : b = d <;> simp [go_sem, h1, h2]
theorem eqg_span (x y : Operand) (a b c d : Int) : ∃ q : Bool, (do eqGuard .eql 33 x y (.agg #[.int .u64 a, .int .u64 b]) (.agg #[.int .u64 c, .int .u64 d]); binOp .eql 33 (.agg #[.int .u64 a, .int .u64 b]) (.agg #[.int .u64 c, .int .u64 d])).run Try.prog w = .ok (.bool q) w ∧ (q = true ↔ (a = c ∧ b = d)) := by
  refine ⟨a == c && b == d, eqg_agg Try.eqGuardType33 x y _ _ ?_, by simp⟩
  by_cases h1 : a = c <;> by_cases h2 : b = d <;> simp [go_sem, h1, h2]
set_option maxHeartbeats 2000000 in
theorem run_wait (f : BinOp) (hf : f = .eql ∨ f = .neq) (a1 a2 a3 a4 b1 b2 b3 b4 : Int) (a5 b5 : Bool) : ∃ q : Bool, (binOp f 31 (.agg #[.int .u64 a1, .int .u64 a2, .int .u64 a3, .int .u64 a4, .bool a5]) (.agg #[.int .u64 b1, .int .u64 b2, .int .u64 b3, .int .u64 b4, .bool b5])).run Try.prog w = .ok (.bool (if f = .eql then q else !q)) w ∧ (q = true ↔ (a1 = b1 ∧ a2 = b2 ∧ a3 = b3 ∧ a4 = b4 ∧ a5 = b5)) := by
  refine ⟨a1 == b1 && (a2 == b2 && (a3 == b3 && (a4 == b4 && a5 == b5))), ?_, by simp⟩
  rcases hf with rfl | rfl <;> (by_cases h1 : a1 = b1 <;> by_cases h2 : a2 = b2 <;> by_cases h3 : a3 = b3 <;> by_cases h4 : a4 = b4 <;> first | (simp [go_sem, h1, h2, h3, h4]; done) | (cases a5 <;> cases b5 <;> simp [go_sem, h1, h2, h3, h4]))
theorem eqg_wait (x y : Operand) (a1 a2 a3 a4 b1 b2 b3 b4 : Int) (a5 b5 : Bool) : ∃ q : Bool, (do eqGuard .eql 31 x y (.agg #[.int .u64 a1, .int .u64 a2, .int .u64 a3, .int .u64 a4, .bool a5]) (.agg #[.int .u64 b1, .int .u64 b2, .int .u64 b3, .int .u64 b4, .bool b5]); binOp .eql 31 (.agg #[.int .u64 a1, .int .u64 a2, .int .u64 a3, .int .u64 a4, .bool a5]) (.agg #[.int .u64 b1, .int .u64 b2, .int .u64 b3, .int .u64 b4, .bool b5])).run Try.prog w = .ok (.bool q) w ∧ (q = true ↔ (a1 = b1 ∧ a2 = b2 ∧ a3 = b3 ∧ a4 = b4 ∧ a5 = b5)) := by
  obtain ⟨q, h1, h2⟩ := run_wait (w := w) .eql (.inl rfl) a1 a2 a3 a4 b1 b2 b3 b4 a5 b5
  exact ⟨q, eqg_agg Try.eqGuardType31 x y _ _ h1, h2⟩
theorem neg_wait (x y : Operand) (a1 a2 a3 a4 b1 b2 b3 b4 : Int) (a5 b5 : Bool) : ∃ q : Bool, (do eqGuard .neq 31 x y (.agg #[.int .u64 a1, .int .u64 a2, .int .u64 a3, .int .u64 a4, .bool a5]) (.agg #[.int .u64 b1, .int .u64 b2, .int .u64 b3, .int .u64 b4, .bool b5]); binOp .neq 31 (.agg #[.int .u64 a1, .int .u64 a2, .int .u64 a3, .int .u64 a4, .bool a5]) (.agg #[.int .u64 b1, .int .u64 b2, .int .u64 b3, .int .u64 b4, .bool b5])).run Try.prog w = .ok (.bool q) w ∧ (q = true ↔ ¬ (a1 = b1 ∧ a2 = b2 ∧ a3 = b3 ∧ a4 = b4 ∧ a5 = b5)) := by
  obtain ⟨q, h1, h2⟩ := run_wait (w := w) .neq (.inr rfl) a1 a2 a3 a4 b1 b2 b3 b4 a5 b5
  exact ⟨!q, eqg_agg Try.eqGuardType31 x y _ _ h1, by rw [← h2]; cases q <;> simp⟩
theorem eqItems_words : ∀ (n : Nat) (d : Nat) (l m : List Int), n ≤ l.length → n ≤ m.length → ∀ (is : List Nat), (∀ i ∈ is, i < n) → (Op.eqItems (d + 1) 22 1 (l.map (Value.int .u64)).toArray (m.map (Value.int .u64)).toArray is).run Try.prog w = .ok (is.all fun i => l.getD i 0 == m.getD i 0) w := by
  intro n d l m hl hm is
  induction is with
  | nil => intro _; simp [Op.eqItems]
  | cons i is ih =>
    intro h
    have hi := h i (by simp)
    have p1 : (part 22 (l.map (Value.int .u64)).toArray (i * 1)).run Try.prog w = .ok (.int .u64 (l.getD i 0)) w := by
      simp [part, Try.isAgg22, List.getD, List.getElem?_eq_getElem (show i < l.length by omega)]
    have p2 : (part 22 (m.map (Value.int .u64)).toArray (i * 1)).run Try.prog w = .ok (.int .u64 (m.getD i 0)) w := by
      simp [part, Try.isAgg22, List.getD, List.getElem?_eq_getElem (show i < m.length by omega)]
    simp only [Op.eqItems, Sem.run_bind, p1, p2, Result.andThen_ok, run_equalIn_int w d 22 .u64 .u64 _ _ Try.underlying22]
    cases hb : (l.getD i 0 == m.getD i 0)
    · simp only [Bool.not_false, if_true, List.all_cons, hb, Bool.false_and, Sem.run_pure]
    · simp only [Bool.not_true, Bool.false_eq_true, if_false, List.all_cons, hb, Bool.true_and]
      exact ih fun j hj => h j (by simp [hj])
theorem all_words : ∀ (l m : List Int), l.length = m.length → (((List.range l.length).all fun i => l.getD i 0 == m.getD i 0) = true ↔ l = m)
  | [], [], _ => by simp
  | x :: xs, y :: ys, h => by
    have ih := all_words xs ys (by simpa using h)
    rw [List.length_cons, List.range_succ_eq_map, List.all_cons, List.all_map]
    simp only [List.getD_cons_zero, Function.comp_def, List.getD_cons_succ, Bool.and_eq_true, ih]
    simp
  | [], _ :: _, h => by simp at h
  | _ :: _, [], h => by simp at h
theorem eqg_regs (x y : Operand) (l m : List Int) (hl : l.length = 16) (hm : m.length = 16) : ∃ q : Bool, (do eqGuard .eql 27 x y (.agg (l.map (Value.int .u64)).toArray) (.agg (m.map (Value.int .u64)).toArray); binOp .eql 27 (.agg (l.map (Value.int .u64)).toArray) (.agg (m.map (Value.int .u64)).toArray)).run Try.prog w = .ok (.bool q) w ∧ (q = true ↔ l = m) := by
  refine ⟨(List.range 16).all fun i => l.getD i 0 == m.getD i 0, eqg_agg Try.eqGuardType27 x y _ _ ?_, by have := all_words l m (by rw [hl, hm]); rw [hl] at this; exact this⟩
  obtain ⟨i0, hi0⟩ : ∃ i0, Try.prog.info? 22 = some i0 := Option.isSome_iff_exists.1 (by kernel_rfl)
  have hcells : Try.prog.cellsOf 22 = 1 := by kernel_rfl
  rw [run_eql_struct, show 10000 = 9999 + 1 from rfl, run_equalIn_array w 9999 _ _ Try.underlying27 hi0, hcells, show 9999 = 9998 + 1 from rfl, eqItems_words 16 9998 l m (by omega) (by omega) (List.range 16) (fun i hi => List.mem_range.1 hi)]
  rfl
end
end Go.Proofs.Ytfpmkihlfhpgdaa
