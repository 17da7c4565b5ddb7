/-
 PROVED HERE: steps through a region whose order is drawn: what is read may be taken first, a call that answers yes or no, a. What is asked stands at each.
-/
import Derived.Deep.RegionHeld3
import Derived.Test.YtlaagheeemkklaaZ10
namespace Go.Proofs.Ytlaagheeemkklaa
set_option maxRecDepth 100000
set_option maxHeartbeats 8000000
open Go.RowKit Go.Shelf
set_option linter.unusedVariables false
attribute [local go_sem] Oper.semAt_some

theorem putQ {Q : Exit → Act → World → Prop} (hQ : ∀ c a d v w, Q (.panic c) (Act.put a (some d) v) w → Q (.panic c) a w) {c : List PanicEntry} {a : Act} {d : Option Tmp} {v : Value} {w : World} (h : Q (.panic c) (a.put d v) w) : Q (.panic c) a w := by
 cases d with
 | none => exact h
 | some d => exact hQ c a d v w h
section
variable {P : Program} {md : Region.Mode} {ops : Array Oper} {Q : Exit → Act → World → Prop} {S : World → Prop} {w : World}
theorem wpAnyH_some {i : Nat} {o : Oper} {fuel : Nat} {listed : Array Bool} {a : Act} {f : FuncId} {args : Array Value} {R : Ending → World → Prop} (hr : Region.ready md ops listed = [i]) (hi : ops[i]? = some o) (hw : Region.wanted o (yielded ops a.tmps) = true)
  (hrun : (execOp a.eval o).run P w = .ok (.enter f args) w) (hc : Calls P f args w R)
  (h : ∀ e w', R e w' → ∃ v, e = .returned v ∧ S w' ∧ wpAnyH P md ops Q S fuel (listed.setIfInBounds i true) (a.put o.dst v) w') : wpAnyH P md ops Q S (fuel + 1) listed a w := by
 refine wpAnyH_all hr (by simp) ?_
 intro j hj
 obtain rfl : j = i := by simpa using hj
 unfold wpOp
 simp only [hi, hw, if_true]
 left
 unfold Oper.wp
 rw [hrun, Oper.upon_enter]
 refine hc.mono ?_
 intro e w' hR
 obtain ⟨v, rfl, h1, h2⟩ := h e w' hR
 exact ⟨h1, h2⟩
end
end Go.Proofs.Ytlaagheeemkklaa
namespace Go.Proofs.Ytlaagheeemkklaa
set_option maxRecDepth 100000
set_option maxHeartbeats 8000000
open Go.RowKit Go.Shelf
set_option linter.unusedVariables false
attribute [local go_sem] Oper.semAt_some

inductive Obl where
 | load (ty : TypeId) (b o : Nat) (v : Value)
 | test (f : BinOp) (t : TypeId) (x y : Operand) (u v r : Value)
 | sl (t : TypeId) (x : Value) (lo hi mx : Option Value) (v : Value)
 | ia (t : TypeId) (x i v : Value)
 | ix (t : TypeId) (x i v : Value)
 | ln (t u : TypeId) (x v : Value)
def Obl.holds (P : Program) (S : World → Prop) : Obl → Prop
 | .load ty b o v => ∀ w, S w → (loadVar ty ⟨b, o, none⟩).run P w = .ok v w
 | .test f t x y u v r => ∀ w, S w → (do eqGuard f t x y u v; binOp f t u v).run P w = .ok r w
 | .sl t x lo hi mx v => ∀ w, S w → (Instr.sliceAt t x lo hi mx).run P w = .ok v w
 | .ia t x i v => ∀ w, S w → (Instr.indexAt t x i).run P w = .ok v w
 | .ix t x i v => ∀ w, S w → (Instr.index t x i).run P w = .ok v w
 | .ln t u x v => ∀ w, S w → (invoke (.builtin .len #[t] u #[false]) #[x]).run P w = .ok (.value v) w
def Obls (P : Program) (S : World → Prop) : List Obl → Prop
 | [] => True
 | o :: r => o.holds P S ∧ Obls P S r
theorem Obls.app {P : Program} {S : World → Prop} : ∀ {l m : List Obl}, Obls P S (l ++ m) → Obls P S l ∧ Obls P S m
 | [], m, h => ⟨trivial, h⟩
 | o :: r, m, h => ⟨⟨h.1, (Obls.app h.2).1⟩, (Obls.app h.2).2⟩
def symf (P : Program) (s f : Nat) (v : Value) : Option Value :=
 match v with
 | .pointer (some ⟨b, off, none⟩) =>
  match P.underlying s with
  | some (.struct fs) =>
   match fs[f]? with
   | some fd =>
    match P.info? fd.type with
    | some i => if i.size = 0 then none else some (.pointer (some ⟨b, off + fd.offset, none⟩))
    | none => none
   | none => none
  | _ => none
 | _ => none
def symw (P : Program) (g : Option Value) (o : Oper) (a : Act) : Option (Value × List Obl) :=
 match o.op with
 | .move x => some (a.eval x, [])
 | .assign x => some (a.eval x, [])
 | .pick c x y =>
  match a.eval c with
  | .bool true => some (a.eval x, [])
  | .bool false => some (a.eval y, [])
  | _ => none
 | .fieldAddr s x f => (symf P s f (a.eval x)).map fun v => (v, [])
 | .load ty x =>
  match a.eval x, g with
  | .pointer (some ⟨b, off, none⟩), some v => some (v, [.load ty b off v])
  | _, _ => none
 | .binOp f t x y _ => g.map fun v => (v, [.test f t x y (a.eval x) (a.eval y) v])
 | .unOp .not _ x =>
  match a.eval x with
  | .bool b => some (.bool (!b), [])
  | _ => none
 | .slice t x lo hi mx => g.map fun v => (v, [.sl t (a.eval x) (lo.map a.eval) (hi.map a.eval) (mx.map a.eval) v])
 | .indexAddr t x i => g.map fun v => (v, [.ia t (a.eval x) (a.eval i) v])
 | .index t x i => g.map fun v => (v, [.ix t (a.eval x) (a.eval i) v])
 | .call c =>
  match c.callee, c.args.toList, c.argTypes.toList with
  | .builtin .len, [.tmp x], [t] => g.map fun v => (v, [.ln t o.type (a.eval (.tmp x)) v])
  | _, _, _ => none
 | _ => none
def symv (P : Program) (ops : Array Oper) (g : Option Value) (o : Oper) (a : Act) : Option (Value × List Obl) :=
 if Region.wanted o (yielded ops a.tmps) then symw P g o a else some (undef, [])
section
variable {P : Program} {ops : Array Oper} {S : World → Prop}
theorem symf_run {s f : Nat} {u v : Value} (h : symf P s f u = some v) (w : World) : (Instr.fieldAt s u f).run P w = .ok v w := by
 unfold symf at h
 split at h
 ·split at h
  ·rename_i fs hu
   split at h
   ·rename_i fd hf
    split at h
    ·rename_i i hi
     split at h
     ·cases h
     ·rename_i hz
      cases h
      simp [Instr.fieldAt, run_underlying hu, hf, Instr.sureAddr, fieldPlace, sizeOf, typeInfo, hi, hz, Addr.add_mid]
    ·cases h
   ·cases h
  ·cases h
 ·cases h
theorem symw_run {g : Option Value} {o : Oper} {a : Act} {v : Value} {obs : List Obl} (h : symw P g o a = some (v, obs)) (k : Obls P S obs) {w : World} (hS : S w) : (execOp a.eval o).run P w = .ok (.value v) w := by
 unfold symw at h
 split at h
 ·rename_i x ho; cases h; unfold execOp; simp [ho]
 ·rename_i x ho; cases h; unfold execOp; simp [ho]
 ·rename_i c x y ho
  split at h
  ·rename_i hc; cases h; unfold execOp; simp [ho, hc, asBool]
  ·rename_i hc; cases h; unfold execOp; simp [ho, hc, asBool]
  ·cases h
 ·rename_i s x f ho
  cases hq : symf P s f (a.eval x) with
  | none => rw [hq] at h; cases h
  | some u =>
   rw [hq] at h; cases h
   unfold execOp; simp [ho, symf_run hq w]
 ·rename_i ty x ho
  split at h
  ·rename_i b off u hx
   cases h
   have := k.1 w hS
   unfold execOp
   simp [ho, hx, Instr.loadAt, Instr.sureAddr, this]
  ·cases h
 ·rename_i f t x y t' ho
  cases g with
  | none => cases h
  | some u =>
   cases h
   have := k.1 w hS
   unfold execOp
   simp only [ho]
   rw [Sem.run_bind, this]
   rfl
 ·rename_i t x ho
  split at h
  ·rename_i b hx; cases h; unfold execOp; simp [ho, hx, Op.unary]
  ·cases h
 ·rename_i t x lo hi mx ho
  cases g with
  | none => cases h
  | some u => cases h; unfold execOp; simp only [ho]; rw [Sem.run_bind, k.1 w hS]; rfl
 ·rename_i t x i ho
  cases g with
  | none => cases h
  | some u => cases h; unfold execOp; simp only [ho]; rw [Sem.run_bind, k.1 w hS]; rfl
 ·rename_i t x i ho
  cases g with
  | none => cases h
  | some u => cases h; unfold execOp; simp only [ho]; rw [Sem.run_bind, k.1 w hS]; rfl
 ·rename_i c ho
  split at h
  ·rename_i x t hc ha ht
   cases g with
   | none => cases h
   | some u =>
    cases h
    have e1 : c.args = #[.tmp x] := by rw [← Array.toArray_toList (xs := c.args), ha]
    have e2 : c.argTypes = #[t] := by rw [← Array.toArray_toList (xs := c.argTypes), ht]
    have := k.1 w hS
    unfold execOp
    simp only [ho, resolve, hc, e1, e2, Sem.run_bind, Sem.run_pure, Result.andThen_ok]
    simpa using this
  ·cases h
 ·cases h
theorem symv_yields {g : Option Value} {o : Oper} {a : Act} {v : Value} {obs : List Obl} (h : symv P ops g o a = some (v, obs)) (k : Obls P S obs) : YieldsIf P ops S o v a := by
 unfold symv at h
 split at h
 ·rename_i hw; exact .inl ⟨hw, fun w hS => symw_run h k hS⟩
 ·rename_i hw; cases h; exact .inr ⟨by simpa using hw, rfl⟩
end
def symL (P : Program) (ops : Array Oper) : List (Option Value) → List Oper → Act → Option (List Oper × Act × List Obl)
 | [], r, a => some (r, a, [])
 | _ :: _, [], _ => none
 | g :: gs, o :: r, a =>
  match symv P ops g o a with
  | none => none
  | some (v, obs) =>
   match symL P ops gs r (a.put o.dst v) with
   | none => none
   | some (r', a', obs') => some (r', a', obs ++ obs')
def symH (P : Program) (md : Region.Mode) (ops : Array Oper) : List (Nat × Option Value) → Array Bool → Act → Option (Array Bool × Act × List Obl)
 | [], l, a => some (l, a, [])
 | (i, g) :: gs, l, a =>
  match ops[i]? with
  | none => none
  | some o =>
   if (Region.free md ops l i && (Region.ready md ops l).contains i) = true then
    match symv P ops g o a with
    | none => none
    | some (v, obs) =>
     match symH P md ops gs (l.setIfInBounds i true) (a.put o.dst v) with
     | none => none
     | some (l', a', obs') => some (l', a', obs ++ obs')
   else none
section
variable {P : Program} {ops : Array Oper} {Q : Exit → Act → World → Prop} {w : World}
theorem wpList_sym : ∀ (gs : List (Option Value)) {rest : List Oper} {a : Act} {rest' : List Oper} {a' : Act} {obs : List Obl}, symL P ops gs rest a = some (rest', a', obs) → Obls P (fun W => W = w) obs → wpList P ops Q rest' a' w → wpList P ops Q rest a w
 | [], rest, a, rest', a', obs, h, k, q => by cases h; exact q
 | g :: gs, [], a, rest', a', obs, h, k, q => by cases h
 | g :: gs, o :: r, a, rest', a', obs, h, k, q => by
  unfold symL at h
  split at h
  ·cases h
  ·rename_i v obs1 hv
   split at h
   ·cases h
   ·rename_i r2 a2 obs2 h2
    cases h
    obtain ⟨k1, k2⟩ := Obls.app k
    rcases symv_yields hv k1 with ⟨hw, hr⟩ | ⟨hw, rfl⟩
    ·exact wpList_val hw (hr w rfl) (wpList_sym gs h2 k2 q)
    ·exact wpList_unwanted hw (wpList_sym gs h2 k2 q)
variable {md : Region.Mode} {S : World → Prop}
theorem wpAnyH_sym (hs : Region.noSelect ops = true) (hQ : ∀ c a d v w, Q (.panic c) (Act.put a (some d) v) w → Q (.panic c) a w) (hS : S w) : ∀ (gs : List (Nat × Option Value)) {l l' : Array Bool} {a a' : Act} {obs : List Obl} {n m : Nat}, m = n + gs.length → symH P md ops gs l a = some (l', a', obs) → Obls P S obs → wpAnyH P md ops Q S n l' a' w → wpAnyH P md ops Q S m l a w
 | [], l, l', a, a', obs, n, m, hm, h, k, q => by cases h; subst hm; exact q
 | (i, g) :: gs, l, l', a, a', obs, n, m, hm, h, k, q => by
  subst hm
  unfold symH at h
  split at h
  ·cases h
  ·rename_i o ho
   split at h
   ·rename_i hf
    rw [Bool.and_eq_true] at hf
    split at h
    ·cases h
    ·rename_i v obs1 hv
     split at h
     ·cases h
     ·rename_i l2 a2 obs2 h2
      cases h
      obtain ⟨k1, k2⟩ := Obls.app k
      exact wpAnyH_take ho hs hf.1 hf.2 (fun c a w h => putQ hQ h) (symv_yields hv k1) hS (wpAnyH_sym hs hQ hS gs rfl h2 k2 q)
   ·cases h
end
def pre (n i : Nat) : Array Bool := ((List.range n).map fun j => decide (j < i)).toArray
def txtOK (md : Region.Mode) (ops : Array Oper) : Bool := Region.noSelect ops && (List.range ops.size).all fun i => Region.free md ops (pre ops.size i) i && (Region.ready md ops (pre ops.size i)).contains i
theorem pre_size (n i : Nat) : (pre n i).size = n := by simp [pre]
theorem pre_get {n i j : Nat} (h : j < n) : (pre n i)[j]? = some (decide (j < i)) := by simp [pre, h]
theorem pre_set (n i : Nat) : (pre n i).setIfInBounds i true = pre n (i + 1) := by
 apply Array.ext_getElem?
 intro j
 rw [Array.getElem?_setIfInBounds]
 by_cases hj : j < n
 ·rw [pre_get hj, pre_get hj, pre_size]
  by_cases e : i = j
  ·subst e; simp [hj]
  ·rw [if_neg e]
   congr 1
   rw [decide_eq_decide]; omega
 ·have h1 : (pre n i)[j]? = none := Array.getElem?_eq_none (by rw [pre_size]; omega)
  have h2 : (pre n (i + 1))[j]? = none := Array.getElem?_eq_none (by rw [pre_size]; omega)
  rw [h1, h2, pre_size]
  split
  ·rw [if_neg (by omega)]
  ·rfl
theorem pre_zero (n : Nat) : Array.replicate n false = pre n 0 := by
 apply Array.ext_getElem?
 intro j
 by_cases hj : j < n
 ·rw [pre_get hj]; simp [hj]
 ·rw [Array.getElem?_eq_none (by simp; omega), Array.getElem?_eq_none (by rw [pre_size]; omega)]
section
variable {P : Program} {ops : Array Oper} {Q : Exit → Act → World → Prop} {w : World} {md : Region.Mode} {S : World → Prop}
theorem txt_at (hT : txtOK md ops = true) {i : Nat} (hi : i < ops.size) : Region.noSelect ops = true ∧ Region.free md ops (pre ops.size i) i = true ∧ (Region.ready md ops (pre ops.size i)).contains i = true := by
 unfold txtOK at hT
 rw [Bool.and_eq_true, List.all_eq_true] at hT
 have := hT.2 i (List.mem_range.2 hi)
 rw [Bool.and_eq_true] at this
 exact ⟨hT.1, this.1, this.2⟩
theorem wpAnyH_txt' (hT : txtOK md ops = true) (hQ : ∀ c a d v w, Q (.panic c) (Act.put a (some d) v) w → Q (.panic c) a w) (hS : S w) : ∀ (gs : List (Option Value)) (i : Nat) {rest' : List Oper} {a a' : Act} {obs : List Obl} {n m : Nat}, m = n + gs.length → symL P ops gs (ops.toList.drop i) a = some (rest', a', obs) → Obls P S obs → wpAnyH P md ops Q S n (pre ops.size (i + gs.length)) a' w → wpAnyH P md ops Q S m (pre ops.size i) a w
 | [], i, rest', a, a', obs, n, m, hm, h, k, q => by unfold symL at h; cases h; subst hm; exact q
 | g :: gs, i, rest', a, a', obs, n, m, hm, h, k, q => by
  subst hm
  by_cases hi : i < ops.size
  ·have ed : ops.toList.drop i = ops[i] :: ops.toList.drop (i + 1) := by
    rw [List.drop_eq_getElem_cons (by simpa using hi)]
    simp
   rw [ed] at h
   unfold symL at h
   split at h
   ·cases h
   ·rename_i v obs1 hv
    split at h
    ·cases h
    ·rename_i r2 a2 obs2 h2
     cases h
     obtain ⟨k1, k2⟩ := Obls.app k
     obtain ⟨t1, t2, t3⟩ := txt_at hT hi
     refine wpAnyH_take (i := i) (Array.getElem?_eq_getElem hi) t1 t2 t3 (fun c a w h => putQ hQ h) (symv_yields hv k1) hS ?_
     rw [pre_set]
     exact wpAnyH_txt' hT hQ hS gs (i + 1) rfl h2 k2 (by rw [show i + 1 + gs.length = i + (g :: gs).length by simp; omega]; exact q)
  ·rw [List.drop_eq_nil_of_le (by simp; omega)] at h
   unfold symL at h
   cases h
theorem wpAnyH_txt (hT : txtOK md ops = true) (hQ : ∀ c a d v w, Q (.panic c) (Act.put a (some d) v) w → Q (.panic c) a w) (hS : S w) (gs : List (Option Value)) (i : Nat) {a a' : Act} {obs : List Obl} {n m : Nat} (hm : m = n + gs.length) (h : (symL P ops gs (ops.toList.drop i) a).map (fun r => r.2) = some (a', obs)) (k : Obls P S obs) (q : wpAnyH P md ops Q S n (pre ops.size (i + gs.length)) a' w) : wpAnyH P md ops Q S m (pre ops.size i) a w := by
 cases hs : symL P ops gs (ops.toList.drop i) a with
 | none => rw [hs] at h; cases h
 | some r =>
  obtain ⟨r1, r2, r3⟩ := r
  rw [hs] at h
  cases h
  exact wpAnyH_txt' hT hQ hS gs i hm hs k q
def opI (md : Region.Mode) (ops : Array Oper) (o : Oper) : Option Nat × List Nat × List Nat := (o.dst, o.looksAt ops, (o.after.toList.filter (Region.binds md)).map (·.on))
def apI (x y : Option Nat × List Nat × List Nat) : Bool :=
  (match x.1 with
   | some d => !y.2.1.contains d && y.1 != some d
   | none => true) &&
  (match y.1 with
   | some d => !x.2.1.contains d
   | none => true)
def chkI : List (Option Nat × List Nat × List Nat) → Nat → Bool
 | [], _ => true
 | x :: r, i => x.2.2.all (fun e => Nat.blt e i) && (r.all (fun y => apI x y || y.2.2.contains i) && chkI r (i + 1))
theorem chkI_at : ∀ {l : List (Option Nat × List Nat × List Nat)} {i : Nat}, chkI l i = true → ∀ k x, l[k]? = some x → (∀ e ∈ x.2.2, e < i + k) ∧ ∀ j y, k < j → l[j]? = some y → apI x y = true ∨ (i + k) ∈ y.2.2
 | [], i, h, k, x, hx => by simp at hx
 | z :: r, i, h, 0, x, hx => by
  unfold chkI at h
  rw [Bool.and_eq_true, Bool.and_eq_true, List.all_eq_true, List.all_eq_true] at h
  have : z = x := by simpa using hx
  subst this
  refine ⟨fun e he => by have := h.1 e he; simpa [Nat.blt_eq] using this, fun j y hj hy => ?_⟩
  obtain ⟨j', rfl⟩ : ∃ j', j = j' + 1 := ⟨j - 1, by omega⟩
  have hm : y ∈ r := List.mem_of_getElem? (by simpa using hy)
  have := h.2.1 y hm
  rw [Bool.or_eq_true] at this
  rcases this with h | h
  ·exact .inl h
  ·exact .inr (by simpa using h)
 | z :: r, i, h, k + 1, x, hx => by
  unfold chkI at h
  rw [Bool.and_eq_true, Bool.and_eq_true] at h
  obtain ⟨h1, h2⟩ := chkI_at h.2.2 k x (by simpa using hx)
  refine ⟨fun e he => by have := h1 e he; omega, fun j y hj hy => ?_⟩
  obtain ⟨j', rfl⟩ : ∃ j', j = j' + 1 := ⟨j - 1, by omega⟩
  have := h2 j' y (by omega) (by simpa using hy)
  rwa [show i + (k + 1) = i + 1 + k by omega]
theorem txt_of {inf : List (Option Nat × List Nat × List Nat)} (hn : Region.noSelect ops = true) (h1 : ops.toList.map (opI md ops) = inf) (h2 : chkI inf 0 = true) : txtOK md ops = true := by
 unfold txtOK
 rw [hn, Bool.true_and, List.all_eq_true]
 intro i hi
 have hi' := List.mem_range.1 hi
 have hx : inf[i]? = some (opI md ops ops[i]) := by rw [← h1, List.getElem?_map]; simp [hi']
 obtain ⟨q1, q2⟩ := chkI_at h2 i _ hx
 rw [Nat.zero_add] at q1 q2
 rw [Bool.and_eq_true]
 constructor
 ·unfold Region.free
  rw [Array.getElem?_eq_getElem hi']
  simp only
  rw [List.all_eq_true]
  intro j hj
  have hj' := List.mem_range.1 hj
  rw [Array.getElem?_eq_getElem hj']
  by_cases e : j = i
  ·subst e; simp
  ·by_cases hji : j < i
   ·have : (pre ops.size i).getD j true = true := by rw [Array.getD_eq_getD_getElem?, pre_get hj']; simp [hji]
    rw [this]; simp
   ·have hy : inf[j]? = some (opI md ops ops[j]) := by rw [← h1, List.getElem?_map]; simp [hj']
    have hap := q2 j _ (by omega) hy
    rcases hap with h | h
    ·have : Oper.apart ops ops[i] ops[j] = true := h
     simp [this]
    ·have : (ops[j].after.any fun e => Region.binds md e && e.on == i) = true := by
      rw [Array.any_eq_true']
      simp only [opI, List.mem_map, List.mem_filter] at h
      obtain ⟨e, ⟨he1, he2⟩, he3⟩ := h
      exact ⟨e, by simpa using he1, by simp [he2, he3]⟩
     simp [this]
 ·rw [List.contains_iff_mem, mem_ready]
  refine ⟨by rw [Array.getD_eq_getD_getElem?, pre_get hi']; simp, ops[i], Array.getElem?_eq_getElem hi', fun e he hb => ?_⟩
  have : e.on < i := q1 e.on (by simp only [opI, List.mem_map, List.mem_filter]; exact ⟨e, ⟨by simpa using he, hb⟩, rfl⟩)
  rw [Array.getD_eq_getD_getElem?, pre_get (by omega)]
  simp [this]
theorem region_txt {id : Nat} {a : Act} (hm : P.follows .mixedOrders = true) (hT : txtOK .any ops = true)
  (hS : S w.drew) (h : txtOK .any ops = true → S w.drew → wpAnyH P .any ops Q S ops.size (pre ops.size 0) a w.drew) : (Code.region id ops true).wp P Q a w :=
 PgM.region_out hm hS fun hS => by rw [pre_zero]; exact h hT hS
end
def callOf (ops : Array Oper) (o : Oper) (a : Act) : Option (FuncId × List Value × Option Tmp) :=
 if Region.wanted o (yielded ops a.tmps) then
  match o.op with
  | .call c =>
   match c.callee with
   | .value x =>
    match a.eval x with
    | .func (.func f) fs cs => if (fs.isEmpty && cs.isEmpty) = true then some (f, c.args.toList.map a.eval, o.dst) else none
    | _ => none
   | _ => none
  | _ => none
 else none
theorem callOf_run {ops : Array Oper} {o : Oper} {a : Act} {f : FuncId} {vs : List Value} {d : Option Tmp} (h : callOf ops o a = some (f, vs, d)) (hc : ∀ args w, (callFunc f args).run Try.prog w = .ok (.enter f args) w) (w : World) : Region.wanted o (yielded ops a.tmps) = true ∧ o.dst = d ∧ (execOp a.eval o).run Try.prog w = .ok (.enter f vs.toArray) w := by
 unfold callOf at h
 split at h
 ·rename_i hw
  split at h
  ·rename_i c ho
   split at h
   ·rename_i x hx
    split at h
    ·rename_i f' fs cs hv
     split at h
     ·rename_i he
      rw [Bool.and_eq_true, Array.isEmpty_iff, Array.isEmpty_iff] at he
      obtain ⟨rfl, rfl⟩ := he
      cases h
      refine ⟨hw, rfl, ?_⟩
      unfold execOp
      simp [ho, resolve, hx, hv, invoke, Deferred.ofValue, hc]
      rw [← Array.toList_map, Array.toArray_toList]
     ·cases h
    ·cases h
   ·cases h
  ·cases h
 ·cases h
theorem wpAnyH_callT {ops : Array Oper} {Q : Exit → Act → World → Prop} {S : World → Prop} {w : World} {i : Nat} {fuel m : Nat} {a : Act} {f : FuncId} {vs : List Value} {d : Option Tmp} {R : Ending → World → Prop} (hm : m = fuel + 1) (hr : Region.ready .any ops (pre ops.size i) = [i]) (hi : (ops[i]?).bind (fun o => callOf ops o a) = some (f, vs, d))
  (hf : ∀ args w, (callFunc f args).run Try.prog w = .ok (.enter f args) w) (hc : Calls Try.prog f vs.toArray w R)
  (h : ∀ e w', R e w' → ∃ v, e = .returned v ∧ S w' ∧ wpAnyH Try.prog .any ops Q S fuel (pre ops.size (i + 1)) (a.put d v) w') : wpAnyH Try.prog .any ops Q S m (pre ops.size i) a w := by
 subst hm
 cases ho : ops[i]? with
 | none => rw [ho] at hi; cases hi
 | some o =>
  rw [ho] at hi
  obtain ⟨h1, h2, h3⟩ := callOf_run (show callOf ops o a = _ from hi) hf w
  refine wpAnyH_some hr ho h1 h3 hc ?_
  rw [h2, pre_set]
  exact h
theorem wpAnyH_askT {ops : Array Oper} {Q : Exit → Act → World → Prop} {S : World → Prop} {w : World} {X : Prop} {i : Nat} {fuel m : Nat} {a : Act} {f : FuncId} {vs : List Value} {d : Option Tmp} (hm : m = fuel + 1) (hr : Region.ready .any ops (pre ops.size i) = [i]) (hi : (ops[i]?).bind (fun o => callOf ops o a) = some (f, vs, d))
  (hf : ∀ args w, (callFunc f args).run Try.prog w = .ok (.enter f args) w) (hc : Asks f vs.toArray X w) (hS : ∀ w', Below w.heap.size w w' → S w')
  (h1 : ∀ w', Hid X → Below w.heap.size w w' → S w' → wpAnyH Try.prog .any ops Q S fuel (pre ops.size (i + 1)) (a.put d (.bool true)) w')
  (h0 : ∀ w', Hid (¬ X) → Below w.heap.size w w' → S w' → wpAnyH Try.prog .any ops Q S fuel (pre ops.size (i + 1)) (a.put d (.bool false)) w') : wpAnyH Try.prog .any ops Q S m (pre ops.size i) a w := by
 refine wpAnyH_callT hm hr hi hf hc ?_
 rintro e w' ⟨b, rfl, hb, hk⟩
 refine ⟨_, rfl, hS w' hk, ?_⟩
 cases b with
 | true => exact h1 w' (hb.out.1 rfl) hk (hS w' hk)
 | false => exact h0 w' (fun x => absurd (hb.out.2 x) Bool.false_ne_true) hk (hS w' hk)
theorem wpList_callT {ops : Array Oper} {Q : Exit → Act → World → Prop} {w : World} {o : Oper} {rest : List Oper} {a : Act} {f : FuncId} {vs : List Value} {d : Option Tmp} {R : Ending → World → Prop} (hi : callOf ops o a = some (f, vs, d))
  (hf : ∀ args w, (callFunc f args).run Try.prog w = .ok (.enter f args) w) (hc : Calls Try.prog f vs.toArray w R)
  (h : ∀ e w', R e w' → ∃ v, e = .returned v ∧ wpList Try.prog ops Q rest (a.put d v) w') : wpList Try.prog ops Q (o :: rest) a w := by
 obtain ⟨h1, h2, h3⟩ := callOf_run hi hf w
 refine wpList_wanted h1 ?_
 unfold Oper.wp
 rw [h3, Oper.upon_enter]
 refine hc.mono ?_
 intro e w' hR
 obtain ⟨v, rfl, h⟩ := h e w' hR
 rw [h2]
 exact h
def wpT (ops : Array Oper) (Q : Exit → Act → World → Prop) (i : Nat) (a : Act) (w : World) : Prop := wpList Try.prog ops Q (ops.toList.drop i) a w
section
variable {ops : Array Oper} {Q : Exit → Act → World → Prop} {w : World} {a a' : Act} {i : Nat}
theorem wpT_region {id : Nat} (h : wpT ops Q 0 a w) : (Code.region id ops false).wp Try.prog Q a w := wp_region_list (by unfold wpT at h; simpa using h)
theorem wpT_end (hi : Nat.ble ops.size i = true) (h : Q .normal a w) : wpT ops Q i a w := by
 unfold wpT
 rw [Nat.ble_eq] at hi
 rw [List.drop_eq_nil_of_le (by simpa using hi)]
 exact h
theorem wpT_drop {o : Oper} (ho : ops[i]? = some o) : ops.toList.drop i = o :: ops.toList.drop (i + 1) := by
 obtain ⟨hi, e⟩ := Array.getElem?_eq_some_iff.1 ho
 rw [List.drop_eq_getElem_cons (by simpa using hi)]
 simp [← e]
theorem symL_rest {P : Program} : ∀ (gs : List (Option Value)) (r : List Oper) (a : Act) {r' : List Oper} {a' : Act} {obs : List Obl}, symL P ops gs r a = some (r', a', obs) → r' = r.drop gs.length
 | [], r, a, r', a', obs, h => by unfold symL at h; cases h; rfl
 | g :: gs, [], a, r', a', obs, h => by unfold symL at h; cases h
 | g :: gs, o :: r, a, r', a', obs, h => by
  unfold symL at h
  split at h
  ·cases h
  ·split at h
   ·cases h
   ·rename_i h2
    cases h
    have := symL_rest gs r _ h2
    rw [this]; rfl
theorem wpT_sym (gs : List (Option Value)) (i : Nat) {obs : List Obl} (h : (symL Try.prog ops gs (ops.toList.drop i) a).map (fun r => r.2) = some (a', obs)) (k : Obls Try.prog (fun W => W = w) obs) (q : wpT ops Q (i + gs.length) a' w) : wpT ops Q i a w := by
 cases hs : symL Try.prog ops gs (ops.toList.drop i) a with
 | none => rw [hs] at h; cases h
 | some r =>
  obtain ⟨r1, r2, r3⟩ := r
  rw [hs] at h
  cases h
  have := symL_rest gs _ _ hs
  subst this
  exact wpList_sym gs hs k (by rw [List.drop_drop]; exact q)
theorem wpT_call {f : FuncId} {vs : List Value} {d : Option Tmp} {R : Ending → World → Prop} (hi : (ops[i]?).bind (fun o => callOf ops o a) = some (f, vs, d))
  (hf : ∀ args w, (callFunc f args).run Try.prog w = .ok (.enter f args) w) (hc : Calls Try.prog f vs.toArray w R)
  (h : ∀ e w', R e w' → ∃ v, e = .returned v ∧ wpT ops Q (i + 1) (a.put d v) w') : wpT ops Q i a w := by
 cases ho : ops[i]? with
 | none => rw [ho] at hi; cases hi
 | some o =>
  rw [ho] at hi
  unfold wpT
  rw [wpT_drop ho]
  exact wpList_callT (show callOf ops o a = _ from hi) hf hc h
theorem wpT_ask {X : Prop} {f : FuncId} {vs : List Value} {d : Option Tmp} (hi : (ops[i]?).bind (fun o => callOf ops o a) = some (f, vs, d))
  (hf : ∀ args w, (callFunc f args).run Try.prog w = .ok (.enter f args) w) (hc : Asks f vs.toArray X w)
  (h1 : ∀ w', Hid X → Below w.heap.size w w' → wpT ops Q (i + 1) (a.put d (.bool true)) w')
  (h0 : ∀ w', Hid (¬ X) → Below w.heap.size w w' → wpT ops Q (i + 1) (a.put d (.bool false)) w') : wpT ops Q i a w := by
 refine wpT_call hi hf hc ?_
 rintro e w' ⟨b, rfl, hb, hk⟩
 refine ⟨_, rfl, ?_⟩
 cases b with
 | true => exact h1 w' (hb.out.1 rfl) hk
 | false => exact h0 w' (fun x => absurd (hb.out.2 x) Bool.false_ne_true) hk
end
section
variable {S : World → Prop}
theorem ob_load1 {P : Program} {ty : TypeId} {B o : Nat} {v : Value} {C : Array Value} {t : TypeId} (hB : ∀ w, S w → Blk w B C t) (hv : C[o]? = some v) (hg : ∀ w, (isAgg ty).run P w = .ok false w) : Obl.holds P S (.load ty B o v) := fun w hS => by
 have hc : w.cell? ⟨B, o, none⟩ = some v := ((hB w hS).cell o).trans hv
 simp [loadVar, hg, hc]
theorem ob_loadp {P : Program} {ty : TypeId} {B o : Nat} (n : Nat) {C : Array Value} {t : TypeId} (hB : ∀ w, S w → Blk w B C t) {V : Array Value} (hV : C.extract o (o + n) = V) (hs : o + n ≤ C.size) {d : TypeDesc} (hu : P.underlying ty = some d) (hd : d.isRow = true) (hi : (P.info? ty).map (·.size) = some n) : Obl.holds P S (.load ty B o (.agg V)) := fun w hS => by
 subst hV
 have := run_loadVar_mid (P := P) w B o ty (C.extract o (o + n)).toList d ((hB w hS).range o n) hu hd (by rw [hi]; simp; omega)
 rw [Array.toArray_toList] at this
 exact this
theorem ob_loadb {P : Program} {ty : TypeId} {B : Nat} {C : Array Value} {t : TypeId} (hB : ∀ w, S w → Blk w B C t) {d : TypeDesc} (hu : P.underlying ty = some d) (hd : d.isRow = true) (hi : (P.info? ty).map (·.size) = some C.size) : Obl.holds P S (.load ty B 0 (.agg C)) := fun w hS => by
 have := run_loadVar_mid (P := P) w B 0 ty C.toList d (hB w hS).range0 hu hd (by simpa using hi)
 rw [Array.toArray_toList] at this
 exact this
theorem ob_yes {X : Prop} {f : BinOp} {t : TypeId} {x y : Operand} {u v : Value} (hr : ∀ w, ∃ b : Bool, (do eqGuard f t x y u v; binOp f t u v).run Try.prog w = .ok (.bool b) w ∧ (b = true ↔ X)) (hX : Hid X) : Obl.holds Try.prog S (.test f t x y u v (.bool true)) := fun w hS => by
 obtain ⟨b, h1, h2⟩ := hr w
 rw [h1, h2.2 hX.out]
theorem ob_no {X : Prop} {f : BinOp} {t : TypeId} {x y : Operand} {u v : Value} (hr : ∀ w, ∃ b : Bool, (do eqGuard f t x y u v; binOp f t u v).run Try.prog w = .ok (.bool b) w ∧ (b = true ↔ X)) (hX : Hid (¬ X)) : Obl.holds Try.prog S (.test f t x y u v (.bool false)) := fun w hS => by
 obtain ⟨b, h1, h2⟩ := hr w
 cases b with
 | true => exact absurd (h2.1 rfl) hX.out
 | false => exact h1
end
end Go.Proofs.Ytlaagheeemkklaa
