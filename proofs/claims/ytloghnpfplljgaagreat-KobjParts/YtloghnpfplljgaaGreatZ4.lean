/-
 PROVED HERE: steps through a region whose order is drawn: what is read may be taken first, a call that answers yes or no, a. What is asked stands at each.
-/
import Derived.Deep.RegionHeld3
import Derived.Test.YtloghnpfplljgaaGreatZ3
namespace Go.Proofs.YtloghnpfplljgaaGreat
set_option maxRecDepth 100000
set_option maxHeartbeats 8000000
set_option linter.unusedVariables false
open Go.Proofs.Tryz
section
open Go.RowKit Go.Shelf
attribute [local go_sem] Oper.semAt_some
theorem putQ {Q : Exit → Act → World → Prop} (hQ : ∀ c a d v w, Q (.panic c) (Act.put a (some d) v) w → Q (.panic c) a w) {c : List PanicEntry} {a : Act} {d : Option Tmp} {v : Value} {w : World} (h : Q (.panic c) (a.put d v) w) : Q (.panic c) a w := by
 cases d with
 | none => exact h
 | some d => exact hQ c a d v w h
section
variable {P : Program} {md : Region.Mode} {ops : Array Oper} {Q : Exit → Act → World → Prop} {S : World → Prop} {w : World}
theorem v5z {i : Nat} {o : Oper} {fuel : Nat} {listed : Array Bool} {a : Act} {f : FuncId} {args : Array Value} {R : Ending → World → Prop} (hr : Region.ready md ops listed = [i]) (hi : ops[i]? = some o) (hw : Region.wanted o (yielded ops a.tmps) = true)
  (hrun : (execOp a.eval o).run P w = .ok (.enter f args) w) (hc : Calls P f args w R)
  (h : ∀ e w', R e w' → ∃ v, e = .returned v ∧ S w' ∧ wpAnyH P md ops Q S fuel (listed.setIfInBounds i true) (a.put o.dst v) w') : wpAnyH P md ops Q S (fuel + 1) listed a w := by
 refine wpAnyH_all hr (by simp) ?_
 intro j hj
 obtain rfl : j = i := by simpa using hj
 unfold wpOp
 simp only [hi, hw, if_true]
 left
 unfold Oper.wp
 rw [hrun, Oper.upon_enter]
 refine hc.mono ?_
 intro e w' hR
 obtain ⟨v, rfl, h1, h2⟩ := h e w' hR
 exact ⟨h1, h2⟩
end
inductive Obl where
 | load (ty : TypeId) (b o : Nat) (v : Value)
 | test (f : BinOp) (t : TypeId) (x y : Operand) (u v r : Value)
 | sl (t : TypeId) (x : Value) (lo hi mx : Option Value) (v : Value)
 | ia (t : TypeId) (x i v : Value)
 | ix (t : TypeId) (x i v : Value)
 | ln (t u : TypeId) (x v : Value)
def Obl.holds (P : Program) (S : World → Prop) : Obl → Prop
 | .load ty b o v => ∀ w, S w → (loadVar ty ⟨b, o, none⟩).run P w = .ok v w
 | .test f t x y u v r => ∀ w, S w → (do eqGuard f t x y u v; binOp f t u v).run P w = .ok r w
 | .sl t x lo hi mx v => ∀ w, S w → (Instr.sliceAt t x lo hi mx).run P w = .ok v w
 | .ia t x i v => ∀ w, S w → (Instr.indexAt t x i).run P w = .ok v w
 | .ix t x i v => ∀ w, S w → (Instr.index t x i).run P w = .ok v w
 | .ln t u x v => ∀ w, S w → (invoke (.builtin .len #[t] u #[false]) #[x]).run P w = .ok (.value v) w
def Obls (P : Program) (S : World → Prop) : List Obl → Prop
 | [] => True
 | o :: r => o.holds P S ∧ Obls P S r
theorem Obls.app {P : Program} {S : World → Prop} : ∀ {l m : List Obl}, Obls P S (l ++ m) → Obls P S l ∧ Obls P S m
 | [], m, h => ⟨trivial, h⟩
 | o :: r, m, h => ⟨⟨h.1, (Obls.app h.2).1⟩, (Obls.app h.2).2⟩
def symf (P : Program) (s f : Nat) (v : Value) : Option Value :=
 match v with
 | .pointer (some ⟨b, off, none⟩) =>
  match P.underlying s with
  | some (.struct fs) =>
   match fs[f]? with
   | some fd =>
    match P.info? fd.type with
    | some i => if i.size = 0 then none else some (.pointer (some ⟨b, off + fd.offset, none⟩))
    | none => none
   | none => none
  | _ => none
 | _ => none
def symw (P : Program) (g : Option Value) (o : Oper) (a : Act) : Option (Value × List Obl) :=
 match o.op with
 | .move x => some (a.eval x, [])
 | .assign x => some (a.eval x, [])
 | .pick c x y =>
  match a.eval c with
  | .bool true => some (a.eval x, [])
  | .bool false => some (a.eval y, [])
  | _ => none
 | .fieldAddr s x f => (symf P s f (a.eval x)).map fun v => (v, [])
 | .load ty x =>
  match a.eval x, g with
  | .pointer (some ⟨b, off, none⟩), some v => some (v, [.load ty b off v])
  | _, _ => none
 | .binOp f t x y _ => g.map fun v => (v, [.test f t x y (a.eval x) (a.eval y) v])
 | .unOp .not _ x =>
  match a.eval x with
  | .bool b => some (.bool (!b), [])
  | _ => none
 | .slice t x lo hi mx => g.map fun v => (v, [.sl t (a.eval x) (lo.map a.eval) (hi.map a.eval) (mx.map a.eval) v])
 | .indexAddr t x i => g.map fun v => (v, [.ia t (a.eval x) (a.eval i) v])
 | .index t x i => g.map fun v => (v, [.ix t (a.eval x) (a.eval i) v])
 | .call c =>
  match c.callee, c.args.toList, c.argTypes.toList with
  | .builtin .len, [.tmp x], [t] => g.map fun v => (v, [.ln t o.type (a.eval (.tmp x)) v])
  | _, _, _ => none
 | _ => none
def symv (P : Program) (ops : Array Oper) (g : Option Value) (o : Oper) (a : Act) : Option (Value × List Obl) :=
 if Region.wanted o (yielded ops a.tmps) then symw P g o a else some (undef, [])
section
variable {P : Program} {ops : Array Oper} {S : World → Prop}
theorem symf_run {s f : Nat} {u v : Value} (h : symf P s f u = some v) (w : World) : (Instr.fieldAt s u f).run P w = .ok v w := by
 unfold symf at h
 split at h
 ·split at h
  ·rename_i fs hu
   split at h
   ·rename_i fd hf
    split at h
    ·rename_i i hi
     split at h
     ·cases h
     ·rename_i hz
      cases h
      simp [Instr.fieldAt, run_underlying hu, hf, Instr.sureAddr, fieldPlace, sizeOf, typeInfo, hi, hz, Addr.add_mid]
    ·cases h
   ·cases h
  ·cases h
 ·cases h
theorem yOz {g : Option Value} {o : Oper} {a : Act} {v : Value} {obs : List Obl} (h : symw P g o a = some (v, obs)) (k : Obls P S obs) {w : World} (hS : S w) : (execOp a.eval o).run P w = .ok (.value v) w := by
 unfold symw at h
 split at h
 ·rename_i x ho; cases h; unfold execOp; simp [ho]
 ·rename_i x ho; cases h; unfold execOp; simp [ho]
 ·rename_i c x y ho
  split at h
  ·rename_i hc; cases h; unfold execOp; simp [ho, hc, asBool]
  ·rename_i hc; cases h; unfold execOp; simp [ho, hc, asBool]
  ·cases h
 ·rename_i s x f ho
  cases hq : symf P s f (a.eval x) with
  | none => rw [hq] at h; cases h
  | some u =>
   rw [hq] at h; cases h
   unfold execOp; simp [ho, symf_run hq w]
 ·rename_i ty x ho
  split at h
  ·rename_i b off u hx
   cases h
   have := k.1 w hS
   unfold execOp
   simp [ho, hx, Instr.loadAt, Instr.sureAddr, this]
  ·cases h
 ·rename_i f t x y t' ho
  cases g with
  | none => cases h
  | some u =>
   cases h
   have := k.1 w hS
   unfold execOp
   simp only [ho]
   rw [Sem.run_bind, this]
   rfl
 ·rename_i t x ho
  split at h
  ·rename_i b hx; cases h; unfold execOp; simp [ho, hx, Op.unary]
  ·cases h
 ·rename_i t x lo hi mx ho
  cases g with
  | none => cases h
  | some u => cases h; unfold execOp; simp only [ho]; rw [Sem.run_bind, k.1 w hS]; rfl
 ·rename_i t x i ho
  cases g with
  | none => cases h
  | some u => cases h; unfold execOp; simp only [ho]; rw [Sem.run_bind, k.1 w hS]; rfl
 ·rename_i t x i ho
  cases g with
  | none => cases h
  | some u => cases h; unfold execOp; simp only [ho]; rw [Sem.run_bind, k.1 w hS]; rfl
 ·rename_i c ho
  split at h
  ·rename_i x t hc ha ht
   cases g with
   | none => cases h
   | some u =>
    cases h
    have e1 : c.args = #[.tmp x] := by rw [← Array.toArray_toList (xs := c.args), ha]
    have e2 : c.argTypes = #[t] := by rw [← Array.toArray_toList (xs := c.argTypes), ht]
    have := k.1 w hS
    unfold execOp
    simp only [ho, resolve, hc, e1, e2, Sem.run_bind, Sem.run_pure, Result.andThen_ok]
    simpa using this
  ·cases h
 ·cases h
theorem xCz {g : Option Value} {o : Oper} {a : Act} {v : Value} {obs : List Obl} (h : symv P ops g o a = some (v, obs)) (k : Obls P S obs) : YieldsIf P ops S o v a := by
 unfold symv at h
 split at h
 ·rename_i hw; exact .inl ⟨hw, fun w hS => yOz h k hS⟩
 ·rename_i hw; cases h; exact .inr ⟨by simpa using hw, rfl⟩
end
def symL (P : Program) (ops : Array Oper) : List (Option Value) → List Oper → Act → Option (List Oper × Act × List Obl)
 | [], r, a => some (r, a, [])
 | _ :: _, [], _ => none
 | g :: gs, o :: r, a =>
  match symv P ops g o a with
  | none => none
  | some (v, obs) =>
   match symL P ops gs r (a.put o.dst v) with
   | none => none
   | some (r', a', obs') => some (r', a', obs ++ obs')
def symH (P : Program) (md : Region.Mode) (ops : Array Oper) : List (Nat × Option Value) → Array Bool → Act → Option (Array Bool × Act × List Obl)
 | [], l, a => some (l, a, [])
 | (i, g) :: gs, l, a =>
  match ops[i]? with
  | none => none
  | some o =>
   if (Region.free md ops l i && (Region.ready md ops l).contains i) = true then
    match symv P ops g o a with
    | none => none
    | some (v, obs) =>
     match symH P md ops gs (l.setIfInBounds i true) (a.put o.dst v) with
     | none => none
     | some (l', a', obs') => some (l', a', obs ++ obs')
   else none
section
variable {P : Program} {ops : Array Oper} {Q : Exit → Act → World → Prop} {w : World}
theorem xYz : ∀ (gs : List (Option Value)) {rest : List Oper} {a : Act} {rest' : List Oper} {a' : Act} {obs : List Obl}, symL P ops gs rest a = some (rest', a', obs) → Obls P (fun W => W = w) obs → wpList P ops Q rest' a' w → wpList P ops Q rest a w
 | [], rest, a, rest', a', obs, h, k, q => by cases h; exact q
 | g :: gs, [], a, rest', a', obs, h, k, q => by cases h
 | g :: gs, o :: r, a, rest', a', obs, h, k, q => by
  unfold symL at h
  split at h
  ·cases h
  ·rename_i v obs1 hv
   split at h
   ·cases h
   ·rename_i r2 a2 obs2 h2
    cases h
    obtain ⟨k1, k2⟩ := Obls.app k
    rcases xCz hv k1 with ⟨hw, hr⟩ | ⟨hw, rfl⟩
    ·exact q7z hw (hr w rfl) (xYz gs h2 k2 q)
    ·exact kCz hw (xYz gs h2 k2 q)
variable {md : Region.Mode} {S : World → Prop}
theorem qmz (hs : Region.noSelect ops = true) (hQ : ∀ c a d v w, Q (.panic c) (Act.put a (some d) v) w → Q (.panic c) a w) (hS : S w) : ∀ (gs : List (Nat × Option Value)) {l l' : Array Bool} {a a' : Act} {obs : List Obl} {n m : Nat}, m = n + gs.length → symH P md ops gs l a = some (l', a', obs) → Obls P S obs → wpAnyH P md ops Q S n l' a' w → wpAnyH P md ops Q S m l a w
 | [], l, l', a, a', obs, n, m, hm, h, k, q => by cases h; subst hm; exact q
 | (i, g) :: gs, l, l', a, a', obs, n, m, hm, h, k, q => by
  subst hm
  unfold symH at h
  split at h
  ·cases h
  ·rename_i o ho
   split at h
   ·rename_i hf
    rw [Bool.and_eq_true] at hf
    split at h
    ·cases h
    ·rename_i v obs1 hv
     split at h
     ·cases h
     ·rename_i l2 a2 obs2 h2
      cases h
      obtain ⟨k1, k2⟩ := Obls.app k
      exact wpAnyH_take ho hs hf.1 hf.2 (fun c a w h => putQ hQ h) (xCz hv k1) hS (qmz hs hQ hS gs rfl h2 k2 q)
   ·cases h
end
def lU (r : Option (Array Bool × Act × List Obl)) : Array Bool := match r with | some r => r.1 | none => #[]
def aU (r : Option (Array Bool × Act × List Obl)) : Act := match r with | some r => r.2.1 | none => { tmps := #[], defers := [] }
theorem qGz {P : Program} {md : Region.Mode} {ops : Array Oper} {Q : Exit → Act → World → Prop} {S : World → Prop} {w : World} (hs : Region.noSelect ops = true) (hQ : ∀ c a d v w, Q (.panic c) (Act.put a (some d) v) w → Q (.panic c) a w) (hS : S w) (gs : List (Nat × Option Value)) {l : Array Bool} {a : Act} {obs : List Obl} {n m : Nat} (hm : m = n + gs.length) (h : (symH P md ops gs l a).map (fun r => r.2.2) = some obs) (k : Obls P S obs) (q : wpAnyH P md ops Q S n (lU (symH P md ops gs l a)) (aU (symH P md ops gs l a)) w) : wpAnyH P md ops Q S m l a w := by
 cases e : symH P md ops gs l a with
 | none => rw [e] at h; cases h
 | some r =>
  obtain ⟨l', a', obs'⟩ := r
  rw [e] at h q
  cases h
  exact qmz hs hQ hS gs hm e k q
def pre (n i : Nat) : Array Bool := ((List.range n).map fun j => decide (j < i)).toArray
def vlz (md : Region.Mode) (ops : Array Oper) : Bool := Region.noSelect ops && (List.range ops.size).all fun i => Region.free md ops (pre ops.size i) i && (Region.ready md ops (pre ops.size i)).contains i
theorem xOz (n i : Nat) : (pre n i).size = n := by simp [pre]
theorem x4z {n i j : Nat} (h : j < n) : (pre n i)[j]? = some (decide (j < i)) := by simp [pre, h]
theorem gTz (n i : Nat) : (pre n i).setIfInBounds i true = pre n (i + 1) := by
 apply Array.ext_getElem?
 intro j
 rw [Array.getElem?_setIfInBounds]
 by_cases hj : j < n
 ·rw [x4z hj, x4z hj, xOz]
  by_cases e : i = j
  ·subst e; simp [hj]
  ·rw [if_neg e]
   congr 1
   rw [decide_eq_decide]; omega
 ·have h1 : (pre n i)[j]? = none := Array.getElem?_eq_none (by rw [xOz]; omega)
  have h2 : (pre n (i + 1))[j]? = none := Array.getElem?_eq_none (by rw [xOz]; omega)
  rw [h1, h2, xOz]
  split
  ·rw [if_neg (by omega)]
  ·rfl
theorem pre_zero (n : Nat) : Array.replicate n false = pre n 0 := by
 apply Array.ext_getElem?
 intro j
 by_cases hj : j < n
 ·rw [x4z hj]; simp [hj]
 ·rw [Array.getElem?_eq_none (by simp; omega), Array.getElem?_eq_none (by rw [xOz]; omega)]
section
variable {P : Program} {ops : Array Oper} {Q : Exit → Act → World → Prop} {w : World} {md : Region.Mode} {S : World → Prop}
theorem txt_at (hT : vlz md ops = true) {i : Nat} (hi : i < ops.size) : Region.noSelect ops = true ∧ Region.free md ops (pre ops.size i) i = true ∧ (Region.ready md ops (pre ops.size i)).contains i = true := by
 unfold vlz at hT
 rw [Bool.and_eq_true, List.all_eq_true] at hT
 have := hT.2 i (List.mem_range.2 hi)
 rw [Bool.and_eq_true] at this
 exact ⟨hT.1, this.1, this.2⟩
theorem kGz (hT : vlz md ops = true) (hQ : ∀ c a d v w, Q (.panic c) (Act.put a (some d) v) w → Q (.panic c) a w) (hS : S w) : ∀ (gs : List (Option Value)) (i : Nat) {rest' : List Oper} {a a' : Act} {obs : List Obl} {n m : Nat}, m = n + gs.length → symL P ops gs (ops.toList.drop i) a = some (rest', a', obs) → Obls P S obs → wpAnyH P md ops Q S n (pre ops.size (i + gs.length)) a' w → wpAnyH P md ops Q S m (pre ops.size i) a w
 | [], i, rest', a, a', obs, n, m, hm, h, k, q => by unfold symL at h; cases h; subst hm; exact q
 | g :: gs, i, rest', a, a', obs, n, m, hm, h, k, q => by
  subst hm
  by_cases hi : i < ops.size
  ·have ed : ops.toList.drop i = ops[i] :: ops.toList.drop (i + 1) := by
    rw [List.drop_eq_getElem_cons (by simpa using hi)]
    simp
   rw [ed] at h
   unfold symL at h
   split at h
   ·cases h
   ·rename_i v obs1 hv
    split at h
    ·cases h
    ·rename_i r2 a2 obs2 h2
     cases h
     obtain ⟨k1, k2⟩ := Obls.app k
     obtain ⟨t1, t2, t3⟩ := txt_at hT hi
     refine wpAnyH_take (i := i) (Array.getElem?_eq_getElem hi) t1 t2 t3 (fun c a w h => putQ hQ h) (xCz hv k1) hS ?_
     rw [gTz]
     exact kGz hT hQ hS gs (i + 1) rfl h2 k2 (by rw [show i + 1 + gs.length = i + (g :: gs).length by simp; omega]; exact q)
  ·rw [List.drop_eq_nil_of_le (by simp; omega)] at h
   unfold symL at h
   cases h
theorem qzz (hT : vlz md ops = true) (hQ : ∀ c a d v w, Q (.panic c) (Act.put a (some d) v) w → Q (.panic c) a w) (hS : S w) (gs : List (Option Value)) (i : Nat) {a a' : Act} {obs : List Obl} {n m : Nat} (hm : m = n + gs.length) (h : (symL P ops gs (ops.toList.drop i) a).map (fun r => r.2) = some (a', obs)) (k : Obls P S obs) (q : wpAnyH P md ops Q S n (pre ops.size (i + gs.length)) a' w) : wpAnyH P md ops Q S m (pre ops.size i) a w := by
 cases hs : symL P ops gs (ops.toList.drop i) a with
 | none => rw [hs] at h; cases h
 | some r =>
  obtain ⟨r1, r2, r3⟩ := r
  rw [hs] at h
  cases h
  exact kGz hT hQ hS gs i hm hs k q
def opI (md : Region.Mode) (ops : Array Oper) (o : Oper) : Option Nat × List Nat × List Nat := (o.dst, o.looksAt ops, (o.after.toList.filter (Region.binds md)).map (·.on))
def apI (x y : Option Nat × List Nat × List Nat) : Bool :=
  (match x.1 with
   | some d => !y.2.1.contains d && y.1 != some d
   | none => true) &&
  (match y.1 with
   | some d => !x.2.1.contains d
   | none => true)
def chkI : List (Option Nat × List Nat × List Nat) → Nat → Bool
 | [], _ => true
 | x :: r, i => x.2.2.all (fun e => Nat.blt e i) && (r.all (fun y => apI x y || y.2.2.contains i) && chkI r (i + 1))
theorem bOz : ∀ {l : List (Option Nat × List Nat × List Nat)} {i : Nat}, chkI l i = true → ∀ k x, l[k]? = some x → (∀ e ∈ x.2.2, e < i + k) ∧ ∀ j y, k < j → l[j]? = some y → apI x y = true ∨ (i + k) ∈ y.2.2
 | [], i, h, k, x, hx => by simp at hx
 | z :: r, i, h, 0, x, hx => by
  unfold chkI at h
  rw [Bool.and_eq_true, Bool.and_eq_true, List.all_eq_true, List.all_eq_true] at h
  have : z = x := by simpa using hx
  subst this
  refine ⟨fun e he => by have := h.1 e he; simpa [Nat.blt_eq] using this, fun j y hj hy => ?_⟩
  obtain ⟨j', rfl⟩ : ∃ j', j = j' + 1 := ⟨j - 1, by omega⟩
  have hm : y ∈ r := List.mem_of_getElem? (by simpa using hy)
  have := h.2.1 y hm
  rw [Bool.or_eq_true] at this
  rcases this with h | h
  ·exact .inl h
  ·exact .inr (by simpa using h)
 | z :: r, i, h, k + 1, x, hx => by
  unfold chkI at h
  rw [Bool.and_eq_true, Bool.and_eq_true] at h
  obtain ⟨h1, h2⟩ := bOz h.2.2 k x (by simpa using hx)
  refine ⟨fun e he => by have := h1 e he; omega, fun j y hj hy => ?_⟩
  obtain ⟨j', rfl⟩ : ∃ j', j = j' + 1 := ⟨j - 1, by omega⟩
  have := h2 j' y (by omega) (by simpa using hy)
  rwa [show i + (k + 1) = i + 1 + k by omega]
theorem txt_of {inf : List (Option Nat × List Nat × List Nat)} (hn : Region.noSelect ops = true) (h1 : ops.toList.map (opI md ops) = inf) (h2 : chkI inf 0 = true) : vlz md ops = true := by
 unfold vlz
 rw [hn, Bool.true_and, List.all_eq_true]
 intro i hi
 have hi' := List.mem_range.1 hi
 have hx : inf[i]? = some (opI md ops ops[i]) := by rw [← h1, List.getElem?_map]; simp [hi']
 obtain ⟨q1, q2⟩ := bOz h2 i _ hx
 rw [Nat.zero_add] at q1 q2
 rw [Bool.and_eq_true]
 constructor
 ·unfold Region.free
  rw [Array.getElem?_eq_getElem hi']
  simp only
  rw [List.all_eq_true]
  intro j hj
  have hj' := List.mem_range.1 hj
  rw [Array.getElem?_eq_getElem hj']
  by_cases e : j = i
  ·subst e; simp
  ·by_cases hji : j < i
   ·have : (pre ops.size i).getD j true = true := by rw [Array.getD_eq_getD_getElem?, x4z hj']; simp [hji]
    rw [this]; simp
   ·have hy : inf[j]? = some (opI md ops ops[j]) := by rw [← h1, List.getElem?_map]; simp [hj']
    have hap := q2 j _ (by omega) hy
    rcases hap with h | h
    ·have : Oper.apart ops ops[i] ops[j] = true := h
     simp [this]
    ·have : (ops[j].after.any fun e => Region.binds md e && e.on == i) = true := by
      rw [Array.any_eq_true']
      simp only [opI, List.mem_map, List.mem_filter] at h
      obtain ⟨e, ⟨he1, he2⟩, he3⟩ := h
      exact ⟨e, by simpa using he1, by simp [he2, he3]⟩
     simp [this]
 ·rw [List.contains_iff_mem, mem_ready]
  refine ⟨by rw [Array.getD_eq_getD_getElem?, x4z hi']; simp, ops[i], Array.getElem?_eq_getElem hi', fun e he hb => ?_⟩
  have : e.on < i := q1 e.on (by simp only [opI, List.mem_map, List.mem_filter]; exact ⟨e, ⟨by simpa using he, hb⟩, rfl⟩)
  rw [Array.getD_eq_getD_getElem?, x4z (by omega)]
  simp [this]
theorem uSz {id : Nat} {a : Act} (hm : P.follows .mixedOrders = true) (hT : vlz .any ops = true)
  (hS : S w.drew) (h : vlz .any ops = true → S w.drew → wpAnyH P .any ops Q S ops.size (pre ops.size 0) a w.drew) : (Code.region id ops true).wp P Q a w :=
 PgM.region_out hm hS fun hS => by rw [pre_zero]; exact h hT hS
end
def wFz (ops : Array Oper) (o : Oper) (a : Act) : Option (FuncId × List Value × Option Tmp) :=
 if Region.wanted o (yielded ops a.tmps) then
  match o.op with
  | .call c =>
   match c.callee with
   | .value x =>
    match a.eval x with
    | .func (.func f) fs cs => if (fs.isEmpty && cs.isEmpty) = true then some (f, c.args.toList.map a.eval, o.dst) else none
    | _ => none
   | _ => none
  | _ => none
 else none
variable {ops : Array Oper} {vs : List Value} {d : Option Tmp} {f : FuncId} {a : Act}
theorem xtz {o : Oper} (h : wFz ops o a = some (f, vs, d)) (hc : ∀ args w, (callFunc f args).run prog w = .ok (.enter f args) w) (w : World) : Region.wanted o (yielded ops a.tmps) = true ∧ o.dst = d ∧ (execOp a.eval o).run prog w = .ok (.enter f vs.toArray) w := by
 unfold wFz at h
 split at h
 ·rename_i hw
  split at h
  ·rename_i c ho
   split at h
   ·rename_i x hx
    split at h
    ·rename_i f' fs cs hv
     split at h
     ·rename_i he
      rw [Bool.and_eq_true, Array.isEmpty_iff, Array.isEmpty_iff] at he
      obtain ⟨rfl, rfl⟩ := he
      cases h
      refine ⟨hw, rfl, ?_⟩
      unfold execOp
      simp [ho, resolve, hx, hv, invoke, Deferred.ofValue, hc]
      rw [← Array.toList_map, Array.toArray_toList]
     ·cases h
    ·cases h
   ·cases h
  ·cases h
 ·cases h
variable {Q : Exit → Act → World → Prop} {R : Ending → World → Prop} {w : World}
theorem vhz {S : World → Prop} {i : Nat} {fuel m : Nat} (hm : m = fuel + 1) (hr : Region.ready .any ops (pre ops.size i) = [i]) (hi : (ops[i]?).bind (fun o => wFz ops o a) = some (f, vs, d))
  (hf : ∀ args w, (callFunc f args).run prog w = .ok (.enter f args) w) (hc : Calls prog f vs.toArray w R)
  (h : ∀ e w', R e w' → ∃ v, e = .returned v ∧ S w' ∧ wpAnyH prog .any ops Q S fuel (pre ops.size (i + 1)) (a.put d v) w') : wpAnyH prog .any ops Q S m (pre ops.size i) a w := by
 subst hm
 cases ho : ops[i]? with
 | none => rw [ho] at hi; cases hi
 | some o =>
  rw [ho] at hi
  obtain ⟨h1, h2, h3⟩ := xtz (show wFz ops o a = _ from hi) hf w
  refine v5z hr ho h1 h3 hc ?_
  rw [h2, gTz]
  exact h
theorem xBz {S : World → Prop} {X : Prop} {i : Nat} {fuel m : Nat} (hm : m = fuel + 1) (hr : Region.ready .any ops (pre ops.size i) = [i]) (hi : (ops[i]?).bind (fun o => wFz ops o a) = some (f, vs, d))
  (hf : ∀ args w, (callFunc f args).run prog w = .ok (.enter f args) w) (hc : Asks f vs.toArray X w) (hS : ∀ w', Below w.heap.size w w' → S w')
  (h1 : ∀ w', Hid X → Below w.heap.size w w' → S w' → wpAnyH prog .any ops Q S fuel (pre ops.size (i + 1)) (a.put d (.bool true)) w')
  (h0 : ∀ w', Hid (¬ X) → Below w.heap.size w w' → S w' → wpAnyH prog .any ops Q S fuel (pre ops.size (i + 1)) (a.put d (.bool false)) w') : wpAnyH prog .any ops Q S m (pre ops.size i) a w := by
 refine vhz hm hr hi hf hc ?_
 rintro e w' ⟨b, rfl, hb, hk⟩
 refine ⟨_, rfl, hS w' hk, ?_⟩
 cases b with
 | true => exact h1 w' (hb.out.1 rfl) hk (hS w' hk)
 | false => exact h0 w' (fun x => absurd (hb.out.2 x) Bool.false_ne_true) hk (hS w' hk)
theorem vez {o : Oper} {rest : List Oper} (hi : wFz ops o a = some (f, vs, d))
  (hf : ∀ args w, (callFunc f args).run prog w = .ok (.enter f args) w) (hc : Calls prog f vs.toArray w R)
  (h : ∀ e w', R e w' → ∃ v, e = .returned v ∧ wpList prog ops Q rest (a.put d v) w') : wpList prog ops Q (o :: rest) a w := by
 obtain ⟨h1, h2, h3⟩ := xtz hi hf w
 refine wRz h1 ?_
 unfold Oper.wp
 rw [h3, Oper.upon_enter]
 refine hc.mono ?_
 intro e w' hR
 obtain ⟨v, rfl, h⟩ := h e w' hR
 rw [h2]
 exact h
def wpT (ops : Array Oper) (Q : Exit → Act → World → Prop) (i : Nat) (a : Act) (w : World) : Prop := wpList prog ops Q (ops.toList.drop i) a w ∧ True
def yKz (ops : Array Oper) (o : Oper) (a : Act) : Option (TypeId × Option Tmp) :=
 if Region.wanted o (yielded ops a.tmps) then
  match o.op with
  | .alloc t => some (t, o.dst)
  | _ => none
 else none
def ycz (ops : Array Oper) (o : Oper) (a : Act) : Option (TypeId × Nat × Nat × Value × Option Tmp) :=
 if Region.wanted o (yielded ops a.tmps) then
  match o.op with
  | .store t x y =>
   match a.eval x with
   | .pointer (some ⟨b, off, none⟩) => some (t, b, off, a.eval y, o.dst)
   | _ => none
  | _ => none
 else none
section
variable {ops : Array Oper} {Q : Exit → Act → World → Prop} {w : World} {a a' : Act} {i : Nat}
theorem xkz {id : Nat} (h : wpT ops Q 0 a w) : (Code.region id ops false).wp prog Q a w := wp_region_list (by unfold wpT at h; simpa using h)
theorem qFz (hi : Nat.ble ops.size i = true) (h : Q .normal a w) : wpT ops Q i a w := by
 refine ⟨?_, trivial⟩
 rw [Nat.ble_eq] at hi
 rw [List.drop_eq_nil_of_le (by simpa using hi)]
 exact h
theorem wpT_drop {o : Oper} (ho : ops[i]? = some o) : ops.toList.drop i = o :: ops.toList.drop (i + 1) := by
 obtain ⟨hi, e⟩ := Array.getElem?_eq_some_iff.1 ho
 rw [List.drop_eq_getElem_cons (by simpa using hi)]
 simp [← e]
theorem vqz {P : Program} : ∀ (gs : List (Option Value)) (r : List Oper) (a : Act) {r' : List Oper} {a' : Act} {obs : List Obl}, symL P ops gs r a = some (r', a', obs) → r' = r.drop gs.length
 | [], r, a, r', a', obs, h => by unfold symL at h; cases h; rfl
 | g :: gs, [], a, r', a', obs, h => by unfold symL at h; cases h
 | g :: gs, o :: r, a, r', a', obs, h => by
  unfold symL at h
  split at h
  ·cases h
  ·split at h
   ·cases h
   ·rename_i h2
    cases h
    have := vqz gs r _ h2
    rw [this]; rfl
theorem qDz (gs : List (Option Value)) (i : Nat) {obs : List Obl} (h : (symL prog ops gs (ops.toList.drop i) a).map (fun r => r.2) = some (a', obs)) (k : Obls prog (fun W => W = w) obs) (q : wpT ops Q (i + gs.length) a' w) : wpT ops Q i a w := by
 cases hs : symL prog ops gs (ops.toList.drop i) a with
 | none => rw [hs] at h; cases h
 | some r =>
  obtain ⟨r1, r2, r3⟩ := r
  rw [hs] at h
  cases h
  have := vqz gs _ _ hs
  subst this
  exact ⟨xYz gs hs k (by rw [List.drop_drop]; exact q.1), trivial⟩
def aT {α : Type} (r : Option (α × Act × List Obl)) : Act := match r with | some r => r.2.1 | none => { tmps := #[], defers := [] }
theorem qAz (gs : List (Option Value)) (i : Nat) {obs : List Obl} (h : (symL prog ops gs (ops.toList.drop i) a).map (fun r => r.2.2) = some obs) (k : Obls prog (fun W => W = w) obs) (q : wpT ops Q (i + gs.length) (aT (symL prog ops gs (ops.toList.drop i) a)) w) : wpT ops Q i a w := by
 cases e : symL prog ops gs (ops.toList.drop i) a with
 | none => rw [e] at h; cases h
 | some r =>
  obtain ⟨r1, r2, r3⟩ := r
  rw [e] at h q
  cases h
  exact qDz gs i (by rw [e]; rfl) k q
theorem wpT_call {f : FuncId} {vs : List Value} {d : Option Tmp} {R : Ending → World → Prop} (hi : (ops[i]?).bind (fun o => wFz ops o a) = some (f, vs, d))
  (hf : ∀ args w, (callFunc f args).run prog w = .ok (.enter f args) w) (hc : Calls prog f vs.toArray w R)
  (h : ∀ e w', R e w' → ∃ v, e = .returned v ∧ wpT ops Q (i + 1) (a.put d v) w') : wpT ops Q i a w := by
 cases ho : ops[i]? with
 | none => rw [ho] at hi; cases hi
 | some o =>
  rw [ho] at hi
  refine ⟨?_, trivial⟩
  rw [wpT_drop ho]
  exact vez (show wFz ops o a = _ from hi) hf hc fun e w' r => have ⟨v, x, y⟩ := h e w' r; ⟨v, x, y.1⟩
theorem q4z {X : Prop} {f : FuncId} {vs : List Value} {d : Option Tmp} (hi : (ops[i]?).bind (fun o => wFz ops o a) = some (f, vs, d))
  (hf : ∀ args w, (callFunc f args).run prog w = .ok (.enter f args) w) (hc : Asks f vs.toArray X w)
  (h1 : ∀ w', Hid X → Below w.heap.size w w' → wpT ops Q (i + 1) (a.put d (.bool true)) w')
  (h0 : ∀ w', Hid (¬ X) → Below w.heap.size w w' → wpT ops Q (i + 1) (a.put d (.bool false)) w') : wpT ops Q i a w := by
 refine wpT_call hi hf hc ?_
 rintro e w' ⟨b, rfl, hb, hk⟩
 refine ⟨_, rfl, ?_⟩
 cases b with
 | true => exact h1 w' (hb.out.1 rfl) hk
 | false => exact h0 w' (fun x => absurd (hb.out.2 x) Bool.false_ne_true) hk
theorem qPz {ty : TypeId} {B : Nat} {C old : Array Value} (hB : Blk w B old ty) (hi : (prog.info? ty).map (·.size) = some C.size) (hs : old.size = C.size) (h1 : C.all (·.oneCell') = true) : ∃ W, (storeVar ty ⟨B, 0, none⟩ (.agg C)).run prog w = .ok () W ∧ Blk W B C ty ∧ Oth B w W := by
 have hrow := run_storeVar_row (P := prog) w B ty ty old C hB hi hs h1
 have ht : w.there B 0 C.size := fun j hj => ⟨by rw [hB.cell, Nat.zero_add, Array.getElem?_eq_getElem (by omega)]; rfl, hB.frozen _⟩
 have hmid := run_storeVar_mid (P := prog) w B 0 ty C ht hi h1
 refine ⟨_, hmid, ?_, Oth.setCells B _ _ _⟩
 rw [hrow] at hmid
 have e : w.setRow B C = w.setCells B 0 C.toList := by injection hmid
 rw [← e]
 show (w.heap.modify B _)[B]? = _
 rw [Array.getElem?_modify, if_pos rfl, show w.heap[B]? = _ from hB]
 rfl
theorem xxz {ty t : TypeId} {B o : Nat} {C old : Array Value} (hB : Blk w B old t) (hi : (prog.info? ty).map (·.size) = some C.size) (hs : o + C.size ≤ old.size) (h1 : C.all (·.oneCell') = true) : ∃ W, (storeVar ty ⟨B, o, none⟩ (.agg C)).run prog w = .ok () W ∧ Blk W B (old.extract 0 o ++ C ++ old.extract (o + C.size) old.size) t ∧ Oth B w W := by
 have ht : w.there B o C.size := fun j hj => ⟨by rw [hB.cell, Array.getElem?_eq_getElem (by omega)]; rfl, hB.frozen _⟩
 exact ⟨_, run_storeVar_mid (P := prog) w B o ty C ht hi h1, Blk.part hB hs, Oth.setCells B _ _ _⟩
theorem jdz {ty t : TypeId} {B j : Nat} {v : Value} {C : Array Value} (hB : Blk w B C t) (hv : v.cells = #[v]) (hi : (prog.info? ty).map (·.size) = some 1) (hs : j < C.size) (h1 : v.oneCell' = true) : ∃ W, (storeVar ty ⟨B, j, none⟩ v).run prog w = .ok () W ∧ Blk W B (C.setIfInBounds j v) t ∧ Oth B w W := by
 have ht : w.there B j 1 := fun i hi => ⟨by rw [hB.cell, Array.getElem?_eq_getElem (by omega)]; rfl, hB.frozen _⟩
 have := run_storeCells_cells (P := prog) B j [v] 0 w (fun i hi => by simpa using (ht i (by simpa using hi)).1) (fun i hi => by simpa using (ht i (by simpa using hi)).2) (fun u hu => by simp at hu; rw [hu]; exact h1)
 cases hq : prog.info? ty with
 | none => simp [hq] at hi
 | some i =>
  have hs : i.size = 1 := by simpa [hq] using hi
  simp only [Nat.add_zero] at this
  exact ⟨w.setCells B j [v], by simp [storeVar, sizeOf, typeInfo, hq, hv, hs, this], hB.set j v, Oth.setCell w B j v⟩
end
section
variable {S : World → Prop}
theorem qez {P : Program} {ty : TypeId} {B o : Nat} {v : Value} {C : Array Value} {t : TypeId} (hB : ∀ w, S w → Blk w B C t) (hv : C[o]? = some v) (hg : ∀ w, (isAgg ty).run P w = .ok false w) : Obl.holds P S (.load ty B o v) := fun w hS => by
 have hc : w.cell? ⟨B, o, none⟩ = some v := ((hB w hS).cell o).trans hv
 simp [loadVar, hg, hc]
theorem qIz {P : Program} {ty : TypeId} {B o : Nat} (n : Nat) {C : Array Value} {t : TypeId} (hB : ∀ w, S w → Blk w B C t) {V : Array Value} (hV : C.extract o (o + n) = V) (hs : o + n ≤ C.size) {d : TypeDesc} (hu : P.underlying ty = some d) (hd : d.isRow = true) (hi : (P.info? ty).map (·.size) = some n) : Obl.holds P S (.load ty B o (.agg V)) := fun w hS => by
 subst hV
 have := run_loadVar_mid (P := P) w B o ty (C.extract o (o + n)).toList d ((hB w hS).range o n) hu hd (by rw [hi]; simp; omega)
 rw [Array.toArray_toList] at this
 exact this
theorem qBz {P : Program} {ty : TypeId} {B : Nat} {C : Array Value} {t : TypeId} (hB : ∀ w, S w → Blk w B C t) {d : TypeDesc} (hu : P.underlying ty = some d) (hd : d.isRow = true) (hi : (P.info? ty).map (·.size) = some C.size) : Obl.holds P S (.load ty B 0 (.agg C)) := fun w hS => by
 have := run_loadVar_mid (P := P) w B 0 ty C.toList d (hB w hS).range0 hu hd (by simpa using hi)
 rw [Array.toArray_toList] at this
 exact this
theorem qJz {X : Prop} {f : BinOp} {t : TypeId} {x y : Operand} {u v : Value} (hr : ∀ w, ∃ b : Bool, (do eqGuard f t x y u v; binOp f t u v).run prog w = .ok (.bool b) w ∧ (b = true ↔ X)) (hX : Hid X) : Obl.holds prog S (.test f t x y u v (.bool true)) := fun w hS => by
 obtain ⟨b, h1, h2⟩ := hr w
 rw [h1, h2.2 hX.out]
theorem q2z {X : Prop} {f : BinOp} {t : TypeId} {x y : Operand} {u v : Value} (hr : ∀ w, ∃ b : Bool, (do eqGuard f t x y u v; binOp f t u v).run prog w = .ok (.bool b) w ∧ (b = true ↔ X)) (hX : Hid (¬ X)) : Obl.holds prog S (.test f t x y u v (.bool false)) := fun w hS => by
 obtain ⟨b, h1, h2⟩ := hr w
 cases b with
 | true => exact absurd (h2.1 rfl) hX.out
 | false => exact h1
end
theorem slice4 {S : World → Prop} (B o : Nat) : Obl.holds prog S (.sl 49 (.pointer (some ⟨B, o, none⟩)) none none none (.slice (some ⟨B, o, none⟩) 4 4)) := fun w hS => by
 go_simp
def TwoT (W : World) (B B' : Nat) (T T' : Array Value) : Prop := Blk W B T 51 ∧ Blk W B' T' 51 ∧ True
variable {T T' : Array Value}
theorem TwoT.next {W W' : World} {B B' : Nat} (h : TwoT W B B' T T') (k : Below W.heap.size W W') : TwoT W' B B' T T' := ⟨h.1.next k, h.2.1.next k, trivial⟩
theorem jcz {w : World} {t t' : Th} (h : ThD (LtN w) w T t) (h' : ThD (LtN w) w T' t') :
  Asks 215 #[.agg T, .agg T'] (t = t') w := by
 have hmx : prog.follows .mixedOrders = true := by kernel_rfl
 have hz := h.size
 have hz' := h'.size
 obtain ⟨a17, n17, k17, c17, l17⟩ := h.f.clear
 obtain ⟨a28, n28, k28, c28, l28⟩ := h.f.alerts
 have x0 := kyz h
 have r0 := h.f.rlen
 have x18 := ext2 h.f.sc h.f.si
 have x29 := ext2 h.f.lo h.f.hi
 have x23 := ext5 h.f.wc h.f.wi h.f.wx h.f.wv h.f.wd
 have c16 := h.f.pc
 have c20 := h.f.handler
 have c21 := h.f.vector
 have c22 := h.f.state
 obtain ⟨a17', n17', k17', c17', l17'⟩ := h'.f.clear
 obtain ⟨a28', n28', k28', c28', l28'⟩ := h'.f.alerts
 have x0' := kyz h'
 have r0' := h'.f.rlen
 have x18' := ext2 h'.f.sc h'.f.si
 have x29' := ext2 h'.f.lo h'.f.hi
 have x23' := ext5 h'.f.wc h'.f.wi h'.f.wx h'.f.wv h'.f.wd
 have c16' := h'.f.pc
 have c20' := h'.f.handler
 have c21' := h'.f.vector
 have c22' := h'.f.state
 have ga0 := isAgg39
 have ga1 := isAgg22
 have ga2 := isAgg3
 have ga3 := isAgg4
 have ga4 := isAgg40
 have ga5 := isAgg41
 unfold Asks
 go_enter func215, ntmps215
 simp only [List.append]
 go_wp2_with (first
  | go_skip
  | (with_reducible refine qcz rfl _ _ rfl T rfl ?_; intro B W hB hb hk)
  | (with_reducible refine qcz rfl _ _ rfl T' rfl ?_; intro B' W' hB' hb' hk'; replace hb := hb.next hk'; replace hk := btz hk hk'; clear hk'))
 refine uSz (S := fun W => TwoT W B B' T T') hmx (txt_of (by kernel_rfl) rfl (by kernel_rfl)) (TwoT.next ⟨hb, hb', trivial⟩ (brz _ _).drew) (fun hT hS => ?_)
 replace hk := hk.trans ((brz _ W').drew.mono hk.size)
 generalize W'.drew = W3 at hS hk ⊢
 clear hb hb' hB hB'
 refine qzz hT (fun _ _ _ _ _ h => h) hS [none, some (.agg (t.regs.map (Value.int .u64)).toArray), none, some (.agg (t'.regs.map (Value.int .u64)).toArray)] 0 (a' := { tmps := #[.agg T, .agg T', pt B 0, pt B' 0, .bool false, pt B 0, .agg (t.regs.map (Value.int .u64)).toArray, pt B' 0, .agg (t'.regs.map (Value.int .u64)).toArray, ud, ud, ud, ud, ud, ud, ud, ud, ud, ud, ud, ud, ud, ud, ud, ud, ud, ud, ud, ud, ud, ud, ud, ud, ud, ud, ud, ud, ud, ud, ud, ud, ud, ud, ud, ud, ud, ud, ud, ud, ud, ud, ud, ud, ud, ud, ud, ud, ud, ud, ud, ud, ud, ud, ud, ud, ud, ud, ud, ud, ud, ud, ud, ud, ud, ud, ud, ud, ud, ud, ud], defers := [] }) (obs := [.load 42 (B) (0) (.agg (t.regs.map (Value.int .u64)).toArray), .load 42 (B') (0) (.agg (t'.regs.map (Value.int .u64)).toArray)]) (n := 72) (by kernel_rfl) (by kernel_rfl) ⟨qIz 16 (fun _ h => h.1) x0 (by omega) underlying42 (by kernel_rfl) yRz, qIz 16 (fun _ h => h.2.1) x0' (by omega) underlying42 (by kernel_rfl) yRz, trivial⟩ ?_
 by_cases q0 : t.regs = t'.regs
 ·replace q0 : Hid (t.regs = t'.regs) := q0
  refine qzz hT (fun _ _ _ _ _ h => h) hS [some (.bool true), none, none, some (.int .u64 t.pc), none, some (.int .u64 t'.pc)] 4 (a' := { tmps := #[.agg T, .agg T', pt B 0, pt B' 0, .bool false, pt B 0, .agg (t.regs.map (Value.int .u64)).toArray, pt B' 0, .agg (t'.regs.map (Value.int .u64)).toArray, .bool true, .bool true, pt B 16, .int .u64 t.pc, pt B' 16, .int .u64 t'.pc, ud, ud, ud, ud, ud, ud, ud, ud, ud, ud, ud, ud, ud, ud, ud, ud, ud, ud, ud, ud, ud, ud, ud, ud, ud, ud, ud, ud, ud, ud, ud, ud, ud, ud, ud, ud, ud, ud, ud, ud, ud, ud, ud, ud, ud, ud, ud, ud, ud, ud, ud, ud, ud, ud, ud, ud, ud, ud, ud, ud, ud, ud, ud, ud, ud], defers := [] }) (obs := [.test .eql 42 (.tmp 6) (.tmp 8) (.agg (t.regs.map (Value.int .u64)).toArray) (.agg (t'.regs.map (Value.int .u64)).toArray) (.bool true), .load 22 (B) (16) (.int .u64 t.pc), .load 22 (B') (16) (.int .u64 t'.pc)]) (n := 66) (by kernel_rfl) (by kernel_rfl) ⟨qJz (fun _ => j5z _ _ _ _ r0 r0') q0, qez (fun _ h => h.1) c16 ga1, qez (fun _ h => h.2.1) c16' ga1, trivial⟩ ?_
  by_cases q1 : t.pc = t'.pc
  ·replace q1 : Hid (t.pc = t'.pc) := q1
   refine qzz hT (fun _ _ _ _ _ h => h) hS [some (.bool true), none, none, none, some (.slice a17 n17 k17), none, some (.slice a17' n17' k17')] 10 (a' := { tmps := #[.agg T, .agg T', pt B 0, pt B' 0, .bool false, pt B 0, .agg (t.regs.map (Value.int .u64)).toArray, pt B' 0, .agg (t'.regs.map (Value.int .u64)).toArray, .bool true, .bool true, pt B 16, .int .u64 t.pc, pt B' 16, .int .u64 t'.pc, .bool true, .bool true, .bool true, pt B 17, .slice a17 n17 k17, pt B' 17, .slice a17' n17' k17', ud, ud, ud, ud, ud, ud, ud, ud, ud, ud, ud, ud, ud, ud, ud, ud, ud, ud, ud, ud, ud, ud, ud, ud, ud, ud, ud, ud, ud, ud, ud, ud, ud, ud, ud, ud, ud, ud, ud, ud, ud, ud, ud, ud, ud, ud, ud, ud, ud, ud, ud, ud, ud, ud, ud, ud, ud, ud], defers := [] }) (obs := [.test .eql 22 (.tmp 12) (.tmp 14) (.int .u64 t.pc) (.int .u64 t'.pc) (.bool true), .load 39 (B) (17) (.slice a17 n17 k17), .load 39 (B') (17) (.slice a17' n17' k17')]) (n := 59) (by kernel_rfl) (by kernel_rfl) ⟨qJz (fun _ => qtz _ _ _ _ _ _) q1, qez (fun _ h => h.1) c17 ga0, qez (fun _ h => h.2.1) c17' ga0, trivial⟩ ?_
   refine xBz (i := 17) (fuel := 58) (f := 212) (vs := [.slice a17 n17 k17, .slice a17' n17' k17']) (d := some 22) (by kernel_rfl) (by kernel_rfl) (by kernel_rfl) call212 (eqL l17 l17' hk) (fun _ hb => TwoT.next hS hb) ?_ ?_
   ·intro w2 q2 hb1 hS; replace hk := btz hk hb1; clear hb1
    refine qzz hT (fun _ _ _ _ _ h => h) hS [none, none, none, some (.agg #[.int .u64 t.sc, .int .u64 t.si]), none, some (.agg #[.int .u64 t'.sc, .int .u64 t'.si])] 18 (a' := { tmps := #[.agg T, .agg T', pt B 0, pt B' 0, .bool false, pt B 0, .agg (t.regs.map (Value.int .u64)).toArray, pt B' 0, .agg (t'.regs.map (Value.int .u64)).toArray, .bool true, .bool true, pt B 16, .int .u64 t.pc, pt B' 16, .int .u64 t'.pc, .bool true, .bool true, .bool true, pt B 17, .slice a17 n17 k17, pt B' 17, .slice a17' n17' k17', .bool true, .bool true, .bool true, pt B 18, .agg #[.int .u64 t.sc, .int .u64 t.si], pt B' 18, .agg #[.int .u64 t'.sc, .int .u64 t'.si], ud, ud, ud, ud, ud, ud, ud, ud, ud, ud, ud, ud, ud, ud, ud, ud, ud, ud, ud, ud, ud, ud, ud, ud, ud, ud, ud, ud, ud, ud, ud, ud, ud, ud, ud, ud, ud, ud, ud, ud, ud, ud, ud, ud, ud, ud, ud, ud, ud, ud, ud], defers := [] }) (obs := [.load 44 (B) (18) (.agg #[.int .u64 t.sc, .int .u64 t.si]), .load 44 (B') (18) (.agg #[.int .u64 t'.sc, .int .u64 t'.si])]) (n := 52) (by kernel_rfl) (by kernel_rfl) ⟨qIz 2 (fun _ h => h.1) x18 (by omega) underlying44 (by kernel_rfl) kcz, qIz 2 (fun _ h => h.2.1) x18' (by omega) underlying44 (by kernel_rfl) kcz, trivial⟩ ?_
    by_cases q3 : (t.sc = t'.sc ∧ t.si = t'.si)
    ·replace q3 : Hid ((t.sc = t'.sc ∧ t.si = t'.si)) := q3
     refine qzz hT (fun _ _ _ _ _ h => h) hS [some (.bool true), none, none, none, some (.int .u64 t.handler), none, some (.int .u64 t'.handler)] 24 (a' := { tmps := #[.agg T, .agg T', pt B 0, pt B' 0, .bool false, pt B 0, .agg (t.regs.map (Value.int .u64)).toArray, pt B' 0, .agg (t'.regs.map (Value.int .u64)).toArray, .bool true, .bool true, pt B 16, .int .u64 t.pc, pt B' 16, .int .u64 t'.pc, .bool true, .bool true, .bool true, pt B 17, .slice a17 n17 k17, pt B' 17, .slice a17' n17' k17', .bool true, .bool true, .bool true, pt B 18, .agg #[.int .u64 t.sc, .int .u64 t.si], pt B' 18, .agg #[.int .u64 t'.sc, .int .u64 t'.si], .bool true, .bool true, .bool true, pt B 20, .int .u64 t.handler, pt B' 20, .int .u64 t'.handler, ud, ud, ud, ud, ud, ud, ud, ud, ud, ud, ud, ud, ud, ud, ud, ud, ud, ud, ud, ud, ud, ud, ud, ud, ud, ud, ud, ud, ud, ud, ud, ud, ud, ud, ud, ud, ud, ud, ud, ud, ud, ud, ud, ud], defers := [] }) (obs := [.test .eql 44 (.tmp 26) (.tmp 28) (.agg #[.int .u64 t.sc, .int .u64 t.si]) (.agg #[.int .u64 t'.sc, .int .u64 t'.si]) (.bool true), .load 22 (B) (20) (.int .u64 t.handler), .load 22 (B') (20) (.int .u64 t'.handler)]) (n := 45) (by kernel_rfl) (by kernel_rfl) ⟨qJz (fun _ => kaz _ _ _ _ _ _) q3, qez (fun _ h => h.1) c20 ga1, qez (fun _ h => h.2.1) c20' ga1, trivial⟩ ?_
     by_cases q4 : t.handler = t'.handler
     ·replace q4 : Hid (t.handler = t'.handler) := q4
      refine qzz hT (fun _ _ _ _ _ h => h) hS [some (.bool true), none, none, none, some (.int .u64 t.vector), none, some (.int .u64 t'.vector)] 31 (a' := { tmps := #[.agg T, .agg T', pt B 0, pt B' 0, .bool false, pt B 0, .agg (t.regs.map (Value.int .u64)).toArray, pt B' 0, .agg (t'.regs.map (Value.int .u64)).toArray, .bool true, .bool true, pt B 16, .int .u64 t.pc, pt B' 16, .int .u64 t'.pc, .bool true, .bool true, .bool true, pt B 17, .slice a17 n17 k17, pt B' 17, .slice a17' n17' k17', .bool true, .bool true, .bool true, pt B 18, .agg #[.int .u64 t.sc, .int .u64 t.si], pt B' 18, .agg #[.int .u64 t'.sc, .int .u64 t'.si], .bool true, .bool true, .bool true, pt B 20, .int .u64 t.handler, pt B' 20, .int .u64 t'.handler, .bool true, .bool true, .bool true, pt B 21, .int .u64 t.vector, pt B' 21, .int .u64 t'.vector, ud, ud, ud, ud, ud, ud, ud, ud, ud, ud, ud, ud, ud, ud, ud, ud, ud, ud, ud, ud, ud, ud, ud, ud, ud, ud, ud, ud, ud, ud, ud, ud, ud, ud, ud, ud, ud], defers := [] }) (obs := [.test .eql 22 (.tmp 33) (.tmp 35) (.int .u64 t.handler) (.int .u64 t'.handler) (.bool true), .load 22 (B) (21) (.int .u64 t.vector), .load 22 (B') (21) (.int .u64 t'.vector)]) (n := 38) (by kernel_rfl) (by kernel_rfl) ⟨qJz (fun _ => qtz _ _ _ _ _ _) q4, qez (fun _ h => h.1) c21 ga1, qez (fun _ h => h.2.1) c21' ga1, trivial⟩ ?_
      by_cases q5 : t.vector = t'.vector
      ·replace q5 : Hid (t.vector = t'.vector) := q5
       refine qzz hT (fun _ _ _ _ _ h => h) hS [some (.bool true), none, none, none, some (.int .i64 t.state), none, some (.int .i64 t'.state)] 38 (a' := { tmps := #[.agg T, .agg T', pt B 0, pt B' 0, .bool false, pt B 0, .agg (t.regs.map (Value.int .u64)).toArray, pt B' 0, .agg (t'.regs.map (Value.int .u64)).toArray, .bool true, .bool true, pt B 16, .int .u64 t.pc, pt B' 16, .int .u64 t'.pc, .bool true, .bool true, .bool true, pt B 17, .slice a17 n17 k17, pt B' 17, .slice a17' n17' k17', .bool true, .bool true, .bool true, pt B 18, .agg #[.int .u64 t.sc, .int .u64 t.si], pt B' 18, .agg #[.int .u64 t'.sc, .int .u64 t'.si], .bool true, .bool true, .bool true, pt B 20, .int .u64 t.handler, pt B' 20, .int .u64 t'.handler, .bool true, .bool true, .bool true, pt B 21, .int .u64 t.vector, pt B' 21, .int .u64 t'.vector, .bool true, .bool true, .bool true, pt B 22, .int .i64 t.state, pt B' 22, .int .i64 t'.state, ud, ud, ud, ud, ud, ud, ud, ud, ud, ud, ud, ud, ud, ud, ud, ud, ud, ud, ud, ud, ud, ud, ud, ud, ud, ud, ud, ud, ud, ud], defers := [] }) (obs := [.test .eql 22 (.tmp 40) (.tmp 42) (.int .u64 t.vector) (.int .u64 t'.vector) (.bool true), .load 3 (B) (22) (.int .i64 t.state), .load 3 (B') (22) (.int .i64 t'.state)]) (n := 31) (by kernel_rfl) (by kernel_rfl) ⟨qJz (fun _ => qtz _ _ _ _ _ _) q5, qez (fun _ h => h.1) c22 ga2, qez (fun _ h => h.2.1) c22' ga2, trivial⟩ ?_
       by_cases q6 : t.state = t'.state
       ·replace q6 : Hid (t.state = t'.state) := q6
        refine qzz hT (fun _ _ _ _ _ h => h) hS [some (.bool true), none, none, none, some (.agg #[.int .u64 t.wc, .int .u64 t.wi, .int .u64 t.wx, .int .u64 t.wv, .bool t.wd]), none, some (.agg #[.int .u64 t'.wc, .int .u64 t'.wi, .int .u64 t'.wx, .int .u64 t'.wv, .bool t'.wd])] 45 (a' := { tmps := #[.agg T, .agg T', pt B 0, pt B' 0, .bool false, pt B 0, .agg (t.regs.map (Value.int .u64)).toArray, pt B' 0, .agg (t'.regs.map (Value.int .u64)).toArray, .bool true, .bool true, pt B 16, .int .u64 t.pc, pt B' 16, .int .u64 t'.pc, .bool true, .bool true, .bool true, pt B 17, .slice a17 n17 k17, pt B' 17, .slice a17' n17' k17', .bool true, .bool true, .bool true, pt B 18, .agg #[.int .u64 t.sc, .int .u64 t.si], pt B' 18, .agg #[.int .u64 t'.sc, .int .u64 t'.si], .bool true, .bool true, .bool true, pt B 20, .int .u64 t.handler, pt B' 20, .int .u64 t'.handler, .bool true, .bool true, .bool true, pt B 21, .int .u64 t.vector, pt B' 21, .int .u64 t'.vector, .bool true, .bool true, .bool true, pt B 22, .int .i64 t.state, pt B' 22, .int .i64 t'.state, .bool true, .bool true, .bool true, pt B 23, .agg #[.int .u64 t.wc, .int .u64 t.wi, .int .u64 t.wx, .int .u64 t.wv, .bool t.wd], pt B' 23, .agg #[.int .u64 t'.wc, .int .u64 t'.wi, .int .u64 t'.wx, .int .u64 t'.wv, .bool t'.wd], ud, ud, ud, ud, ud, ud, ud, ud, ud, ud, ud, ud, ud, ud, ud, ud, ud, ud, ud, ud, ud, ud, ud], defers := [] }) (obs := [.test .eql 3 (.tmp 47) (.tmp 49) (.int .i64 t.state) (.int .i64 t'.state) (.bool true), .load 46 (B) (23) (.agg #[.int .u64 t.wc, .int .u64 t.wi, .int .u64 t.wx, .int .u64 t.wv, .bool t.wd]), .load 46 (B') (23) (.agg #[.int .u64 t'.wc, .int .u64 t'.wi, .int .u64 t'.wx, .int .u64 t'.wv, .bool t'.wd])]) (n := 24) (by kernel_rfl) (by kernel_rfl) ⟨qJz (fun _ => qtz _ _ _ _ _ _) q6, qIz 5 (fun _ h => h.1) x23 (by omega) underlying46 (by kernel_rfl) jlz, qIz 5 (fun _ h => h.2.1) x23' (by omega) underlying46 (by kernel_rfl) jlz, trivial⟩ ?_
        by_cases q7 : (t.wc = t'.wc ∧ t.wi = t'.wi ∧ t.wx = t'.wx ∧ t.wv = t'.wv ∧ t.wd = t'.wd)
        ·replace q7 : Hid ((t.wc = t'.wc ∧ t.wi = t'.wi ∧ t.wx = t'.wx ∧ t.wv = t'.wv ∧ t.wd = t'.wd)) := q7
         refine qzz hT (fun _ _ _ _ _ h => h) hS [some (.bool true), none, none, none, some (.slice a28 n28 k28), none, some (.slice a28' n28' k28')] 52 (a' := { tmps := #[.agg T, .agg T', pt B 0, pt B' 0, .bool false, pt B 0, .agg (t.regs.map (Value.int .u64)).toArray, pt B' 0, .agg (t'.regs.map (Value.int .u64)).toArray, .bool true, .bool true, pt B 16, .int .u64 t.pc, pt B' 16, .int .u64 t'.pc, .bool true, .bool true, .bool true, pt B 17, .slice a17 n17 k17, pt B' 17, .slice a17' n17' k17', .bool true, .bool true, .bool true, pt B 18, .agg #[.int .u64 t.sc, .int .u64 t.si], pt B' 18, .agg #[.int .u64 t'.sc, .int .u64 t'.si], .bool true, .bool true, .bool true, pt B 20, .int .u64 t.handler, pt B' 20, .int .u64 t'.handler, .bool true, .bool true, .bool true, pt B 21, .int .u64 t.vector, pt B' 21, .int .u64 t'.vector, .bool true, .bool true, .bool true, pt B 22, .int .i64 t.state, pt B' 22, .int .i64 t'.state, .bool true, .bool true, .bool true, pt B 23, .agg #[.int .u64 t.wc, .int .u64 t.wi, .int .u64 t.wx, .int .u64 t.wv, .bool t.wd], pt B' 23, .agg #[.int .u64 t'.wc, .int .u64 t'.wi, .int .u64 t'.wx, .int .u64 t'.wv, .bool t'.wd], .bool true, .bool true, .bool true, pt B 28, .slice a28 n28 k28, pt B' 28, .slice a28' n28' k28', ud, ud, ud, ud, ud, ud, ud, ud, ud, ud, ud, ud, ud, ud, ud, ud], defers := [] }) (obs := [.test .eql 46 (.tmp 54) (.tmp 56) (.agg #[.int .u64 t.wc, .int .u64 t.wi, .int .u64 t.wx, .int .u64 t.wv, .bool t.wd]) (.agg #[.int .u64 t'.wc, .int .u64 t'.wi, .int .u64 t'.wx, .int .u64 t'.wv, .bool t'.wd]) (.bool true), .load 40 (B) (28) (.slice a28 n28 k28), .load 40 (B') (28) (.slice a28' n28' k28')]) (n := 17) (by kernel_rfl) (by kernel_rfl) ⟨qJz (fun _ => kzz _ _ _ _ _ _ _ _ _ _ _ _) q7, qez (fun _ h => h.1) c28 ga4, qez (fun _ h => h.2.1) c28' ga4, trivial⟩ ?_
         refine xBz (i := 59) (fuel := 16) (f := 213) (vs := [.slice a28 n28 k28, .slice a28' n28' k28']) (d := some 64) (by kernel_rfl) (by kernel_rfl) (by kernel_rfl) call213 (eqU l28 l28' hk) (fun _ hb => TwoT.next hS hb) ?_ ?_
         ·intro w8 q8 hb1 hS; replace hk := btz hk hb1; clear hb1
          refine qzz hT (fun _ _ _ _ _ h => h) hS [none, none, none, some (.agg #[.int .u64 t.lo, .int .u64 t.hi]), none, some (.agg #[.int .u64 t'.lo, .int .u64 t'.hi])] 60 (a' := { tmps := #[.agg T, .agg T', pt B 0, pt B' 0, .bool false, pt B 0, .agg (t.regs.map (Value.int .u64)).toArray, pt B' 0, .agg (t'.regs.map (Value.int .u64)).toArray, .bool true, .bool true, pt B 16, .int .u64 t.pc, pt B' 16, .int .u64 t'.pc, .bool true, .bool true, .bool true, pt B 17, .slice a17 n17 k17, pt B' 17, .slice a17' n17' k17', .bool true, .bool true, .bool true, pt B 18, .agg #[.int .u64 t.sc, .int .u64 t.si], pt B' 18, .agg #[.int .u64 t'.sc, .int .u64 t'.si], .bool true, .bool true, .bool true, pt B 20, .int .u64 t.handler, pt B' 20, .int .u64 t'.handler, .bool true, .bool true, .bool true, pt B 21, .int .u64 t.vector, pt B' 21, .int .u64 t'.vector, .bool true, .bool true, .bool true, pt B 22, .int .i64 t.state, pt B' 22, .int .i64 t'.state, .bool true, .bool true, .bool true, pt B 23, .agg #[.int .u64 t.wc, .int .u64 t.wi, .int .u64 t.wx, .int .u64 t.wv, .bool t.wd], pt B' 23, .agg #[.int .u64 t'.wc, .int .u64 t'.wi, .int .u64 t'.wx, .int .u64 t'.wv, .bool t'.wd], .bool true, .bool true, .bool true, pt B 28, .slice a28 n28 k28, pt B' 28, .slice a28' n28' k28', .bool true, .bool true, .bool true, pt B 29, .agg #[.int .u64 t.lo, .int .u64 t.hi], pt B' 29, .agg #[.int .u64 t'.lo, .int .u64 t'.hi], ud, ud, ud, ud, ud, ud, ud, ud, ud], defers := [] }) (obs := [.load 48 (B) (29) (.agg #[.int .u64 t.lo, .int .u64 t.hi]), .load 48 (B') (29) (.agg #[.int .u64 t'.lo, .int .u64 t'.hi])]) (n := 10) (by kernel_rfl) (by kernel_rfl) ⟨qIz 2 (fun _ h => h.1) x29 (by omega) underlying48 (by kernel_rfl) jkz, qIz 2 (fun _ h => h.2.1) x29' (by omega) underlying48 (by kernel_rfl) jkz, trivial⟩ ?_
          by_cases q9 : (t.lo = t'.lo ∧ t.hi = t'.hi)
          ·replace q9 : Hid ((t.lo = t'.lo ∧ t.hi = t'.hi)) := q9
           refine qzz hT (fun _ _ _ _ _ h => h) hS [some (.bool true), none, none, none, some (.slice (some ⟨B, 31, none⟩) 4 4), none, some (.slice (some ⟨B', 31, none⟩) 4 4)] 66 (a' := { tmps := #[.agg T, .agg T', pt B 0, pt B' 0, .bool false, pt B 0, .agg (t.regs.map (Value.int .u64)).toArray, pt B' 0, .agg (t'.regs.map (Value.int .u64)).toArray, .bool true, .bool true, pt B 16, .int .u64 t.pc, pt B' 16, .int .u64 t'.pc, .bool true, .bool true, .bool true, pt B 17, .slice a17 n17 k17, pt B' 17, .slice a17' n17' k17', .bool true, .bool true, .bool true, pt B 18, .agg #[.int .u64 t.sc, .int .u64 t.si], pt B' 18, .agg #[.int .u64 t'.sc, .int .u64 t'.si], .bool true, .bool true, .bool true, pt B 20, .int .u64 t.handler, pt B' 20, .int .u64 t'.handler, .bool true, .bool true, .bool true, pt B 21, .int .u64 t.vector, pt B' 21, .int .u64 t'.vector, .bool true, .bool true, .bool true, pt B 22, .int .i64 t.state, pt B' 22, .int .i64 t'.state, .bool true, .bool true, .bool true, pt B 23, .agg #[.int .u64 t.wc, .int .u64 t.wi, .int .u64 t.wx, .int .u64 t.wv, .bool t.wd], pt B' 23, .agg #[.int .u64 t'.wc, .int .u64 t'.wi, .int .u64 t'.wx, .int .u64 t'.wv, .bool t'.wd], .bool true, .bool true, .bool true, pt B 28, .slice a28 n28 k28, pt B' 28, .slice a28' n28' k28', .bool true, .bool true, .bool true, pt B 29, .agg #[.int .u64 t.lo, .int .u64 t.hi], pt B' 29, .agg #[.int .u64 t'.lo, .int .u64 t'.hi], .bool true, .bool true, .bool true, pt B 31, .slice (some ⟨B, 31, none⟩) 4 4, pt B' 31, .slice (some ⟨B', 31, none⟩) 4 4, ud, ud], defers := [] }) (obs := [.test .eql 48 (.tmp 68) (.tmp 70) (.agg #[.int .u64 t.lo, .int .u64 t.hi]) (.agg #[.int .u64 t'.lo, .int .u64 t'.hi]) (.bool true), .sl 49 (pt B 31) (none) (none) (none) (.slice (some ⟨B, 31, none⟩) 4 4), .sl 49 (pt B' 31) (none) (none) (none) (.slice (some ⟨B', 31, none⟩) 4 4)]) (n := 3) (by kernel_rfl) (by kernel_rfl) ⟨qJz (fun _ => j4z _ _ _ _ _ _) q9, slice4 _ _, slice4 _ _, trivial⟩ ?_
           refine xBz (i := 73) (fuel := 2) (f := 256) (vs := [.slice (some ⟨B, 31, none⟩) 4 4, .slice (some ⟨B', 31, none⟩) 4 4, .func (.func 212) #[] #[]]) (d := some 78) (by kernel_rfl) (by kernel_rfl) (by kernel_rfl) call256 (four_any (ThD.four (h.next hk) hS.1) (ThD.four (h'.next hk) hS.2.1)) (fun _ hb => TwoT.next hS hb) ?_ ?_
           ·intro w10 q10 hb1 hS; replace hk := btz hk hb1; clear hb1
            refine qzz hT (fun _ _ _ _ _ h => h) hS [none, none] 74 (a' := { tmps := #[.agg T, .agg T', pt B 0, pt B' 0, .bool true, pt B 0, .agg (t.regs.map (Value.int .u64)).toArray, pt B' 0, .agg (t'.regs.map (Value.int .u64)).toArray, .bool true, .bool true, pt B 16, .int .u64 t.pc, pt B' 16, .int .u64 t'.pc, .bool true, .bool true, .bool true, pt B 17, .slice a17 n17 k17, pt B' 17, .slice a17' n17' k17', .bool true, .bool true, .bool true, pt B 18, .agg #[.int .u64 t.sc, .int .u64 t.si], pt B' 18, .agg #[.int .u64 t'.sc, .int .u64 t'.si], .bool true, .bool true, .bool true, pt B 20, .int .u64 t.handler, pt B' 20, .int .u64 t'.handler, .bool true, .bool true, .bool true, pt B 21, .int .u64 t.vector, pt B' 21, .int .u64 t'.vector, .bool true, .bool true, .bool true, pt B 22, .int .i64 t.state, pt B' 22, .int .i64 t'.state, .bool true, .bool true, .bool true, pt B 23, .agg #[.int .u64 t.wc, .int .u64 t.wi, .int .u64 t.wx, .int .u64 t.wv, .bool t.wd], pt B' 23, .agg #[.int .u64 t'.wc, .int .u64 t'.wi, .int .u64 t'.wx, .int .u64 t'.wv, .bool t'.wd], .bool true, .bool true, .bool true, pt B 28, .slice a28 n28 k28, pt B' 28, .slice a28' n28' k28', .bool true, .bool true, .bool true, pt B 29, .agg #[.int .u64 t.lo, .int .u64 t.hi], pt B' 29, .agg #[.int .u64 t'.lo, .int .u64 t'.hi], .bool true, .bool true, .bool true, pt B 31, .slice (some ⟨B, 31, none⟩) 4 4, pt B' 31, .slice (some ⟨B', 31, none⟩) 4 4, .bool true, .bool true], defers := [] }) (obs := []) (n := 0) (by kernel_rfl) (by kernel_rfl) trivial ?_
            refine wpAnyH_done (by kernel_rfl) ?_ _
            go_wp2
            go_ret
            exact qpz (gqz.1 ⟨q0.out, q1.out, q2.out, q3.out, q4.out, q5.out, q6.out, q7.out, q8.out, q9.out, uez.1 q10.out⟩) hk
           ·intro w10 q10 hb1 hS; replace hk := btz hk hb1; clear hb1
            refine qzz hT (fun _ _ _ _ _ h => h) hS [none, none] 74 (a' := { tmps := #[.agg T, .agg T', pt B 0, pt B' 0, .bool false, pt B 0, .agg (t.regs.map (Value.int .u64)).toArray, pt B' 0, .agg (t'.regs.map (Value.int .u64)).toArray, .bool true, .bool true, pt B 16, .int .u64 t.pc, pt B' 16, .int .u64 t'.pc, .bool true, .bool true, .bool true, pt B 17, .slice a17 n17 k17, pt B' 17, .slice a17' n17' k17', .bool true, .bool true, .bool true, pt B 18, .agg #[.int .u64 t.sc, .int .u64 t.si], pt B' 18, .agg #[.int .u64 t'.sc, .int .u64 t'.si], .bool true, .bool true, .bool true, pt B 20, .int .u64 t.handler, pt B' 20, .int .u64 t'.handler, .bool true, .bool true, .bool true, pt B 21, .int .u64 t.vector, pt B' 21, .int .u64 t'.vector, .bool true, .bool true, .bool true, pt B 22, .int .i64 t.state, pt B' 22, .int .i64 t'.state, .bool true, .bool true, .bool true, pt B 23, .agg #[.int .u64 t.wc, .int .u64 t.wi, .int .u64 t.wx, .int .u64 t.wv, .bool t.wd], pt B' 23, .agg #[.int .u64 t'.wc, .int .u64 t'.wi, .int .u64 t'.wx, .int .u64 t'.wv, .bool t'.wd], .bool true, .bool true, .bool true, pt B 28, .slice a28 n28 k28, pt B' 28, .slice a28' n28' k28', .bool true, .bool true, .bool true, pt B 29, .agg #[.int .u64 t.lo, .int .u64 t.hi], pt B' 29, .agg #[.int .u64 t'.lo, .int .u64 t'.hi], .bool true, .bool true, .bool true, pt B 31, .slice (some ⟨B, 31, none⟩) 4 4, pt B' 31, .slice (some ⟨B', 31, none⟩) 4 4, .bool false, .bool false], defers := [] }) (obs := []) (n := 0) (by kernel_rfl) (by kernel_rfl) trivial ?_
            refine wpAnyH_done (by kernel_rfl) ?_ _
            go_wp2
            go_ret
            refine qjz q10 hk ?_; intro e; rw [e]; exact fun _ _ => rfl
          ·replace q9 : Hid (¬ ((t.lo = t'.lo ∧ t.hi = t'.hi))) := q9
           refine qzz hT (fun _ _ _ _ _ h => h) hS (some (.bool false) :: nl 9) 66 (a' := { tmps := #[.agg T, .agg T', pt B 0, pt B' 0, .bool false, pt B 0, .agg (t.regs.map (Value.int .u64)).toArray, pt B' 0, .agg (t'.regs.map (Value.int .u64)).toArray, .bool true, .bool true, pt B 16, .int .u64 t.pc, pt B' 16, .int .u64 t'.pc, .bool true, .bool true, .bool true, pt B 17, .slice a17 n17 k17, pt B' 17, .slice a17' n17' k17', .bool true, .bool true, .bool true, pt B 18, .agg #[.int .u64 t.sc, .int .u64 t.si], pt B' 18, .agg #[.int .u64 t'.sc, .int .u64 t'.si], .bool true, .bool true, .bool true, pt B 20, .int .u64 t.handler, pt B' 20, .int .u64 t'.handler, .bool true, .bool true, .bool true, pt B 21, .int .u64 t.vector, pt B' 21, .int .u64 t'.vector, .bool true, .bool true, .bool true, pt B 22, .int .i64 t.state, pt B' 22, .int .i64 t'.state, .bool true, .bool true, .bool true, pt B 23, .agg #[.int .u64 t.wc, .int .u64 t.wi, .int .u64 t.wx, .int .u64 t.wv, .bool t.wd], pt B' 23, .agg #[.int .u64 t'.wc, .int .u64 t'.wi, .int .u64 t'.wx, .int .u64 t'.wv, .bool t'.wd], .bool true, .bool true, .bool true, pt B 28, .slice a28 n28 k28, pt B' 28, .slice a28' n28' k28', .bool true, .bool true, .bool true, pt B 29, .agg #[.int .u64 t.lo, .int .u64 t.hi], pt B' 29, .agg #[.int .u64 t'.lo, .int .u64 t'.hi], .bool false, .bool false, .bool false, ud, ud, ud, ud, ud, .bool false], defers := [] }) (obs := [.test .eql 48 (.tmp 68) (.tmp 70) (.agg #[.int .u64 t.lo, .int .u64 t.hi]) (.agg #[.int .u64 t'.lo, .int .u64 t'.hi]) (.bool false)]) (n := 0) (by kernel_rfl) (by kernel_rfl) ⟨q2z (fun _ => j4z _ _ _ _ _ _) q9, trivial⟩ ?_
           refine wpAnyH_done (by kernel_rfl) ?_ _
           go_wp2
           go_ret
           refine qjz q9 hk ?_; intro e; rw [e]; exact ⟨rfl, rfl⟩
         ·intro w8 q8 hb1 hS; replace hk := btz hk hb1; clear hb1
          refine qzz hT (fun _ _ _ _ _ h => h) hS (nl 16) 60 (a' := { tmps := #[.agg T, .agg T', pt B 0, pt B' 0, .bool false, pt B 0, .agg (t.regs.map (Value.int .u64)).toArray, pt B' 0, .agg (t'.regs.map (Value.int .u64)).toArray, .bool true, .bool true, pt B 16, .int .u64 t.pc, pt B' 16, .int .u64 t'.pc, .bool true, .bool true, .bool true, pt B 17, .slice a17 n17 k17, pt B' 17, .slice a17' n17' k17', .bool true, .bool true, .bool true, pt B 18, .agg #[.int .u64 t.sc, .int .u64 t.si], pt B' 18, .agg #[.int .u64 t'.sc, .int .u64 t'.si], .bool true, .bool true, .bool true, pt B 20, .int .u64 t.handler, pt B' 20, .int .u64 t'.handler, .bool true, .bool true, .bool true, pt B 21, .int .u64 t.vector, pt B' 21, .int .u64 t'.vector, .bool true, .bool true, .bool true, pt B 22, .int .i64 t.state, pt B' 22, .int .i64 t'.state, .bool true, .bool true, .bool true, pt B 23, .agg #[.int .u64 t.wc, .int .u64 t.wi, .int .u64 t.wx, .int .u64 t.wv, .bool t.wd], pt B' 23, .agg #[.int .u64 t'.wc, .int .u64 t'.wi, .int .u64 t'.wx, .int .u64 t'.wv, .bool t'.wd], .bool true, .bool true, .bool true, pt B 28, .slice a28 n28 k28, pt B' 28, .slice a28' n28' k28', .bool false, .bool false, .bool false, ud, ud, ud, ud, ud, .bool false, .bool false, ud, ud, ud, ud, ud, .bool false], defers := [] }) (obs := []) (n := 0) (by kernel_rfl) (by kernel_rfl) trivial ?_
          refine wpAnyH_done (by kernel_rfl) ?_ _
          go_wp2
          go_ret
          refine qjz q8 hk ?_; intro e; rw [e]; done
        ·replace q7 : Hid (¬ ((t.wc = t'.wc ∧ t.wi = t'.wi ∧ t.wx = t'.wx ∧ t.wv = t'.wv ∧ t.wd = t'.wd))) := q7
         refine qzz hT (fun _ _ _ _ _ h => h) hS (some (.bool false) :: nl 23) 52 (a' := { tmps := #[.agg T, .agg T', pt B 0, pt B' 0, .bool false, pt B 0, .agg (t.regs.map (Value.int .u64)).toArray, pt B' 0, .agg (t'.regs.map (Value.int .u64)).toArray, .bool true, .bool true, pt B 16, .int .u64 t.pc, pt B' 16, .int .u64 t'.pc, .bool true, .bool true, .bool true, pt B 17, .slice a17 n17 k17, pt B' 17, .slice a17' n17' k17', .bool true, .bool true, .bool true, pt B 18, .agg #[.int .u64 t.sc, .int .u64 t.si], pt B' 18, .agg #[.int .u64 t'.sc, .int .u64 t'.si], .bool true, .bool true, .bool true, pt B 20, .int .u64 t.handler, pt B' 20, .int .u64 t'.handler, .bool true, .bool true, .bool true, pt B 21, .int .u64 t.vector, pt B' 21, .int .u64 t'.vector, .bool true, .bool true, .bool true, pt B 22, .int .i64 t.state, pt B' 22, .int .i64 t'.state, .bool true, .bool true, .bool true, pt B 23, .agg #[.int .u64 t.wc, .int .u64 t.wi, .int .u64 t.wx, .int .u64 t.wv, .bool t.wd], pt B' 23, .agg #[.int .u64 t'.wc, .int .u64 t'.wi, .int .u64 t'.wx, .int .u64 t'.wv, .bool t'.wd], .bool false, .bool false, .bool false, ud, ud, ud, ud, ud, .bool false, .bool false, ud, ud, ud, ud, ud, .bool false, .bool false, ud, ud, ud, ud, ud, .bool false], defers := [] }) (obs := [.test .eql 46 (.tmp 54) (.tmp 56) (.agg #[.int .u64 t.wc, .int .u64 t.wi, .int .u64 t.wx, .int .u64 t.wv, .bool t.wd]) (.agg #[.int .u64 t'.wc, .int .u64 t'.wi, .int .u64 t'.wx, .int .u64 t'.wv, .bool t'.wd]) (.bool false)]) (n := 0) (by kernel_rfl) (by kernel_rfl) ⟨q2z (fun _ => kzz _ _ _ _ _ _ _ _ _ _ _ _) q7, trivial⟩ ?_
         refine wpAnyH_done (by kernel_rfl) ?_ _
         go_wp2
         go_ret
         refine qjz q7 hk ?_; intro e; rw [e]; exact ⟨rfl, rfl, rfl, rfl, rfl⟩
       ·replace q6 : Hid (¬ (t.state = t'.state)) := q6
        refine qzz hT (fun _ _ _ _ _ h => h) hS (some (.bool false) :: nl 30) 45 (a' := { tmps := #[.agg T, .agg T', pt B 0, pt B' 0, .bool false, pt B 0, .agg (t.regs.map (Value.int .u64)).toArray, pt B' 0, .agg (t'.regs.map (Value.int .u64)).toArray, .bool true, .bool true, pt B 16, .int .u64 t.pc, pt B' 16, .int .u64 t'.pc, .bool true, .bool true, .bool true, pt B 17, .slice a17 n17 k17, pt B' 17, .slice a17' n17' k17', .bool true, .bool true, .bool true, pt B 18, .agg #[.int .u64 t.sc, .int .u64 t.si], pt B' 18, .agg #[.int .u64 t'.sc, .int .u64 t'.si], .bool true, .bool true, .bool true, pt B 20, .int .u64 t.handler, pt B' 20, .int .u64 t'.handler, .bool true, .bool true, .bool true, pt B 21, .int .u64 t.vector, pt B' 21, .int .u64 t'.vector, .bool true, .bool true, .bool true, pt B 22, .int .i64 t.state, pt B' 22, .int .i64 t'.state, .bool false, .bool false, .bool false, ud, ud, ud, ud, ud, .bool false, .bool false, ud, ud, ud, ud, ud, .bool false, .bool false, ud, ud, ud, ud, ud, .bool false, .bool false, ud, ud, ud, ud, ud, .bool false], defers := [] }) (obs := [.test .eql 3 (.tmp 47) (.tmp 49) (.int .i64 t.state) (.int .i64 t'.state) (.bool false)]) (n := 0) (by kernel_rfl) (by kernel_rfl) ⟨q2z (fun _ => qtz _ _ _ _ _ _) q6, trivial⟩ ?_
        refine wpAnyH_done (by kernel_rfl) ?_ _
        go_wp2
        go_ret
        refine qjz q6 hk ?_; intro e; rw [e]; done
      ·replace q5 : Hid (¬ (t.vector = t'.vector)) := q5
       refine qzz hT (fun _ _ _ _ _ h => h) hS (some (.bool false) :: nl 37) 38 (a' := { tmps := #[.agg T, .agg T', pt B 0, pt B' 0, .bool false, pt B 0, .agg (t.regs.map (Value.int .u64)).toArray, pt B' 0, .agg (t'.regs.map (Value.int .u64)).toArray, .bool true, .bool true, pt B 16, .int .u64 t.pc, pt B' 16, .int .u64 t'.pc, .bool true, .bool true, .bool true, pt B 17, .slice a17 n17 k17, pt B' 17, .slice a17' n17' k17', .bool true, .bool true, .bool true, pt B 18, .agg #[.int .u64 t.sc, .int .u64 t.si], pt B' 18, .agg #[.int .u64 t'.sc, .int .u64 t'.si], .bool true, .bool true, .bool true, pt B 20, .int .u64 t.handler, pt B' 20, .int .u64 t'.handler, .bool true, .bool true, .bool true, pt B 21, .int .u64 t.vector, pt B' 21, .int .u64 t'.vector, .bool false, .bool false, .bool false, ud, ud, ud, ud, ud, .bool false, .bool false, ud, ud, ud, ud, ud, .bool false, .bool false, ud, ud, ud, ud, ud, .bool false, .bool false, ud, ud, ud, ud, ud, .bool false, .bool false, ud, ud, ud, ud, ud, .bool false], defers := [] }) (obs := [.test .eql 22 (.tmp 40) (.tmp 42) (.int .u64 t.vector) (.int .u64 t'.vector) (.bool false)]) (n := 0) (by kernel_rfl) (by kernel_rfl) ⟨q2z (fun _ => qtz _ _ _ _ _ _) q5, trivial⟩ ?_
       refine wpAnyH_done (by kernel_rfl) ?_ _
       go_wp2
       go_ret
       refine qjz q5 hk ?_; intro e; rw [e]; done
     ·replace q4 : Hid (¬ (t.handler = t'.handler)) := q4
      refine qzz hT (fun _ _ _ _ _ h => h) hS (some (.bool false) :: nl 44) 31 (a' := { tmps := #[.agg T, .agg T', pt B 0, pt B' 0, .bool false, pt B 0, .agg (t.regs.map (Value.int .u64)).toArray, pt B' 0, .agg (t'.regs.map (Value.int .u64)).toArray, .bool true, .bool true, pt B 16, .int .u64 t.pc, pt B' 16, .int .u64 t'.pc, .bool true, .bool true, .bool true, pt B 17, .slice a17 n17 k17, pt B' 17, .slice a17' n17' k17', .bool true, .bool true, .bool true, pt B 18, .agg #[.int .u64 t.sc, .int .u64 t.si], pt B' 18, .agg #[.int .u64 t'.sc, .int .u64 t'.si], .bool true, .bool true, .bool true, pt B 20, .int .u64 t.handler, pt B' 20, .int .u64 t'.handler, .bool false, .bool false, .bool false, ud, ud, ud, ud, ud, .bool false, .bool false, ud, ud, ud, ud, ud, .bool false, .bool false, ud, ud, ud, ud, ud, .bool false, .bool false, ud, ud, ud, ud, ud, .bool false, .bool false, ud, ud, ud, ud, ud, .bool false, .bool false, ud, ud, ud, ud, ud, .bool false], defers := [] }) (obs := [.test .eql 22 (.tmp 33) (.tmp 35) (.int .u64 t.handler) (.int .u64 t'.handler) (.bool false)]) (n := 0) (by kernel_rfl) (by kernel_rfl) ⟨q2z (fun _ => qtz _ _ _ _ _ _) q4, trivial⟩ ?_
      refine wpAnyH_done (by kernel_rfl) ?_ _
      go_wp2
      go_ret
      refine qjz q4 hk ?_; intro e; rw [e]; done
    ·replace q3 : Hid (¬ ((t.sc = t'.sc ∧ t.si = t'.si))) := q3
     refine qzz hT (fun _ _ _ _ _ h => h) hS (some (.bool false) :: nl 51) 24 (a' := { tmps := #[.agg T, .agg T', pt B 0, pt B' 0, .bool false, pt B 0, .agg (t.regs.map (Value.int .u64)).toArray, pt B' 0, .agg (t'.regs.map (Value.int .u64)).toArray, .bool true, .bool true, pt B 16, .int .u64 t.pc, pt B' 16, .int .u64 t'.pc, .bool true, .bool true, .bool true, pt B 17, .slice a17 n17 k17, pt B' 17, .slice a17' n17' k17', .bool true, .bool true, .bool true, pt B 18, .agg #[.int .u64 t.sc, .int .u64 t.si], pt B' 18, .agg #[.int .u64 t'.sc, .int .u64 t'.si], .bool false, .bool false, .bool false, ud, ud, ud, ud, ud, .bool false, .bool false, ud, ud, ud, ud, ud, .bool false, .bool false, ud, ud, ud, ud, ud, .bool false, .bool false, ud, ud, ud, ud, ud, .bool false, .bool false, ud, ud, ud, ud, ud, .bool false, .bool false, ud, ud, ud, ud, ud, .bool false, .bool false, ud, ud, ud, ud, ud, .bool false], defers := [] }) (obs := [.test .eql 44 (.tmp 26) (.tmp 28) (.agg #[.int .u64 t.sc, .int .u64 t.si]) (.agg #[.int .u64 t'.sc, .int .u64 t'.si]) (.bool false)]) (n := 0) (by kernel_rfl) (by kernel_rfl) ⟨q2z (fun _ => kaz _ _ _ _ _ _) q3, trivial⟩ ?_
     refine wpAnyH_done (by kernel_rfl) ?_ _
     go_wp2
     go_ret
     refine qjz q3 hk ?_; intro e; rw [e]; exact ⟨rfl, rfl⟩
   ·intro w2 q2 hb1 hS; replace hk := btz hk hb1; clear hb1
    refine qzz hT (fun _ _ _ _ _ h => h) hS (nl 58) 18 (a' := { tmps := #[.agg T, .agg T', pt B 0, pt B' 0, .bool false, pt B 0, .agg (t.regs.map (Value.int .u64)).toArray, pt B' 0, .agg (t'.regs.map (Value.int .u64)).toArray, .bool true, .bool true, pt B 16, .int .u64 t.pc, pt B' 16, .int .u64 t'.pc, .bool true, .bool true, .bool true, pt B 17, .slice a17 n17 k17, pt B' 17, .slice a17' n17' k17', .bool false, .bool false, .bool false, ud, ud, ud, ud, ud, .bool false, .bool false, ud, ud, ud, ud, ud, .bool false, .bool false, ud, ud, ud, ud, ud, .bool false, .bool false, ud, ud, ud, ud, ud, .bool false, .bool false, ud, ud, ud, ud, ud, .bool false, .bool false, ud, ud, ud, ud, ud, .bool false, .bool false, ud, ud, ud, ud, ud, .bool false, .bool false, ud, ud, ud, ud, ud, .bool false], defers := [] }) (obs := []) (n := 0) (by kernel_rfl) (by kernel_rfl) trivial ?_
    refine wpAnyH_done (by kernel_rfl) ?_ _
    go_wp2
    go_ret
    refine qjz q2 hk ?_; intro e; rw [e]; done
  ·replace q1 : Hid (¬ (t.pc = t'.pc)) := q1
   refine qzz hT (fun _ _ _ _ _ h => h) hS (some (.bool false) :: nl 65) 10 (a' := { tmps := #[.agg T, .agg T', pt B 0, pt B' 0, .bool false, pt B 0, .agg (t.regs.map (Value.int .u64)).toArray, pt B' 0, .agg (t'.regs.map (Value.int .u64)).toArray, .bool true, .bool true, pt B 16, .int .u64 t.pc, pt B' 16, .int .u64 t'.pc, .bool false, .bool false, .bool false, ud, ud, ud, ud, ud, .bool false, .bool false, ud, ud, ud, ud, ud, .bool false, .bool false, ud, ud, ud, ud, ud, .bool false, .bool false, ud, ud, ud, ud, ud, .bool false, .bool false, ud, ud, ud, ud, ud, .bool false, .bool false, ud, ud, ud, ud, ud, .bool false, .bool false, ud, ud, ud, ud, ud, .bool false, .bool false, ud, ud, ud, ud, ud, .bool false, .bool false, ud, ud, ud, ud, ud, .bool false], defers := [] }) (obs := [.test .eql 22 (.tmp 12) (.tmp 14) (.int .u64 t.pc) (.int .u64 t'.pc) (.bool false)]) (n := 0) (by kernel_rfl) (by kernel_rfl) ⟨q2z (fun _ => qtz _ _ _ _ _ _) q1, trivial⟩ ?_
   refine wpAnyH_done (by kernel_rfl) ?_ _
   go_wp2
   go_ret
   refine qjz q1 hk ?_; intro e; rw [e]; done
 ·replace q0 : Hid (¬ (t.regs = t'.regs)) := q0
  refine qzz hT (fun _ _ _ _ _ h => h) hS (some (.bool false) :: nl 71) 4 (a' := { tmps := #[.agg T, .agg T', pt B 0, pt B' 0, .bool false, pt B 0, .agg (t.regs.map (Value.int .u64)).toArray, pt B' 0, .agg (t'.regs.map (Value.int .u64)).toArray, .bool false, .bool false, ud, ud, ud, ud, ud, .bool false, .bool false, ud, ud, ud, ud, ud, .bool false, .bool false, ud, ud, ud, ud, ud, .bool false, .bool false, ud, ud, ud, ud, ud, .bool false, .bool false, ud, ud, ud, ud, ud, .bool false, .bool false, ud, ud, ud, ud, ud, .bool false, .bool false, ud, ud, ud, ud, ud, .bool false, .bool false, ud, ud, ud, ud, ud, .bool false, .bool false, ud, ud, ud, ud, ud, .bool false, .bool false, ud, ud, ud, ud, ud, .bool false], defers := [] }) (obs := [.test .eql 42 (.tmp 6) (.tmp 8) (.agg (t.regs.map (Value.int .u64)).toArray) (.agg (t'.regs.map (Value.int .u64)).toArray) (.bool false)]) (n := 0) (by kernel_rfl) (by kernel_rfl) ⟨q2z (fun _ => j5z _ _ _ _ r0 r0') q0, trivial⟩ ?_
  refine wpAnyH_done (by kernel_rfl) ?_ _
  go_wp2
  go_ret
  refine qjz q0 hk ?_; intro e; rw [e]; done
theorem Asks.yes {f : FuncId} {args : Array Value} {X : Prop} {W : World} (h : Asks f args X W) (hX : X) : Calls prog f args W fun e w' => e = .returned (.bool true) ∧ Below W.heap.size W w' :=
 h.on (fun _ _ k => ⟨rfl, k⟩) (fun _ q _ => absurd hX q.out)
theorem Asks.no {f : FuncId} {args : Array Value} {X : Prop} {W : World} (h : Asks f args X W) (hX : ¬ X) : Calls prog f args W fun e w' => e = .returned (.bool false) ∧ Below W.heap.size W w' :=
 h.on (fun _ q _ => absurd q.out hX) (fun _ _ k => ⟨rfl, k⟩)
theorem kNz {w : World} {t t' : Th} (h : ThD (LtN w) w T t) (h' : ThD (LtN w) w T' t') :
  Asks 42 #[.agg T, .agg T'] (t = t') w := by
 have hz := h.size
 have hz' := h'.size
 obtain ⟨a17, n17, k17, c17, l17⟩ := h.f.clear
 obtain ⟨a28, n28, k28, c28, l28⟩ := h.f.alerts
 have x0 := kyz h
 have r0 := h.f.rlen
 have x18 := ext2 h.f.sc h.f.si
 have x29 := ext2 h.f.lo h.f.hi
 have x23 := ext5 h.f.wc h.f.wi h.f.wx h.f.wv h.f.wd
 have c16 := h.f.pc
 have c20 := h.f.handler
 have c21 := h.f.vector
 have c22 := h.f.state
 obtain ⟨a17', n17', k17', c17', l17'⟩ := h'.f.clear
 obtain ⟨a28', n28', k28', c28', l28'⟩ := h'.f.alerts
 have x0' := kyz h'
 have r0' := h'.f.rlen
 have x18' := ext2 h'.f.sc h'.f.si
 have x29' := ext2 h'.f.lo h'.f.hi
 have x23' := ext5 h'.f.wc h'.f.wi h'.f.wx h'.f.wv h'.f.wd
 have c16' := h'.f.pc
 have c20' := h'.f.handler
 have c21' := h'.f.vector
 have c22' := h'.f.state
 have ga0 := isAgg39
 have ga1 := isAgg22
 have ga2 := isAgg3
 have ga3 := isAgg4
 have ga4 := isAgg40
 have ga5 := isAgg41
 unfold Asks
 go_enter func42, ntmps42
 simp only [List.append]
 go_wp2_with (first
  | go_skip
  | (with_reducible refine qcz rfl _ _ rfl T rfl ?_; intro B W hB hb hk)
  | (with_reducible refine qcz rfl _ _ rfl T' rfl ?_; intro B' W' hB' hb' hk'; replace hb := hb.next hk'; replace hk := btz hk hk'; clear hk'))
 have hf := ThD.four (h.next hk) hb
 have hf' := ThD.four (h'.next hk) hb'
 go_loopw [5] (fun i wr => ∃ k : Nat, k ≤ 4 ∧ i = .int .i64 k ∧ Hid (∀ j, j < k → labs t j = labs t' j) ∧ Below W'.heap.size W' wr) (fun i _ => 4 - (intOf i).toNat)
 case atStart => exact ⟨0, Nat.zero_le _, rfl, fun j hj => absurd hj (by omega), brz _ _⟩
 case round =>
  obtain ⟨k, hk4, rfl, hal, hbw⟩ := hrel
  by_cases hkn : k < 4
  ·obtain ⟨ai, ni, ci, d1, q2⟩ := (hf.next hbw).2 k hkn
   obtain ⟨ai', ni', ci', d1', q2'⟩ := (hf'.next hbw).2 k hkn
   have hkn' : (k : Int) < 4 := by omega
   have hbz := hb.next hbw
   have hbz' := hb'.next hbw
   have hd0 := (hb.next hbw).lt
   have hd0' := (hb'.next hbw).lt
   clear hb hb' hbz hbz' hf hf'
   by_cases hq : labs t k = labs t' k
   ·replace hq : Hid (labs t k = labs t' k) := hq
    go_wp2
    go_region_held3 (fun w' => w'.cell? ⟨B, 31 + k, none⟩ = some (.slice ai ni ci) ∧ w'.cell? ⟨B', 31 + k, none⟩ = some (.slice ai' ni' ci')) (first | go_keep | (exact ⟨(hb1.cell (p := ⟨B, 31 + k, none⟩) hd0).trans d1, (hb1.cell (p := ⟨B', 31 + k, none⟩) hd0').trans d1'⟩) | fail) (first | (go_at_call 16; (with_reducible refine ((reqL q2 q2' (brz _ _).drew).yes hq.out).mono ?_); rintro e w1 ⟨rfl, hb1⟩) | fail)
    have hb2 := (brz wr.heap.size wr).drew.trans hb1
    go_wp2
    go_roundw
    case rel => exact ⟨k + 1, by omega, by go_num, fun j hj => by
      rcases Nat.lt_or_ge j k with h | h
      ·exact hal.out j h
      ·obtain rfl : j = k := by omega
       exact hq.out, btz hbw hb2⟩
    case measure => simp [intOf]; omega
   ·replace hq : Hid (¬ labs t k = labs t' k) := hq
    go_wp2
    go_region_held3 (fun w' => w'.cell? ⟨B, 31 + k, none⟩ = some (.slice ai ni ci) ∧ w'.cell? ⟨B', 31 + k, none⟩ = some (.slice ai' ni' ci')) (first | go_keep | (exact ⟨(hb1.cell (p := ⟨B, 31 + k, none⟩) hd0).trans d1, (hb1.cell (p := ⟨B', 31 + k, none⟩) hd0').trans d1'⟩) | fail) (first | (go_at_call 16; (with_reducible refine ((reqL q2 q2' (brz _ _).drew).no hq.out).mono ?_); rintro e w1 ⟨rfl, hb1⟩) | fail)
    have hb2 := (brz wr.heap.size wr).drew.trans hb1
    go_wp2
    go_ret
    exact qjz hq (hk.trans ((btz hbw hb2).mono hk.size)) (fun e => by rw [e])
  ·obtain rfl : k = 4 := by omega
   replace hb := hb.next hbw
   replace hb' := hb'.next hbw
   replace hk := btz hk hbw
   clear hf hf' hbw
   simp only [show ((4 : Nat) : Int) = 4 from rfl]
   go_wp2_with (first
    | go_skip
    | (with_reducible refine qaz (by kernel_rfl) _ _ rfl B _ rfl _ _ hb _ (by assumption) (by assumption) ?_)
    | (with_reducible refine qaz (by kernel_rfl) _ _ rfl B' _ rfl _ _ hb' _ (by assumption) (by assumption) ?_)
    | (with_reducible refine qnz (by kernel_rfl) 44 _ rfl B _ rfl 2 _ _ hb _ (by assumption) (by omega) _ underlying44 (by kernel_rfl) kcz ?_)
    | (with_reducible refine qnz (by kernel_rfl) 44 _ rfl B' _ rfl 2 _ _ hb' _ (by assumption) (by omega) _ underlying44 (by kernel_rfl) kcz ?_)
    | (with_reducible refine qnz (by kernel_rfl) 48 _ rfl B _ rfl 2 _ _ hb _ (by assumption) (by omega) _ underlying48 (by kernel_rfl) jkz ?_)
    | (with_reducible refine qnz (by kernel_rfl) 48 _ rfl B' _ rfl 2 _ _ hb' _ (by assumption) (by omega) _ underlying48 (by kernel_rfl) jkz ?_)
    | (with_reducible refine qnz (by kernel_rfl) 46 _ rfl B _ rfl 5 _ _ hb _ (by assumption) (by omega) _ underlying46 (by kernel_rfl) jlz ?_)
    | (with_reducible refine qnz (by kernel_rfl) 46 _ rfl B' _ rfl 5 _ _ hb' _ (by assumption) (by omega) _ underlying46 (by kernel_rfl) jlz ?_)
    | (with_reducible refine qnz (by kernel_rfl) 42 _ rfl B _ rfl 16 _ _ hb _ (by assumption) (by omega) _ underlying42 (by kernel_rfl) yRz ?_)
    | (with_reducible refine qnz (by kernel_rfl) 42 _ rfl B' _ rfl 16 _ _ hb' _ (by assumption) (by omega) _ underlying42 (by kernel_rfl) yRz ?_)
    | ((with_reducible refine qgz (by kernel_rfl) .eql _ _ _ _ rfl _ _ rfl rfl (qtz _ _ _ _ _ _) ?_ ?_) <;> intro hq)
    | ((with_reducible refine qgz (by kernel_rfl) .eql _ _ _ _ rfl _ _ rfl rfl (kaz _ _ _ _ _ _) ?_ ?_) <;> intro hq)
    | ((with_reducible refine qgz (by kernel_rfl) .eql _ _ _ _ rfl _ _ rfl rfl (j4z _ _ _ _ _ _) ?_ ?_) <;> intro hq)
    | ((with_reducible refine qgz (by kernel_rfl) .eql _ _ _ _ rfl _ _ rfl rfl (kzz _ _ _ _ _ _ _ _ _ _ _ _) ?_ ?_) <;> intro hq)
    | ((with_reducible refine qgz (by kernel_rfl) .eql _ _ _ _ rfl _ _ rfl rfl (j5z _ _ _ _ r0 r0') ?_ ?_) <;> intro hq)
    | (go_at_call 16; (with_reducible refine (reqL (by assumption) (by assumption) hk).on ?_ ?_) <;> (intro w1 hq hb1; replace hb := hb.next hb1; replace hb' := hb'.next hb1; replace hk := btz hk hb1; clear hb1))
    | (go_at_call 18; (with_reducible refine (reqU (by assumption) (by assumption) hk).on ?_ ?_) <;> (intro w1 hq hb1; replace hb := hb.next hb1; replace hb' := hb'.next hb1; replace hk := btz hk hb1; clear hb1)))
   all_goals go_ret
   all_goals first
    | (refine qjz (by assumption) hk ?_; intro e; rw [e]; done)
    | (refine qjz (by assumption) hk ?_; intro e; rw [e]; exact ⟨rfl, rfl⟩)
    | (refine qjz (by assumption) hk ?_; intro e; rw [e]; exact ⟨rfl, rfl, rfl, rfl, rfl⟩)
    | (refine qjz (by assumption) hk ?_; intro e; rw [e]; exact fun _ _ => rfl)
    | (refine qpz ?_ hk; exact gqz.1 ⟨Hid.out (by assumption), Hid.out (by assumption), Hid.out (by assumption), Hid.out (by assumption), Hid.out (by assumption), Hid.out (by assumption), Hid.out (by assumption), Hid.out (by assumption), Hid.out (by assumption), Hid.out (by assumption), uez.1 hal.out⟩)
    | fail
end
end Go.Proofs.YtloghnpfplljgaaGreat
