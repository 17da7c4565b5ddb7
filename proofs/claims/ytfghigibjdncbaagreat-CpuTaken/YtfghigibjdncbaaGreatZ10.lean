/-
 PROVED HERE: steps through a region whose order is drawn: what is read may be taken first, a call that answers yes or no, a. What is asked stands at each.
-/
import Derived.Deep.RegionHeld3
import Derived.Deep.DeepCutAuto
import Derived.BigQuiet
import Derived.Laws.AppendOwn
import Derived.Laws.OwnMore
import Derived.Laws.AppendOwnNone
import Derived.Maps.AppendAt
import Derived.Test.YtfghigibjdncbaaGreatZ9
namespace Go.Proofs.YtfghigibjdncbaaGreat
set_option maxRecDepth 100000
set_option maxHeartbeats 8000000
open Go.RowKit Go.Shelf
set_option linter.unusedVariables false
attribute [local go_sem] Oper.semAt_some

theorem putQ {Q : Exit → Act → World → Prop} (hQ : ∀ c a d v w, Q (.panic c) (Act.put a (some d) v) w → Q (.panic c) a w) {c : List PanicEntry} {a : Act} {d : Option Tmp} {v : Value} {w : World} (h : Q (.panic c) (a.put d v) w) : Q (.panic c) a w := by
 cases d with
 | none => exact h
 | some d => exact hQ c a d v w h
end Go.Proofs.YtfghigibjdncbaaGreat
namespace Go.Proofs.YtfghigibjdncbaaGreat
set_option maxRecDepth 100000
set_option maxHeartbeats 8000000
open Go.RowKit Go.Shelf
set_option linter.unusedVariables false
attribute [local go_sem] Oper.semAt_some

inductive Obl where
 | load (ty : TypeId) (b o : Nat) (v : Value)
 | test (f : BinOp) (t : TypeId) (x y : Operand) (u v r : Value)
 | sl (t : TypeId) (x : Value) (lo hi mx : Option Value) (v : Value)
 | ia (t : TypeId) (x i v : Value)
 | ix (t : TypeId) (x i v : Value)
 | ln (t u : TypeId) (x v : Value)
def Obl.holds (P : Program) (S : World → Prop) : Obl → Prop
 | .load ty b o v => ∀ w, S w → (loadVar ty ⟨b, o, none⟩).run P w = .ok v w
 | .test f t x y u v r => ∀ w, S w → (do eqGuard f t x y u v; binOp f t u v).run P w = .ok r w
 | .sl t x lo hi mx v => ∀ w, S w → (Instr.sliceAt t x lo hi mx).run P w = .ok v w
 | .ia t x i v => ∀ w, S w → (Instr.indexAt t x i).run P w = .ok v w
 | .ix t x i v => ∀ w, S w → (Instr.index t x i).run P w = .ok v w
 | .ln t u x v => ∀ w, S w → (invoke (.builtin .len #[t] u #[false]) #[x]).run P w = .ok (.value v) w
def Obls (P : Program) (S : World → Prop) : List Obl → Prop
 | [] => True
 | o :: r => o.holds P S ∧ Obls P S r
theorem Obls.app {P : Program} {S : World → Prop} : ∀ {l m : List Obl}, Obls P S (l ++ m) → Obls P S l ∧ Obls P S m
 | [], m, h => ⟨trivial, h⟩
 | o :: r, m, h => ⟨⟨h.1, (Obls.app h.2).1⟩, (Obls.app h.2).2⟩
def symf (P : Program) (s f : Nat) (v : Value) : Option Value :=
 match v with
 | .pointer (some ⟨b, off, none⟩) =>
  match P.underlying s with
  | some (.struct fs) =>
   match fs[f]? with
   | some fd =>
    match P.info? fd.type with
    | some i => if i.size = 0 then none else some (.pointer (some ⟨b, off + fd.offset, none⟩))
    | none => none
   | none => none
  | _ => none
 | _ => none
def symw (P : Program) (g : Option Value) (o : Oper) (a : Act) : Option (Value × List Obl) :=
 match o.op with
 | .move x => some (a.eval x, [])
 | .assign x => some (a.eval x, [])
 | .pick c x y =>
  match a.eval c with
  | .bool true => some (a.eval x, [])
  | .bool false => some (a.eval y, [])
  | _ => none
 | .fieldAddr s x f => (symf P s f (a.eval x)).map fun v => (v, [])
 | .load ty x =>
  match a.eval x, g with
  | .pointer (some ⟨b, off, none⟩), some v => some (v, [.load ty b off v])
  | _, _ => none
 | .binOp f t x y _ => g.map fun v => (v, [.test f t x y (a.eval x) (a.eval y) v])
 | .unOp .not _ x =>
  match a.eval x with
  | .bool b => some (.bool (!b), [])
  | _ => none
 | .slice t x lo hi mx => g.map fun v => (v, [.sl t (a.eval x) (lo.map a.eval) (hi.map a.eval) (mx.map a.eval) v])
 | .indexAddr t x i => g.map fun v => (v, [.ia t (a.eval x) (a.eval i) v])
 | .index t x i => g.map fun v => (v, [.ix t (a.eval x) (a.eval i) v])
 | .call c =>
  match c.callee, c.args.toList, c.argTypes.toList with
  | .builtin .len, [.tmp x], [t] => g.map fun v => (v, [.ln t o.type (a.eval (.tmp x)) v])
  | _, _, _ => none
 | _ => none
def symv (P : Program) (ops : Array Oper) (g : Option Value) (o : Oper) (a : Act) : Option (Value × List Obl) :=
 if Region.wanted o (yielded ops a.tmps) then symw P g o a else some (undef, [])
section
variable {P : Program} {ops : Array Oper} {S : World → Prop}
theorem symf_run {s f : Nat} {u v : Value} (h : symf P s f u = some v) (w : World) : (Instr.fieldAt s u f).run P w = .ok v w := by
 unfold symf at h
 split at h
 ·split at h
  ·rename_i fs hu
   split at h
   ·rename_i fd hf
    split at h
    ·rename_i i hi
     split at h
     ·cases h
     ·rename_i hz
      cases h
      simp [Instr.fieldAt, run_underlying hu, hf, Instr.sureAddr, fieldPlace, sizeOf, typeInfo, hi, hz, Addr.add_mid]
    ·cases h
   ·cases h
  ·cases h
 ·cases h
theorem symw_run {g : Option Value} {o : Oper} {a : Act} {v : Value} {obs : List Obl} (h : symw P g o a = some (v, obs)) (k : Obls P S obs) {w : World} (hS : S w) : (execOp a.eval o).run P w = .ok (.value v) w := by
 unfold symw at h
 split at h
 ·rename_i x ho; cases h; unfold execOp; simp [ho]
 ·rename_i x ho; cases h; unfold execOp; simp [ho]
 ·rename_i c x y ho
  split at h
  ·rename_i hc; cases h; unfold execOp; simp [ho, hc, asBool]
  ·rename_i hc; cases h; unfold execOp; simp [ho, hc, asBool]
  ·cases h
 ·rename_i s x f ho
  cases hq : symf P s f (a.eval x) with
  | none => rw [hq] at h; cases h
  | some u =>
   rw [hq] at h; cases h
   unfold execOp; simp [ho, symf_run hq w]
 ·rename_i ty x ho
  split at h
  ·rename_i b off u hx
   cases h
   have := k.1 w hS
   unfold execOp
   simp [ho, hx, Instr.loadAt, Instr.sureAddr, this]
  ·cases h
 ·rename_i f t x y t' ho
  cases g with
  | none => cases h
  | some u =>
   cases h
   have := k.1 w hS
   unfold execOp
   simp only [ho]
   rw [Sem.run_bind, this]
   rfl
 ·rename_i t x ho
  split at h
  ·rename_i b hx; cases h; unfold execOp; simp [ho, hx, Op.unary]
  ·cases h
 ·rename_i t x lo hi mx ho
  cases g with
  | none => cases h
  | some u => cases h; unfold execOp; simp only [ho]; rw [Sem.run_bind, k.1 w hS]; rfl
 ·rename_i t x i ho
  cases g with
  | none => cases h
  | some u => cases h; unfold execOp; simp only [ho]; rw [Sem.run_bind, k.1 w hS]; rfl
 ·rename_i t x i ho
  cases g with
  | none => cases h
  | some u => cases h; unfold execOp; simp only [ho]; rw [Sem.run_bind, k.1 w hS]; rfl
 ·rename_i c ho
  split at h
  ·rename_i x t hc ha ht
   cases g with
   | none => cases h
   | some u =>
    cases h
    have e1 : c.args = #[.tmp x] := by rw [← Array.toArray_toList (xs := c.args), ha]
    have e2 : c.argTypes = #[t] := by rw [← Array.toArray_toList (xs := c.argTypes), ht]
    have := k.1 w hS
    unfold execOp
    simp only [ho, resolve, hc, e1, e2, Sem.run_bind, Sem.run_pure, Result.andThen_ok]
    simpa using this
  ·cases h
 ·cases h
theorem symv_yields {g : Option Value} {o : Oper} {a : Act} {v : Value} {obs : List Obl} (h : symv P ops g o a = some (v, obs)) (k : Obls P S obs) : YieldsIf P ops S o v a := by
 unfold symv at h
 split at h
 ·rename_i hw; exact .inl ⟨hw, fun w hS => symw_run h k hS⟩
 ·rename_i hw; cases h; exact .inr ⟨by simpa using hw, rfl⟩
end
def symL (P : Program) (ops : Array Oper) : List (Option Value) → List Oper → Act → Option (List Oper × Act × List Obl)
 | [], r, a => some (r, a, [])
 | _ :: _, [], _ => none
 | g :: gs, o :: r, a =>
  match symv P ops g o a with
  | none => none
  | some (v, obs) =>
   match symL P ops gs r (a.put o.dst v) with
   | none => none
   | some (r', a', obs') => some (r', a', obs ++ obs')
def symH (P : Program) (md : Region.Mode) (ops : Array Oper) : List (Nat × Option Value) → Array Bool → Act → Option (Array Bool × Act × List Obl)
 | [], l, a => some (l, a, [])
 | (i, g) :: gs, l, a =>
  match ops[i]? with
  | none => none
  | some o =>
   if (Region.free md ops l i && (Region.ready md ops l).contains i) = true then
    match symv P ops g o a with
    | none => none
    | some (v, obs) =>
     match symH P md ops gs (l.setIfInBounds i true) (a.put o.dst v) with
     | none => none
     | some (l', a', obs') => some (l', a', obs ++ obs')
   else none
section
variable {P : Program} {ops : Array Oper} {Q : Exit → Act → World → Prop} {w : World}
variable {md : Region.Mode} {S : World → Prop}
theorem wpAnyH_sym (hs : Region.noSelect ops = true) (hQ : ∀ c a d v w, Q (.panic c) (Act.put a (some d) v) w → Q (.panic c) a w) (hS : S w) : ∀ (gs : List (Nat × Option Value)) {l l' : Array Bool} {a a' : Act} {obs : List Obl} {n m : Nat}, m = n + gs.length → symH P md ops gs l a = some (l', a', obs) → Obls P S obs → wpAnyH P md ops Q S n l' a' w → wpAnyH P md ops Q S m l a w
 | [], l, l', a, a', obs, n, m, hm, h, k, q => by cases h; subst hm; exact q
 | (i, g) :: gs, l, l', a, a', obs, n, m, hm, h, k, q => by
  subst hm
  unfold symH at h
  split at h
  ·cases h
  ·rename_i o ho
   split at h
   ·rename_i hf
    rw [Bool.and_eq_true] at hf
    split at h
    ·cases h
    ·rename_i v obs1 hv
     split at h
     ·cases h
     ·rename_i l2 a2 obs2 h2
      cases h
      obtain ⟨k1, k2⟩ := Obls.app k
      exact wpAnyH_take ho hs hf.1 hf.2 (fun c a w h => putQ hQ h) (symv_yields hv k1) hS (wpAnyH_sym hs hQ hS gs rfl h2 k2 q)
   ·cases h
end
def pre (n i : Nat) : Array Bool := ((List.range n).map fun j => decide (j < i)).toArray
def callOf (ops : Array Oper) (o : Oper) (a : Act) : Option (FuncId × List Value × Option Tmp) :=
 if Region.wanted o (yielded ops a.tmps) then
  match o.op with
  | .call c =>
   match c.callee with
   | .value x =>
    match a.eval x with
    | .func (.func f) fs cs => if (fs.isEmpty && cs.isEmpty) = true then some (f, c.args.toList.map a.eval, o.dst) else none
    | _ => none
   | _ => none
  | _ => none
 else none
theorem callOf_run {ops : Array Oper} {o : Oper} {a : Act} {f : FuncId} {vs : List Value} {d : Option Tmp} (h : callOf ops o a = some (f, vs, d)) (hc : ∀ args w, (callFunc f args).run Tryz.prog w = .ok (.enter f args) w) (w : World) : Region.wanted o (yielded ops a.tmps) = true ∧ o.dst = d ∧ (execOp a.eval o).run Tryz.prog w = .ok (.enter f vs.toArray) w := by
 unfold callOf at h
 split at h
 ·rename_i hw
  split at h
  ·rename_i c ho
   split at h
   ·rename_i x hx
    split at h
    ·rename_i f' fs cs hv
     split at h
     ·rename_i he
      rw [Bool.and_eq_true, Array.isEmpty_iff, Array.isEmpty_iff] at he
      obtain ⟨rfl, rfl⟩ := he
      cases h
      refine ⟨hw, rfl, ?_⟩
      unfold execOp
      simp [ho, resolve, hx, hv, invoke, Deferred.ofValue, hc]
      rw [← Array.toList_map, Array.toArray_toList]
     ·cases h
    ·cases h
   ·cases h
  ·cases h
 ·cases h
def storeOf (ops : Array Oper) (o : Oper) (a : Act) : Option (TypeId × Nat × Nat × Value × Option Tmp) :=
 if Region.wanted o (yielded ops a.tmps) then
  match o.op with
  | .store t x y =>
   match a.eval x with
   | .pointer (some ⟨b, off, none⟩) => some (t, b, off, a.eval y, o.dst)
   | _ => none
  | _ => none
 else none
section
variable {ops : Array Oper} {Q : Exit → Act → World → Prop} {w : World} {a a' : Act} {i : Nat}
theorem run_store_blk {ty : TypeId} {B : Nat} {C old : Array Value} (hB : Blk w B old ty) (hi : (Tryz.prog.info? ty).map (·.size) = some C.size) (hs : old.size = C.size) (h1 : C.all (·.oneCell') = true) : ∃ W, (storeVar ty ⟨B, 0, none⟩ (.agg C)).run Tryz.prog w = .ok () W ∧ Blk W B C ty ∧ Oth B w W := by
 have hrow := run_storeVar_row (P := Tryz.prog) w B ty ty old C hB hi hs h1
 have ht : w.there B 0 C.size := fun j hj => ⟨by rw [hB.cell, Nat.zero_add, Array.getElem?_eq_getElem (by omega)]; rfl, hB.frozen _⟩
 have hmid := run_storeVar_mid (P := Tryz.prog) w B 0 ty C ht hi h1
 refine ⟨_, hmid, ?_, Oth.setCells B _ _ _⟩
 rw [hrow] at hmid
 have e : w.setRow B C = w.setCells B 0 C.toList := by injection hmid
 rw [← e]
 show (w.heap.modify B _)[B]? = _
 rw [Array.getElem?_modify, if_pos rfl, show w.heap[B]? = _ from hB]
 rfl
theorem run_store_part {ty t : TypeId} {B o : Nat} {C old : Array Value} (hB : Blk w B old t) (hi : (Tryz.prog.info? ty).map (·.size) = some C.size) (hs : o + C.size ≤ old.size) (h1 : C.all (·.oneCell') = true) : ∃ W, (storeVar ty ⟨B, o, none⟩ (.agg C)).run Tryz.prog w = .ok () W ∧ Blk W B (old.extract 0 o ++ C ++ old.extract (o + C.size) old.size) t ∧ Oth B w W := by
 have ht : w.there B o C.size := fun j hj => ⟨by rw [hB.cell, Array.getElem?_eq_getElem (by omega)]; rfl, hB.frozen _⟩
 exact ⟨_, run_storeVar_mid (P := Tryz.prog) w B o ty C ht hi h1, Blk.part hB hs, Oth.setCells B _ _ _⟩
theorem run_store_cell {ty t : TypeId} {B j : Nat} {v : Value} {C : Array Value} (hB : Blk w B C t) (hv : v.cells = #[v]) (hi : (Tryz.prog.info? ty).map (·.size) = some 1) (hs : j < C.size) (h1 : v.oneCell' = true) : ∃ W, (storeVar ty ⟨B, j, none⟩ v).run Tryz.prog w = .ok () W ∧ Blk W B (C.setIfInBounds j v) t ∧ Oth B w W := by
 have ht : w.there B j 1 := fun i hi => ⟨by rw [hB.cell, Array.getElem?_eq_getElem (by omega)]; rfl, hB.frozen _⟩
 have := run_storeCells_cells (P := Tryz.prog) B j [v] 0 w (fun i hi => by simpa using (ht i (by simpa using hi)).1) (fun i hi => by simpa using (ht i (by simpa using hi)).2) (fun u hu => by simp at hu; rw [hu]; exact h1)
 cases hq : Tryz.prog.info? ty with
 | none => simp [hq] at hi
 | some i =>
  have hs : i.size = 1 := by simpa [hq] using hi
  simp only [Nat.add_zero] at this
  exact ⟨w.setCells B j [v], by simp [storeVar, sizeOf, typeInfo, hq, hv, hs, this], hB.set j v, Oth.setCell w B j v⟩
end
section
variable {S : World → Prop}
theorem ob_load1 {P : Program} {ty : TypeId} {B o : Nat} {v : Value} {C : Array Value} {t : TypeId} (hB : ∀ w, S w → Blk w B C t) (hv : C[o]? = some v) (hg : ∀ w, (isAgg ty).run P w = .ok false w) : Obl.holds P S (.load ty B o v) := fun w hS => by
 have hc : w.cell? ⟨B, o, none⟩ = some v := ((hB w hS).cell o).trans hv
 simp [loadVar, hg, hc]
theorem ob_loadb {P : Program} {ty : TypeId} {B : Nat} {C : Array Value} {t : TypeId} (hB : ∀ w, S w → Blk w B C t) {d : TypeDesc} (hu : P.underlying ty = some d) (hd : d.isRow = true) (hi : (P.info? ty).map (·.size) = some C.size) : Obl.holds P S (.load ty B 0 (.agg C)) := fun w hS => by
 have := run_loadVar_mid (P := P) w B 0 ty C.toList d (hB w hS).range0 hu hd (by simpa using hi)
 rw [Array.toArray_toList] at this
 exact this
theorem ob_yes {X : Prop} {f : BinOp} {t : TypeId} {x y : Operand} {u v : Value} (hr : ∀ w, ∃ b : Bool, (do eqGuard f t x y u v; binOp f t u v).run Tryz.prog w = .ok (.bool b) w ∧ (b = true ↔ X)) (hX : Hid X) : Obl.holds Tryz.prog S (.test f t x y u v (.bool true)) := fun w hS => by
 obtain ⟨b, h1, h2⟩ := hr w
 rw [h1, h2.2 hX.out]
theorem ob_no {X : Prop} {f : BinOp} {t : TypeId} {x y : Operand} {u v : Value} (hr : ∀ w, ∃ b : Bool, (do eqGuard f t x y u v; binOp f t u v).run Tryz.prog w = .ok (.bool b) w ∧ (b = true ↔ X)) (hX : Hid (¬ X)) : Obl.holds Tryz.prog S (.test f t x y u v (.bool false)) := fun w hS => by
 obtain ⟨b, h1, h2⟩ := hr w
 cases b with
 | true => exact absurd (h2.1 rfl) hX.out
 | false => exact h1
end
end Go.Proofs.YtfghigibjdncbaaGreat
namespace Go.Proofs.YtfghigibjdncbaaGreat
set_option maxRecDepth 100000
set_option maxHeartbeats 8000000
open Go.RowKit Go.Shelf
set_option linter.unusedVariables false
attribute [local go_sem] Oper.semAt_some
def TwoT (W : World) (B B' : Nat) (T T' : Array Value) : Prop := Blk W B T 46 ∧ Blk W B' T' 46 ∧ True
theorem TwoT.next {W W' : World} {B B' : Nat} {T T' : Array Value} (h : TwoT W B B' T T') (k : Below W.heap.size W W') : TwoT W' B B' T T' := ⟨h.1.next k, h.2.1.next k, trivial⟩
end Go.Proofs.YtfghigibjdncbaaGreat
namespace Go.Proofs.YtfghigibjdncbaaGreat
set_option maxRecDepth 100000
set_option maxHeartbeats 8000000
open Go.RowKit Go.Shelf
set_option linter.unusedVariables false
attribute [local go_sem] Oper.semAt_some
theorem Asks.yes {f : FuncId} {args : Array Value} {X : Prop} {W : World} (h : Asks f args X W) (hX : X) : Calls Tryz.prog f args W fun e w' => e = .returned (.bool true) ∧ Below W.heap.size W w' :=
 h.on (fun _ _ k => ⟨rfl, k⟩) (fun _ q _ => absurd hX q.out)
theorem Asks.no {f : FuncId} {args : Array Value} {X : Prop} {W : World} (h : Asks f args X W) (hX : ¬ X) : Calls Tryz.prog f args W fun e w' => e = .returned (.bool false) ∧ Below W.heap.size W w' :=
 h.on (fun _ q _ => absurd q.out hX) (fun _ _ k => ⟨rfl, k⟩)
theorem rsameThread_any {w : World} {T T' : Array Value} {t t' : Th} (h : ThD (LtN w) w T t) (h' : ThD (LtN w) w T' t') :
  Asks 18 #[.agg T, .agg T'] (t = t') w := by
 have hz := h.size
 have hz' := h'.size
 obtain ⟨a17, n17, k17, c17, l17⟩ := h.f.clear
 obtain ⟨a28, n28, k28, c28, l28⟩ := h.f.alerts
 have x0 := ext_regs h
 have r0 := h.f.rlen
 have x18 := ext2 h.f.sc h.f.si
 have x29 := ext2 h.f.lo h.f.hi
 have x23 := ext5 h.f.wc h.f.wi h.f.wx h.f.wv h.f.wd
 have c16 := h.f.pc
 have c20 := h.f.handler
 have c21 := h.f.vector
 have c22 := h.f.state
 obtain ⟨a17', n17', k17', c17', l17'⟩ := h'.f.clear
 obtain ⟨a28', n28', k28', c28', l28'⟩ := h'.f.alerts
 have x0' := ext_regs h'
 have r0' := h'.f.rlen
 have x18' := ext2 h'.f.sc h'.f.si
 have x29' := ext2 h'.f.lo h'.f.hi
 have x23' := ext5 h'.f.wc h'.f.wi h'.f.wx h'.f.wv h'.f.wd
 have c16' := h'.f.pc
 have c20' := h'.f.handler
 have c21' := h'.f.vector
 have c22' := h'.f.state
 have ga0 := Tryz.isAgg34
 have ga1 := Tryz.isAgg22
 have ga2 := Tryz.isAgg3
 have ga3 := Tryz.isAgg4
 have ga4 := Tryz.isAgg35
 have ga5 := Tryz.isAgg36
 unfold Asks
 go_enter Tryz.func18, Tryz.ntmps18
 simp only [List.append]
 go_wp2_with (first
  | go_skip
  | (with_reducible refine wpList_box rfl _ _ rfl T rfl ?_; intro B W hB hb hk)
  | (with_reducible refine wpList_box rfl _ _ rfl T' rfl ?_; intro B' W' hB' hb' hk'; replace hb := hb.next hk'; replace hk := hk.trans (hk'.mono hk.size); clear hk'))
 have hf := ThD.four (h.next hk) hb
 have hf' := ThD.four (h'.next hk) hb'
 go_loopw [5] (fun i wr => ∃ k : Nat, k ≤ 4 ∧ i = .int .i64 k ∧ Hid (∀ j, j < k → labs t j = labs t' j) ∧ Below W'.heap.size W' wr) (fun i _ => 4 - (intOf i).toNat)
 case atStart => exact ⟨0, Nat.zero_le _, rfl, fun j hj => absurd hj (by omega), Below.refl _ _⟩
 case round =>
  obtain ⟨k, hk4, rfl, hal, hbw⟩ := hrel
  by_cases hkn : k < 4
  ·obtain ⟨ai, ni, ci, d1, q2⟩ := (hf.next hbw).2 k hkn
   obtain ⟨ai', ni', ci', d1', q2'⟩ := (hf'.next hbw).2 k hkn
   have hkn' : (k : Int) < 4 := by omega
   have hbz := hb.next hbw
   have hbz' := hb'.next hbw
   have hd0 := (hb.next hbw).lt
   have hd0' := (hb'.next hbw).lt
   clear hb hb' hbz hbz' hf hf'
   by_cases hq : labs t k = labs t' k
   ·replace hq : Hid (labs t k = labs t' k) := hq
    go_wp2
    go_region_held3 (fun w' => w'.cell? ⟨B, 31 + k, none⟩ = some (.slice ai ni ci) ∧ w'.cell? ⟨B', 31 + k, none⟩ = some (.slice ai' ni' ci')) (first | go_keep | (exact ⟨(hb1.cell (p := ⟨B, 31 + k, none⟩) hd0).trans d1, (hb1.cell (p := ⟨B', 31 + k, none⟩) hd0').trans d1'⟩) | fail) (first | (go_at_call 35; (with_reducible refine ((reqL q2 q2' (Below.refl _ _).drew).yes hq.out).mono ?_); rintro e w1 ⟨rfl, hb1⟩) | fail)
    have hb2 := (Below.refl wr.heap.size wr).drew.trans hb1
    go_wp2
    go_roundw
    case rel => exact ⟨k + 1, by omega, by go_num, fun j hj => by
      rcases Nat.lt_or_ge j k with h | h
      ·exact hal.out j h
      ·obtain rfl : j = k := by omega
       exact hq.out, hbw.trans (hb2.mono hbw.size)⟩
    case measure => simp [intOf]; omega
   ·replace hq : Hid (¬ labs t k = labs t' k) := hq
    go_wp2
    go_region_held3 (fun w' => w'.cell? ⟨B, 31 + k, none⟩ = some (.slice ai ni ci) ∧ w'.cell? ⟨B', 31 + k, none⟩ = some (.slice ai' ni' ci')) (first | go_keep | (exact ⟨(hb1.cell (p := ⟨B, 31 + k, none⟩) hd0).trans d1, (hb1.cell (p := ⟨B', 31 + k, none⟩) hd0').trans d1'⟩) | fail) (first | (go_at_call 35; (with_reducible refine ((reqL q2 q2' (Below.refl _ _).drew).no hq.out).mono ?_); rintro e w1 ⟨rfl, hb1⟩) | fail)
    have hb2 := (Below.refl wr.heap.size wr).drew.trans hb1
    go_wp2
    go_ret
    exact askP_no hq (hk.trans ((hbw.trans (hb2.mono hbw.size)).mono hk.size)) (fun e => by rw [e])
  ·obtain rfl : k = 4 := by omega
   replace hb := hb.next hbw
   replace hb' := hb'.next hbw
   replace hk := hk.trans (hbw.mono hk.size)
   clear hf hf' hbw
   simp only [show ((4 : Nat) : Int) = 4 from rfl]
   go_wp2_with (first
    | go_skip
    | (with_reducible refine wpList_load1 (by kernel_rfl) _ _ rfl B _ rfl _ _ hb _ (by assumption) (by assumption) ?_)
    | (with_reducible refine wpList_load1 (by kernel_rfl) _ _ rfl B' _ rfl _ _ hb' _ (by assumption) (by assumption) ?_)
    | (with_reducible refine wpList_loadp (by kernel_rfl) 39 _ rfl B _ rfl 2 _ _ hb _ (by assumption) (by omega) _ Tryz.underlying39 (by kernel_rfl) size29 ?_)
    | (with_reducible refine wpList_loadp (by kernel_rfl) 39 _ rfl B' _ rfl 2 _ _ hb' _ (by assumption) (by omega) _ Tryz.underlying39 (by kernel_rfl) size29 ?_)
    | (with_reducible refine wpList_loadp (by kernel_rfl) 43 _ rfl B _ rfl 2 _ _ hb _ (by assumption) (by omega) _ Tryz.underlying43 (by kernel_rfl) size33 ?_)
    | (with_reducible refine wpList_loadp (by kernel_rfl) 43 _ rfl B' _ rfl 2 _ _ hb' _ (by assumption) (by omega) _ Tryz.underlying43 (by kernel_rfl) size33 ?_)
    | (with_reducible refine wpList_loadp (by kernel_rfl) 41 _ rfl B _ rfl 5 _ _ hb _ (by assumption) (by omega) _ Tryz.underlying41 (by kernel_rfl) size31 ?_)
    | (with_reducible refine wpList_loadp (by kernel_rfl) 41 _ rfl B' _ rfl 5 _ _ hb' _ (by assumption) (by omega) _ Tryz.underlying41 (by kernel_rfl) size31 ?_)
    | (with_reducible refine wpList_loadp (by kernel_rfl) 37 _ rfl B _ rfl 16 _ _ hb _ (by assumption) (by omega) _ Tryz.underlying37 (by kernel_rfl) size27 ?_)
    | (with_reducible refine wpList_loadp (by kernel_rfl) 37 _ rfl B' _ rfl 16 _ _ hb' _ (by assumption) (by omega) _ Tryz.underlying37 (by kernel_rfl) size27 ?_)
    | ((with_reducible refine wpList_test (by kernel_rfl) .eql _ _ _ _ rfl _ _ rfl rfl (eqg_int _ _ _ _ _ _) ?_ ?_) <;> intro hq)
    | ((with_reducible refine wpList_test (by kernel_rfl) .eql _ _ _ _ rfl _ _ rfl rfl (eqg_ref _ _ _ _ _ _) ?_ ?_) <;> intro hq)
    | ((with_reducible refine wpList_test (by kernel_rfl) .eql _ _ _ _ rfl _ _ rfl rfl (eqg_span _ _ _ _ _ _) ?_ ?_) <;> intro hq)
    | ((with_reducible refine wpList_test (by kernel_rfl) .eql _ _ _ _ rfl _ _ rfl rfl (eqg_wait _ _ _ _ _ _ _ _ _ _ _ _) ?_ ?_) <;> intro hq)
    | ((with_reducible refine wpList_test (by kernel_rfl) .eql _ _ _ _ rfl _ _ rfl rfl (eqg_regs _ _ _ _ r0 r0') ?_ ?_) <;> intro hq)
    | (go_at_call 35; (with_reducible refine (reqL (by assumption) (by assumption) hk).on ?_ ?_) <;> (intro w1 hq hb1; replace hb := hb.next hb1; replace hb' := hb'.next hb1; replace hk := hk.trans (hb1.mono hk.size); clear hb1))
    | (go_at_call 36; (with_reducible refine (reqU (by assumption) (by assumption) hk).on ?_ ?_) <;> (intro w1 hq hb1; replace hb := hb.next hb1; replace hb' := hb'.next hb1; replace hk := hk.trans (hb1.mono hk.size); clear hb1)))
   all_goals go_ret
   all_goals first
    | (refine askP_no (by assumption) hk ?_; intro e; rw [e]; done)
    | (refine askP_no (by assumption) hk ?_; intro e; rw [e]; exact ⟨rfl, rfl⟩)
    | (refine askP_no (by assumption) hk ?_; intro e; rw [e]; exact ⟨rfl, rfl, rfl, rfl, rfl⟩)
    | (refine askP_no (by assumption) hk ?_; intro e; rw [e]; exact fun _ _ => rfl)
    | (refine askP_yes ?_ hk; exact th_iff.1 ⟨Hid.out (by assumption), Hid.out (by assumption), Hid.out (by assumption), Hid.out (by assumption), Hid.out (by assumption), Hid.out (by assumption), Hid.out (by assumption), Hid.out (by assumption), Hid.out (by assumption), Hid.out (by assumption), labs_iff.1 hal.out⟩)
    | fail
end Go.Proofs.YtfghigibjdncbaaGreat
namespace Go.Proofs.YtfghigibjdncbaaGreat
set_option maxRecDepth 100000
set_option maxHeartbeats 8000000
open Go.RowKit Go.Shelf
set_option linter.unusedVariables false
attribute [local go_sem] Oper.semAt_some

theorem askP_b {X : Prop} {W w' : World} {b : Bool} (h : b = true ↔ X) (hk : Below W.heap.size W w') : AskP X W (.returned (.bool b)) w' := ⟨b, rfl, h, hk⟩
theorem Asks.of {f : FuncId} {args : Array Value} {W : World} {b : Bool} (h : Calls Tryz.prog f args W fun e w' => e = .returned (.bool b) ∧ Below W.heap.size W w') : Asks f args (b = true) W := by
 refine h.mono ?_
 rintro e w' ⟨rfl, hk⟩
 exact askP_b Iff.rfl hk
end Go.Proofs.YtfghigibjdncbaaGreat
namespace Go.Proofs.YtfghigibjdncbaaGreat
set_option maxRecDepth 100000
set_option maxHeartbeats 8000000
open Go.RowKit Go.Shelf
set_option linter.unusedVariables false
attribute [local go_sem] Oper.semAt_some
section
variable {w : World}
theorem tlt_int (t : TypeId) (x y : Operand) (k : IntKind) (m n : Int) : ∃ b : Bool, (do eqGuard .lss t x y (.int k m) (.int k n); binOp .lss t (.int k m) (.int k n)).run Tryz.prog w = .ok (.bool b) w ∧ (b = true ↔ m < n) :=
 ⟨decide (m < n), by simp [eqGuard, binOp, Op.intCmp], by simp⟩
end
end Go.Proofs.YtfghigibjdncbaaGreat
namespace Go.Proofs.YtfghigibjdncbaaGreat
set_option maxRecDepth 100000
set_option maxHeartbeats 8000000
open Go.RowKit Go.Shelf
set_option linter.unusedVariables false
attribute [local go_sem] Oper.semAt_some
section
variable {P : Program} {ops : Array Oper} {rest : List Oper} {op : Oper} {a : Act} {Q : Exit → Act → World → Prop} {w : World}
theorem wpList_loadb (hw : Region.wanted op (yielded ops a.tmps) = true) (ty : TypeId) (x : Operand) (ho : op.op = .load ty x) (B : Nat) (hx : a.eval x = .pointer (some ⟨B, 0, none⟩)) (C : Array Value) (hB : Blk w B C ty) (d : TypeDesc)
  (hu : P.underlying ty = some d) (hd : d.isRow = true) (hi : (P.info? ty).map (·.size) = some C.size) (h : wpList P ops Q rest (a.put op.dst (.agg C)) w) : wpList P ops Q (op :: rest) a w := by
 refine wpList_val hw ?_ h
 have := ob_loadb (S := fun W => W = w) (P := P) (fun _ e => by rw [e]; exact hB) hu hd hi w rfl
 unfold execOp
 simp [ho, hx, Instr.loadAt, Instr.sureAddr, this]
end
theorem com_iff {x : Ob} : comB x = true ↔ (idB x.id = true ∧ 1 ≤ x.quota ∧ x.quota ≤ 4096 ∧ keptB x.label = true ∧ (x.kind = 4 ∨ owned x.label = [])) := by unfold comB; simp
end Go.Proofs.YtfghigibjdncbaaGreat
namespace Go.Proofs.YtfghigibjdncbaaGreat
set_option maxRecDepth 100000
set_option maxHeartbeats 8000000
open Go.RowKit Go.Shelf
set_option linter.unusedVariables false
attribute [local go_sem] Oper.semAt_some

section
variable {ops : Array Oper} {Q : Exit → Act → World → Prop} {S : World → Prop} {w : World} {fuel m : Nat} {a : Act} {l : Array Bool}
theorem wpOp_callL {i : Nat} {f : FuncId} {vs : List Value} {d : Option Tmp} {R : Ending → World → Prop} {K : Act → World → Prop} (hi : (ops[i]?).bind (fun o => callOf ops o a) = some (f, vs, d))
  (hf : ∀ args w, (callFunc f args).run Tryz.prog w = .ok (.enter f args) w) (hc : Calls Tryz.prog f vs.toArray w R)
  (h : ∀ e w', R e w' → ∃ v, e = .returned v ∧ K (a.put d v) w') : wpOp Tryz.prog ops Q i K a w := by
 cases ho : ops[i]? with
 | none => rw [ho] at hi; cases hi
 | some o =>
  rw [ho] at hi
  obtain ⟨h1, h2, h3⟩ := callOf_run (show callOf ops o a = _ from hi) hf w
  unfold wpOp
  simp only [ho, h1, if_true]
  left
  unfold Oper.wp
  rw [h3, Oper.upon_enter]
  refine hc.mono ?_
  intro e w' hR
  obtain ⟨v, rfl, h⟩ := h e w' hR
  rw [h2]
  exact h
theorem wpAnyH_callL {i : Nat} {f : FuncId} {vs : List Value} {d : Option Tmp} {R : Ending → World → Prop} (hm : m = fuel + 1) (hr : Region.ready .any ops l = [i]) (hi : (ops[i]?).bind (fun o => callOf ops o a) = some (f, vs, d))
  (hf : ∀ args w, (callFunc f args).run Tryz.prog w = .ok (.enter f args) w) (hc : Calls Tryz.prog f vs.toArray w R)
  (h : ∀ e w', R e w' → ∃ v, e = .returned v ∧ S w' ∧ wpAnyH Tryz.prog .any ops Q S fuel (l.setIfInBounds i true) (a.put d v) w') : wpAnyH Tryz.prog .any ops Q S m l a w := by
 subst hm
 refine wpAnyH_all hr (by simp) ?_
 intro j hj
 obtain rfl : j = i := by simpa using hj
 exact wpOp_callL hi hf hc h
end
theorem sound_iff {x : Ob} : soundB x = true ↔ (comB x = true ∧ ownB x = true ∧ witO x = comO x) := by unfold soundB; simp [sameO_iff]
end Go.Proofs.YtfghigibjdncbaaGreat
namespace Go.Proofs.YtfghigibjdncbaaGreat
set_option maxRecDepth 100000
set_option maxHeartbeats 8000000
open Go.RowKit Go.Shelf
set_option linter.unusedVariables false
attribute [local go_sem] Oper.semAt_some

def RowC (k : Nat) (D : Nat → Prop) (w : World) (ao : Option Addr) (n cap : Nat) (cs : List Value) : Prop :=
 cs.length = n * k ∧ n ≤ cap ∧ (cap ≤ 9223372036854775807 ∧ (ao = none → cap = 0)) ∧ (0 < n → ∃ b off, ao = some ⟨b, off, none⟩ ∧ D b ∧ w.rangeAt b off cs)
theorem RowC.cells {k : Nat} {D : Nat → Prop} {w : World} {ad : Addr} {n cap : Nat} {cs : List Value} (h : RowC k D w (some ad) n cap cs) : ∀ j u, cs[j]? = some u → w.cell? (ad.add j) = some u := by
 intro j u hj
 have hl := (List.getElem?_eq_some_iff.1 hj).1
 have hn : 0 < n := by
  rcases Nat.eq_zero_or_pos n with h0 | h0
  ·have := h.1; rw [h0] at this; omega
  ·exact h0
 obtain ⟨b, off, e, _, hr⟩ := h.2.2.2 hn
 cases e
 rw [Addr.add_mid]
 exact hr j u hj
theorem RowC.of_owns {k base : Nat} {w : World} {e : TypeId} {v : Value} {n : Nat} {cs : List Value} (h : w.ownsRow base e k v n cs) : ∃ ao cap, v = .slice ao n cap ∧ RowC k (fun b => base ≤ b ∧ b < w.heap.size) w ao n cap cs := by
 have hl := h
 rcases h.2 with ⟨rfl, h0⟩ | ⟨g, c, cur, rfl, hb, hg, hkc, hcm, hcs, htk⟩
 ·subst h0
  exact ⟨none, 0, rfl, h.1, Nat.le_refl _, ⟨by omega, fun _ => rfl⟩, fun hn => absurd hn (by omega)⟩
 ·refine ⟨some ⟨g, 0, none⟩, c, rfl, h.1, hkc, ⟨by unfold maxLen at hcm; omega, fun e => by cases e⟩, fun hn => ⟨g, 0, rfl, ⟨hb, (Array.getElem?_eq_some_iff.1 hg).1⟩, fun j u hj => ?_⟩⟩
  have := hl.cells (g := g) rfl j u hj
  rw [Addr.add_mid] at this
  exact this
section
variable {D : Nat → Prop} {w : World} {ao : Option Addr} {n cap : Nat}
theorem cellsO_len (L : Lb) : (cellsOf L).length = L.length * 2 := by
 induction L with
 | nil => rfl
 | cons p r ih => simp [cellsOf, ih]; omega
theorem cellsO_at {L : Lb} : ∀ {i : Nat}, i < L.length → (cellsOf L)[i * 2]? = some (.int .u64 (L.getD i (0, 0)).1) ∧ (cellsOf L)[i * 2 + 1]? = some (.int .i64 (L.getD i (0, 0)).2) := by
 induction L with
 | nil => intro i hi; simp at hi
 | cons p r ih =>
  intro i hi
  cases i with
  | zero => exact ⟨rfl, rfl⟩
  | succ i =>
   have := ih (i := i) (by simpa using hi)
   rw [show (i + 1) * 2 = i * 2 + 1 + 1 by omega]
   exact ⟨this.1, this.2⟩
theorem LabD.row {L : Lb} (h : LabD D w ao n cap L) : RowC 2 D w ao n cap (cellsOf L) := by
 refine ⟨by rw [cellsO_len, h.1], h.2.1, h.2.2.1, fun hn => ?_⟩
 obtain ⟨b, off, e, hb, hc⟩ := h.2.2.2 hn
 refine ⟨b, off, e, hb, fun j u hj => ?_⟩
 have hl : j < L.length * 2 := by rw [← cellsO_len]; exact (List.getElem?_eq_some_iff.1 hj).1
 have hi : j / 2 < L.length := by omega
 have c := cellsO_at hi
 have q := hc (j / 2) (by rw [← h.1]; exact hi)
 rcases Nat.mod_two_eq_zero_or_one j with h0 | h1
 ·rw [show j / 2 * 2 = j by omega] at c q
  rw [hj] at c
  cases c.1
  exact q.1
 ·have e1 : j / 2 * 2 + 1 = j := by omega
  have q2 := q.2
  rw [show off + j / 2 * 2 + 1 = off + j by omega] at q2
  rw [e1, hj] at c
  cases c.2
  exact q2
theorem RowC.lab {L : Lb} (h : RowC 2 D w ao n cap (cellsOf L)) : LabD D w ao n cap L := by
 have hl := h.1
 rw [cellsO_len] at hl
 refine ⟨by omega, h.2.1, h.2.2.1, fun hn => ?_⟩
 obtain ⟨b, off, e, hb, hc⟩ := h.2.2.2 hn
 refine ⟨b, off, e, hb, fun i hi => ?_⟩
 have c := cellsO_at (L := L) (i := i) (by omega)
 exact ⟨hc _ _ c.1, hc _ _ c.2⟩
def wordsC (L : List Int) : List Value := L.map (Value.int .u64)
theorem CtD.row {L : List Int} (h : CtD D w ao n cap L) : RowC 1 D w ao n cap (wordsC L) := by
 refine ⟨by simp [wordsC, h.1], h.2.1, h.2.2.1, fun hn => ?_⟩
 obtain ⟨b, off, e, hb, hc⟩ := h.2.2.2 hn
 refine ⟨b, off, e, hb, fun j u hj => ?_⟩
 have hl : j < L.length := by have := (List.getElem?_eq_some_iff.1 hj).1; simpa [wordsC] using this
 rw [hc j (by rw [← h.1]; exact hl), ← hj]
 simp [wordsC, List.getD_eq_getElem?_getD, List.getElem?_eq_getElem hl]
theorem RowC.ct {L : List Int} (h : RowC 1 D w ao n cap (wordsC L)) : CtD D w ao n cap L := by
 have hl := h.1
 simp [wordsC] at hl
 refine ⟨hl, h.2.1, h.2.2.1, fun hn => ?_⟩
 obtain ⟨b, off, e, hb, hc⟩ := h.2.2.2 hn
 refine ⟨b, off, e, hb, fun i hi => hc i _ ?_⟩
 have hi' : i < L.length := by omega
 simp [wordsC, List.getD_eq_getElem?_getD, List.getElem?_eq_getElem hi']
theorem MpD.row {L : List PgM.Pg.Mp} (h : MpD D w ao n cap L) : RowC 6 D w ao n cap (PgM.mpC L) := by
 refine ⟨by rw [PgM.mpC_len, h.1], h.2.1, h.2.2.1, fun hn => ?_⟩
 obtain ⟨b, off, e, hb, hc⟩ := h.2.2.2 hn
 refine ⟨b, off, e, hb, fun j u hj => ?_⟩
 obtain ⟨h1, h2⟩ := PgM.mpC_back hj
 have := hc (j / 6) (by rw [← h.1]; exact h1) (j % 6) u h2
 rwa [show off + j / 6 * 6 + j % 6 = off + j by omega] at this
theorem RowC.mp {L : List PgM.Pg.Mp} (h : RowC 6 D w ao n cap (PgM.mpC L)) : MpD D w ao n cap L := by
 have hl := h.1
 rw [PgM.mpC_len] at hl
 refine ⟨by omega, h.2.1, h.2.2.1, fun hn => ?_⟩
 obtain ⟨b, off, e, hb, hc⟩ := h.2.2.2 hn
 refine ⟨b, off, e, hb, fun i hi j v hv => ?_⟩
 have := hc (i * 6 + j) v (PgM.mpC_at (by omega) hv)
 rwa [show off + (i * 6 + j) = off + i * 6 + j by omega] at this
end
section
variable {ops : Array Oper} {rest : List Oper} {o : Oper} {a : Act} {Q : Exit → Act → World → Prop} {w : World}
theorem wpList_append_row {t e : TypeId} {z : Value} {k by_ : Nat} (hinfo : (Tryz.prog.info? e).map (fun i => (i.zero, i.size, i.bytes)) = some (some z, k, by_)) (ht : Tryz.prog.underlying t = some (.slice e)) (hzs : z.cells.size = k) (hk : 0 < k) (hgd : o.guard = none) (s x : Operand) (ho : o.op = .call { callee := .builtin .append, args := #[s, x], argTypes := #[t, t] })
  (base : Nat) (v : Value) (m : Nat) (cs' : List Value) (hs : a.eval s = v) (hown : w.ownsRow base e k v m cs') (D : Nat → Prop) (ao : Option Addr) (n cap : Nat) (cs : List Value) (hx : a.eval x = .slice ao n cap) (hL : RowC k D w ao n cap cs) (h1 : ∀ u ∈ cs, u.oneCell' = true) (h63 : m + n ≤ maxLen) (hby : (m + n) * by_ ≤ 140737488355328) (hbase : base ≤ w.heap.size)
  (h : ∀ v' w', w'.ownsRow base e k v' (m + n) (cs' ++ cs) → w.grownBy w' v.ownBlock → wpList Tryz.prog ops Q rest (a.put o.dst v') w') : wpList Tryz.prog ops Q (o :: rest) a w := by
 obtain ⟨i0, hi, hz0, hz1, hz2⟩ := info_parts hinfo
 cases ao with
 | none =>
  have h0 := hL.2.2.1.2 rfl
  have hn0 : n = 0 := by have := hL.2.1; omega
  subst hn0
  have hl : cs = [] := List.eq_nil_of_length_eq_zero (by have := hL.1; omega)
  subst hl
  subst h0
  refine wpList_append_own_none hgd s x t ho base e i0 k ht hi v _ _ hs hown hx ?_
  exact h v w (by simpa using hown) (PgM.grownBy_refl _ _)
 | some ad =>
  refine wpList_append_own w hgd s x t ho base e i0 z k by_ ht hi hz0 hz1 hz2 hzs hk v _ _ hs hown ad n cap cs hx hL.1 hL.cells h1 h63 hby hbase ?_
  intro v' w' h2 h3 _
  exact h v' w' h2 h3
end
theorem infoW : (Tryz.prog.info? 22).map (fun i => (i.zero, i.size, i.bytes)) = some (some (.int .u64 0), 1, 8) := by kernel_rfl
theorem infoP : (Tryz.prog.info? 112).map (fun i => (i.zero, i.size, i.bytes)) = some (some (.agg #[.int .u64 0, .int .i64 0]), 2, 16) := by kernel_rfl
theorem infoM : (Tryz.prog.info? 114).map (fun i => (i.zero, i.size, i.bytes)) = some (some (.agg #[.int .i64 0, .int .i64 0, .int .u64 0, .int .u64 0, .int .i64 0, .bool false]), 6, 48) := by kernel_rfl
theorem cellsO_one (L : Lb) : ∀ u ∈ cellsOf L, u.oneCell' = true := by
 induction L with
 | nil => intro u hu; cases hu
 | cons p r ih =>
  intro u hu
  simp [cellsOf] at hu
  rcases hu with rfl | rfl | hu
  ·rfl
  ·rfl
  ·exact ih u hu
theorem wordsC_one (L : List Int) : ∀ u ∈ wordsC L, u.oneCell' = true := by
 intro u hu
 simp [wordsC] at hu
 obtain ⟨x, _, rfl⟩ := hu
 rfl
abbrev New (w w' : World) : Nat → Prop := fun b => w.heap.size ≤ b ∧ b < w'.heap.size
theorem grown_below {w w' : World} (h : w.grownBy w' (Value.ownBlock (.slice none 0 0))) : Below w.heap.size w w' := (Below.refl _ _).grown h (Nat.le_refl _) (fun j e => by have e' : none = some j := e; cases e')
theorem copyLw {w0 w : World} {ao : Option Addr} {n cap : Nat} {L : Lb} (h : LabD (LtN w0) w0 ao n cap L) (hk : Below w0.heap.size w0 w) (hn : n < 8796093022208) :
  Calls Tryz.prog 64 #[.slice ao n cap] w fun e w' => ∃ ao1 cap1, e = .returned (.slice ao1 n cap1) ∧ LabD (New w w') w' ao1 n cap1 L ∧ Below w.heap.size w w' := by
 have hL := (lab_eq h hk).row
 go_enter Tryz.func64, Tryz.ntmps64
 go_wp2_with (at_builtin; refine wpList_append_row infoP Tryz.underlying34 rfl (by omega) rfl _ _ rfl w.heap.size _ 0 [] rfl (World.ownsRow_nil _ _ _ _) _ _ _ _ (cellsOf L) rfl hL (cellsO_one L) (by unfold maxLen; omega) (by omega) (Nat.le_refl _) ?_; intro v' w1 hown hgrow)
 go_ret
 rw [Nat.zero_add, List.nil_append] at hown
 obtain ⟨ao1, cap1, rfl, hr⟩ := RowC.of_owns hown
 exact ⟨ao1, cap1, rfl, hr.lab, grown_below hgrow⟩
theorem ct_owns {w : World} {base : Nat} {ao : Option Addr} {n cap : Nat} {L : List Int} (h : w.ownsRow base 22 1 (.slice ao n cap) n (wordsC L)) : CtD (fun b => base ≤ b ∧ b < w.heap.size) w ao n cap L := by
 obtain ⟨a, c, e, hr⟩ := RowC.of_owns h
 cases e
 exact hr.ct
theorem owns_later {w w' : World} {base k n : Nat} {e : TypeId} {v : Value} {cs : List Value} (h : w.ownsRow base e k v n cs) (hk : ∀ b, base ≤ b → b < w.heap.size → w'.heap[b]? = w.heap[b]?) : w'.ownsRow base e k v n cs := by
 refine ⟨h.1, ?_⟩
 rcases h.2 with h0 | ⟨g, c, cur, e1, hb, hg, hr⟩
 ·exact .inl h0
 ·exact .inr ⟨g, c, cur, e1, hb, (hk g hb (Array.getElem?_eq_some_iff.1 hg).1).trans hg, hr⟩
theorem copyU_own {w0 w : World} {ao : Option Addr} {n cap : Nat} {L : List Int} (h : CtD (LtN w0) w0 ao n cap L) (hk : Below w0.heap.size w0 w) (hn : n < 4294967296) :
  Calls Tryz.prog 65 #[.slice ao n cap] w fun e w' => ∃ ao1 cap1, e = .returned (.slice ao1 n cap1) ∧ w'.ownsRow w.heap.size 22 1 (.slice ao1 n cap1) n (wordsC L) ∧ Below w.heap.size w w' := by
 have hL := (h.ct' hk).row
 go_enter Tryz.func65, Tryz.ntmps65
 go_wp2_with (at_builtin; refine wpList_append_row infoW Tryz.underlying35 rfl (by omega) rfl _ _ rfl w.heap.size _ 0 [] rfl (World.ownsRow_nil _ _ _ _) _ _ _ _ (wordsC L) rfl hL (wordsC_one L) (by unfold maxLen; omega) (by omega) (Nat.le_refl _) ?_; intro v' w1 hown hgrow)
 go_ret
 rw [Nat.zero_add, List.nil_append] at hown
 obtain ⟨ao1, cap1, rfl, hr⟩ := RowC.of_owns hown
 exact ⟨ao1, cap1, rfl, hown, grown_below hgrow⟩
theorem copyU {w0 w : World} {ao : Option Addr} {n cap : Nat} {L : List Int} (h : CtD (LtN w0) w0 ao n cap L) (hk : Below w0.heap.size w0 w) (hn : n < 4294967296) :
  Calls Tryz.prog 65 #[.slice ao n cap] w fun e w' => ∃ ao1 cap1, e = .returned (.slice ao1 n cap1) ∧ CtD (New w w') w' ao1 n cap1 L ∧ Below w.heap.size w w' :=
 (copyU_own h hk hn).mono fun e w' ⟨ao1, cap1, he, ho, hb⟩ => ⟨ao1, cap1, he, ct_owns ho, hb⟩
theorem copyM {w0 w : World} {ao : Option Addr} {n cap : Nat} {L : List PgM.Pg.Mp} (h : MpD (LtN w0) w0 ao n cap L) (hk : Below w0.heap.size w0 w) (hn : n < 4294967296) :
  Calls Tryz.prog 66 #[.slice ao n cap] w fun e w' => ∃ ao1 cap1, e = .returned (.slice ao1 n cap1) ∧ MpD (New w w') w' ao1 n cap1 L ∧ Below w.heap.size w w' := by
 have hL := MpD.row (MpD.mp' h hk)
 go_enter Tryz.func66, Tryz.ntmps66
 go_wp2_with (at_builtin; refine wpList_append_row infoM Tryz.underlying36 rfl (by omega) rfl _ _ rfl w.heap.size _ 0 [] rfl (World.ownsRow_nil _ _ _ _) _ _ _ _ (PgM.mpC L) rfl hL (PgM.mpC_one L) (by unfold maxLen; omega) (by omega) (Nat.le_refl _) ?_; intro v' w1 hown hgrow)
 go_ret
 rw [Nat.zero_add, List.nil_append] at hown
 obtain ⟨ao1, cap1, rfl, hr⟩ := RowC.of_owns hown
 exact ⟨ao1, cap1, rfl, hr.mp, grown_below hgrow⟩
end Go.Proofs.YtfghigibjdncbaaGreat
namespace Go.Proofs.YtfghigibjdncbaaGreat
set_option maxRecDepth 100000
set_option maxHeartbeats 8000000
open Go.RowKit Go.Shelf
set_option linter.unusedVariables false
attribute [local go_sem] Oper.semAt_some
theorem size34 : (Tryz.prog.info? 44).map (·.size) = some 4 := by kernel_rfl
theorem ext4 {C : Array Value} {o : Nat} {a b c d : Value} (h0 : C[o]? = some a) (h1 : C[o + 1]? = some b) (h2 : C[o + 2]? = some c) (h3 : C[o + 3]? = some d) : C.extract o (o + 4) = #[a, b, c, d] := by
 have hs : o + 3 < C.size := (Array.getElem?_eq_some_iff.1 h3).1
 apply Array.ext_getElem?
 intro i
 rcases i with _ | _ | _ | _ | i
 ·rw [ext_get (n := 4) (by omega) (by omega)]; exact h0
 ·rw [ext_get (n := 4) (by omega) (by omega)]; exact h1
 ·rw [ext_get (n := 4) (by omega) (by omega)]; exact h2
 ·rw [ext_get (n := 4) (by omega) (by omega)]; exact h3
 ·rw [Array.getElem?_extract, if_neg (by omega)]; simp
theorem ix_0 (a b c d : Value) (w : World) : (Instr.index 44 (.agg #[a, b, c, d]) (.int .i64 0)).run Tryz.prog w = .ok a w := by kernel_rfl
theorem ix_1 (a b c d : Value) (w : World) : (Instr.index 44 (.agg #[a, b, c, d]) (.int .i64 1)).run Tryz.prog w = .ok b w := by kernel_rfl
theorem ix_2 (a b c d : Value) (w : World) : (Instr.index 44 (.agg #[a, b, c, d]) (.int .i64 2)).run Tryz.prog w = .ok c w := by kernel_rfl
theorem ix_3 (a b c d : Value) (w : World) : (Instr.index 44 (.agg #[a, b, c, d]) (.int .i64 3)).run Tryz.prog w = .ok d w := by kernel_rfl
def Cel (D : Nat → Prop) (w : World) (C : Array Value) (x : Ob) (j : Nat) : Prop :=
 match j with
 | 2 => LbV D w C[2]? x.label
 | 5 => CtV D w C[5]? x.links
 | 6 => CtV D w C[6]? x.data
 | 7 => MpV D w C[7]? x.maps
 | 25 => LbV D w C[25]? x.th.clear
 | 36 => CtV D w C[36]? x.th.alerts
 | 39 => LbV D w C[39]? x.th.l0
 | 40 => LbV D w C[40]? x.th.l1
 | 41 => LbV D w C[41]? x.th.l2
 | 42 => LbV D w C[42]? x.th.l3
 | 43 => LbV D w C[43]? x.gt.grant
 | 44 => LbV D w C[44]? x.gt.clear
 | 49 => CtV D w C[49]? x.inn
 | 50 => CtV D w C[50]? x.out
 | _ => True
theorem Cel.laterK {D : Nat → Prop} {w w' : World} {C : Array Value} {x : Ob} {j : Nat} (h : Cel D w C x j) (k : ∀ b, D b → w'.heap[b]? = w.heap[b]?) : Cel D w' C x j := by
 unfold Cel at h ⊢
 split at h <;> first | exact LbV.laterK h k | exact CtV.laterK h k | exact MpV.laterK h k | trivial
theorem Cel.wide {D D' : Nat → Prop} {w : World} {C : Array Value} {x : Ob} {j : Nat} (h : Cel D w C x j) (k : ∀ b, D b → D' b) : Cel D' w C x j := by
 unfold Cel at h ⊢
 split at h <;> first | exact LbV.wide h k | exact CtV.wide h k | exact MpV.wide h k | trivial
theorem Cel.congr {D : Nat → Prop} {w : World} {C C' : Array Value} {x : Ob} {j : Nat} (h : Cel D w C x j) (e : C'[j]? = C[j]?) : Cel D w C' x j := by
 unfold Cel at h ⊢
 split at h <;> first | (rw [e]; exact h) | trivial
structure Small (x : Ob) : Prop where
 c2 : x.label.length < 4294967296
 c5 : x.links.length < 4294967296
 c6 : x.data.length < 4294967296
 c7 : x.maps.length < 4294967296
 c25 : x.th.clear.length < 8796093022208
 c36 : x.th.alerts.length < 4294967296
 c39 : x.th.l0.length < 8796093022208
 c40 : x.th.l1.length < 8796093022208
 c41 : x.th.l2.length < 8796093022208
 c42 : x.th.l3.length < 8796093022208
 c43 : x.gt.grant.length < 8796093022208
 c44 : x.gt.clear.length < 8796093022208
 c49 : x.inn.length < 4294967296
 c50 : x.out.length < 4294967296
structure Cp (N : Nat) (w W : World) (B : Nat) (C : Array Value) (x : Ob) (Dn : Nat → Prop) : Prop where
 bx : Bx W B C x
 dn : ∀ j, Dn j → Cel (fun b => (N ≤ b ∧ b < W.heap.size) ∧ b ≠ B) W C x j
 be : Below w.heap.size w W
 le : w.heap.size ≤ B
 nl : N ≤ W.heap.size
 nw : w.heap.size ≤ N
section
variable {N : Nat} {w W W1 W2 : World} {B : Nat} {C : Array Value} {x : Ob} {Dn : Nat → Prop}
theorem Cp.next (h : Cp N w W B C x Dn) (k : Below W.heap.size W W1) : Cp N w W1 B C x Dn :=
 ⟨h.bx.next k, fun j hj => ((h.dn j hj).laterK fun b hb => k.block b hb.1.2).wide fun b hb => ⟨⟨hb.1.1, Nat.lt_of_lt_of_le hb.1.2 k.size⟩, hb.2⟩, h.be.trans (k.mono h.be.size), h.le, Nat.le_trans h.nl k.size, h.nw⟩
theorem Cp.st2 (h : Cp N w W B C x Dn) (k : Below W.heap.size W W1) {a : Option Addr} {n c : Nat} (l : LabD (New W W1) W1 a n c x.label) (o : Oth B W1 W2) (b : Blk W2 B (C.setIfInBounds 2 (.slice a n c)) 50) : Cp N w W2 B (C.setIfInBounds 2 (.slice a n c)) x (fun j => Dn j ∨ j = 2) := by
 have h1 := h.next k
 have hlt := h.bx.blk.lt
 have lz : LbV (Ex B W1) W1 (some (.slice a n c)) x.label := ⟨a, n, c, rfl, LabD.wide l fun b hb => ⟨hb.2, by have := hb.1; omega⟩⟩
 refine ⟨⟨b, ?_⟩, ?_, o.below _ _ h.le h1.be, h.le, by rw [o.size]; exact h1.nl, h.nw⟩
 ·exact ((h1.bx.ob.set2 lz rfl).laterK fun b hb => o.block b hb.2).wide fun b hb => ⟨by rw [o.size]; exact hb.1, hb.2⟩
 ·intro j hj
  by_cases e : j = 2
  ·subst e
   have q : (C.setIfInBounds 2 (Value.slice a n c))[2]? = some (.slice a n c) := by rw [set_at (by rw [h.bx.ob.size]; omega), if_pos rfl]
   show LbV _ _ ((C.setIfInBounds 2 (Value.slice a n c))[2]?) x.label
   rw [q]
   exact ⟨a, n, c, rfl, LabD.wide (LabD.laterK l fun b hb => o.block b (by have := hb.1; omega)) fun b hb => ⟨⟨Nat.le_trans h.nl hb.1, by rw [o.size]; exact hb.2⟩, by have := hb.1; omega⟩⟩
  ·have hj' := hj.resolve_right e
   refine ((Cel.congr (h1.dn j hj') ?_).laterK fun b hb => o.block b hb.2).wide fun b hb => ⟨⟨hb.1.1, by rw [o.size]; exact hb.1.2⟩, hb.2⟩
   rw [set_at (by rw [h.bx.ob.size]; omega), if_neg (fun q => e q.symm)]
theorem Cp.st5 (h : Cp N w W B C x Dn) (k : Below W.heap.size W W1) {a : Option Addr} {n c : Nat} (l : CtD (New W W1) W1 a n c x.links) (o : Oth B W1 W2) (b : Blk W2 B (C.setIfInBounds 5 (.slice a n c)) 50) : Cp N w W2 B (C.setIfInBounds 5 (.slice a n c)) x (fun j => Dn j ∨ j = 5) := by
 have h1 := h.next k
 have hlt := h.bx.blk.lt
 have lz : CtV (Ex B W1) W1 (some (.slice a n c)) x.links := ⟨a, n, c, rfl, CtD.wide l fun b hb => ⟨hb.2, by have := hb.1; omega⟩⟩
 refine ⟨⟨b, ?_⟩, ?_, o.below _ _ h.le h1.be, h.le, by rw [o.size]; exact h1.nl, h.nw⟩
 ·exact ((h1.bx.ob.set5 lz rfl).laterK fun b hb => o.block b hb.2).wide fun b hb => ⟨by rw [o.size]; exact hb.1, hb.2⟩
 ·intro j hj
  by_cases e : j = 5
  ·subst e
   have q : (C.setIfInBounds 5 (Value.slice a n c))[5]? = some (.slice a n c) := by rw [set_at (by rw [h.bx.ob.size]; omega), if_pos rfl]
   show CtV _ _ ((C.setIfInBounds 5 (Value.slice a n c))[5]?) x.links
   rw [q]
   exact ⟨a, n, c, rfl, CtD.wide (CtD.laterK l fun b hb => o.block b (by have := hb.1; omega)) fun b hb => ⟨⟨Nat.le_trans h.nl hb.1, by rw [o.size]; exact hb.2⟩, by have := hb.1; omega⟩⟩
  ·have hj' := hj.resolve_right e
   refine ((Cel.congr (h1.dn j hj') ?_).laterK fun b hb => o.block b hb.2).wide fun b hb => ⟨⟨hb.1.1, by rw [o.size]; exact hb.1.2⟩, hb.2⟩
   rw [set_at (by rw [h.bx.ob.size]; omega), if_neg (fun q => e q.symm)]
theorem Cp.st6 (h : Cp N w W B C x Dn) (k : Below W.heap.size W W1) {a : Option Addr} {n c : Nat} (l : CtD (New W W1) W1 a n c x.data) (o : Oth B W1 W2) (b : Blk W2 B (C.setIfInBounds 6 (.slice a n c)) 50) : Cp N w W2 B (C.setIfInBounds 6 (.slice a n c)) x (fun j => Dn j ∨ j = 6) := by
 have h1 := h.next k
 have hlt := h.bx.blk.lt
 have lz : CtV (Ex B W1) W1 (some (.slice a n c)) x.data := ⟨a, n, c, rfl, CtD.wide l fun b hb => ⟨hb.2, by have := hb.1; omega⟩⟩
 refine ⟨⟨b, ?_⟩, ?_, o.below _ _ h.le h1.be, h.le, by rw [o.size]; exact h1.nl, h.nw⟩
 ·exact ((h1.bx.ob.set6 lz rfl).laterK fun b hb => o.block b hb.2).wide fun b hb => ⟨by rw [o.size]; exact hb.1, hb.2⟩
 ·intro j hj
  by_cases e : j = 6
  ·subst e
   have q : (C.setIfInBounds 6 (Value.slice a n c))[6]? = some (.slice a n c) := by rw [set_at (by rw [h.bx.ob.size]; omega), if_pos rfl]
   show CtV _ _ ((C.setIfInBounds 6 (Value.slice a n c))[6]?) x.data
   rw [q]
   exact ⟨a, n, c, rfl, CtD.wide (CtD.laterK l fun b hb => o.block b (by have := hb.1; omega)) fun b hb => ⟨⟨Nat.le_trans h.nl hb.1, by rw [o.size]; exact hb.2⟩, by have := hb.1; omega⟩⟩
  ·have hj' := hj.resolve_right e
   refine ((Cel.congr (h1.dn j hj') ?_).laterK fun b hb => o.block b hb.2).wide fun b hb => ⟨⟨hb.1.1, by rw [o.size]; exact hb.1.2⟩, hb.2⟩
   rw [set_at (by rw [h.bx.ob.size]; omega), if_neg (fun q => e q.symm)]
theorem Cp.st7 (h : Cp N w W B C x Dn) (k : Below W.heap.size W W1) {a : Option Addr} {n c : Nat} (l : MpD (New W W1) W1 a n c x.maps) (o : Oth B W1 W2) (b : Blk W2 B (C.setIfInBounds 7 (.slice a n c)) 50) : Cp N w W2 B (C.setIfInBounds 7 (.slice a n c)) x (fun j => Dn j ∨ j = 7) := by
 have h1 := h.next k
 have hlt := h.bx.blk.lt
 have lz : MpV (Ex B W1) W1 (some (.slice a n c)) x.maps := ⟨a, n, c, rfl, PgM.MpsD.wide l fun b hb => ⟨hb.2, by have := hb.1; omega⟩⟩
 refine ⟨⟨b, ?_⟩, ?_, o.below _ _ h.le h1.be, h.le, by rw [o.size]; exact h1.nl, h.nw⟩
 ·exact ((h1.bx.ob.set7 lz rfl).laterK fun b hb => o.block b hb.2).wide fun b hb => ⟨by rw [o.size]; exact hb.1, hb.2⟩
 ·intro j hj
  by_cases e : j = 7
  ·subst e
   have q : (C.setIfInBounds 7 (Value.slice a n c))[7]? = some (.slice a n c) := by rw [set_at (by rw [h.bx.ob.size]; omega), if_pos rfl]
   show MpV _ _ ((C.setIfInBounds 7 (Value.slice a n c))[7]?) x.maps
   rw [q]
   exact ⟨a, n, c, rfl, PgM.MpsD.wide (PgM.MpsD.laterK l fun b hb => o.block b (by have := hb.1; omega)) fun b hb => ⟨⟨Nat.le_trans h.nl hb.1, by rw [o.size]; exact hb.2⟩, by have := hb.1; omega⟩⟩
  ·have hj' := hj.resolve_right e
   refine ((Cel.congr (h1.dn j hj') ?_).laterK fun b hb => o.block b hb.2).wide fun b hb => ⟨⟨hb.1.1, by rw [o.size]; exact hb.1.2⟩, hb.2⟩
   rw [set_at (by rw [h.bx.ob.size]; omega), if_neg (fun q => e q.symm)]
theorem Cp.st25 (h : Cp N w W B C x Dn) (k : Below W.heap.size W W1) {a : Option Addr} {n c : Nat} (l : LabD (New W W1) W1 a n c x.th.clear) (o : Oth B W1 W2) (b : Blk W2 B (C.setIfInBounds 25 (.slice a n c)) 50) : Cp N w W2 B (C.setIfInBounds 25 (.slice a n c)) x (fun j => Dn j ∨ j = 25) := by
 have h1 := h.next k
 have hlt := h.bx.blk.lt
 have lz : LbV (Ex B W1) W1 (some (.slice a n c)) x.th.clear := ⟨a, n, c, rfl, LabD.wide l fun b hb => ⟨hb.2, by have := hb.1; omega⟩⟩
 refine ⟨⟨b, ?_⟩, ?_, o.below _ _ h.le h1.be, h.le, by rw [o.size]; exact h1.nl, h.nw⟩
 ·exact ((h1.bx.ob.set25 lz rfl).laterK fun b hb => o.block b hb.2).wide fun b hb => ⟨by rw [o.size]; exact hb.1, hb.2⟩
 ·intro j hj
  by_cases e : j = 25
  ·subst e
   have q : (C.setIfInBounds 25 (Value.slice a n c))[25]? = some (.slice a n c) := by rw [set_at (by rw [h.bx.ob.size]; omega), if_pos rfl]
   show LbV _ _ ((C.setIfInBounds 25 (Value.slice a n c))[25]?) x.th.clear
   rw [q]
   exact ⟨a, n, c, rfl, LabD.wide (LabD.laterK l fun b hb => o.block b (by have := hb.1; omega)) fun b hb => ⟨⟨Nat.le_trans h.nl hb.1, by rw [o.size]; exact hb.2⟩, by have := hb.1; omega⟩⟩
  ·have hj' := hj.resolve_right e
   refine ((Cel.congr (h1.dn j hj') ?_).laterK fun b hb => o.block b hb.2).wide fun b hb => ⟨⟨hb.1.1, by rw [o.size]; exact hb.1.2⟩, hb.2⟩
   rw [set_at (by rw [h.bx.ob.size]; omega), if_neg (fun q => e q.symm)]
theorem Cp.st36 (h : Cp N w W B C x Dn) (k : Below W.heap.size W W1) {a : Option Addr} {n c : Nat} (l : CtD (New W W1) W1 a n c x.th.alerts) (o : Oth B W1 W2) (b : Blk W2 B (C.setIfInBounds 36 (.slice a n c)) 50) : Cp N w W2 B (C.setIfInBounds 36 (.slice a n c)) x (fun j => Dn j ∨ j = 36) := by
 have h1 := h.next k
 have hlt := h.bx.blk.lt
 have lz : CtV (Ex B W1) W1 (some (.slice a n c)) x.th.alerts := ⟨a, n, c, rfl, CtD.wide l fun b hb => ⟨hb.2, by have := hb.1; omega⟩⟩
 refine ⟨⟨b, ?_⟩, ?_, o.below _ _ h.le h1.be, h.le, by rw [o.size]; exact h1.nl, h.nw⟩
 ·exact ((h1.bx.ob.set36 lz rfl).laterK fun b hb => o.block b hb.2).wide fun b hb => ⟨by rw [o.size]; exact hb.1, hb.2⟩
 ·intro j hj
  by_cases e : j = 36
  ·subst e
   have q : (C.setIfInBounds 36 (Value.slice a n c))[36]? = some (.slice a n c) := by rw [set_at (by rw [h.bx.ob.size]; omega), if_pos rfl]
   show CtV _ _ ((C.setIfInBounds 36 (Value.slice a n c))[36]?) x.th.alerts
   rw [q]
   exact ⟨a, n, c, rfl, CtD.wide (CtD.laterK l fun b hb => o.block b (by have := hb.1; omega)) fun b hb => ⟨⟨Nat.le_trans h.nl hb.1, by rw [o.size]; exact hb.2⟩, by have := hb.1; omega⟩⟩
  ·have hj' := hj.resolve_right e
   refine ((Cel.congr (h1.dn j hj') ?_).laterK fun b hb => o.block b hb.2).wide fun b hb => ⟨⟨hb.1.1, by rw [o.size]; exact hb.1.2⟩, hb.2⟩
   rw [set_at (by rw [h.bx.ob.size]; omega), if_neg (fun q => e q.symm)]
theorem Cp.st39 (h : Cp N w W B C x Dn) (k : Below W.heap.size W W1) {a : Option Addr} {n c : Nat} (l : LabD (New W W1) W1 a n c x.th.l0) (o : Oth B W1 W2) (b : Blk W2 B (C.setIfInBounds 39 (.slice a n c)) 50) : Cp N w W2 B (C.setIfInBounds 39 (.slice a n c)) x (fun j => Dn j ∨ j = 39) := by
 have h1 := h.next k
 have hlt := h.bx.blk.lt
 have lz : LbV (Ex B W1) W1 (some (.slice a n c)) x.th.l0 := ⟨a, n, c, rfl, LabD.wide l fun b hb => ⟨hb.2, by have := hb.1; omega⟩⟩
 refine ⟨⟨b, ?_⟩, ?_, o.below _ _ h.le h1.be, h.le, by rw [o.size]; exact h1.nl, h.nw⟩
 ·exact ((h1.bx.ob.set39 lz rfl).laterK fun b hb => o.block b hb.2).wide fun b hb => ⟨by rw [o.size]; exact hb.1, hb.2⟩
 ·intro j hj
  by_cases e : j = 39
  ·subst e
   have q : (C.setIfInBounds 39 (Value.slice a n c))[39]? = some (.slice a n c) := by rw [set_at (by rw [h.bx.ob.size]; omega), if_pos rfl]
   show LbV _ _ ((C.setIfInBounds 39 (Value.slice a n c))[39]?) x.th.l0
   rw [q]
   exact ⟨a, n, c, rfl, LabD.wide (LabD.laterK l fun b hb => o.block b (by have := hb.1; omega)) fun b hb => ⟨⟨Nat.le_trans h.nl hb.1, by rw [o.size]; exact hb.2⟩, by have := hb.1; omega⟩⟩
  ·have hj' := hj.resolve_right e
   refine ((Cel.congr (h1.dn j hj') ?_).laterK fun b hb => o.block b hb.2).wide fun b hb => ⟨⟨hb.1.1, by rw [o.size]; exact hb.1.2⟩, hb.2⟩
   rw [set_at (by rw [h.bx.ob.size]; omega), if_neg (fun q => e q.symm)]
theorem Cp.st40 (h : Cp N w W B C x Dn) (k : Below W.heap.size W W1) {a : Option Addr} {n c : Nat} (l : LabD (New W W1) W1 a n c x.th.l1) (o : Oth B W1 W2) (b : Blk W2 B (C.setIfInBounds 40 (.slice a n c)) 50) : Cp N w W2 B (C.setIfInBounds 40 (.slice a n c)) x (fun j => Dn j ∨ j = 40) := by
 have h1 := h.next k
 have hlt := h.bx.blk.lt
 have lz : LbV (Ex B W1) W1 (some (.slice a n c)) x.th.l1 := ⟨a, n, c, rfl, LabD.wide l fun b hb => ⟨hb.2, by have := hb.1; omega⟩⟩
 refine ⟨⟨b, ?_⟩, ?_, o.below _ _ h.le h1.be, h.le, by rw [o.size]; exact h1.nl, h.nw⟩
 ·exact ((h1.bx.ob.set40 lz rfl).laterK fun b hb => o.block b hb.2).wide fun b hb => ⟨by rw [o.size]; exact hb.1, hb.2⟩
 ·intro j hj
  by_cases e : j = 40
  ·subst e
   have q : (C.setIfInBounds 40 (Value.slice a n c))[40]? = some (.slice a n c) := by rw [set_at (by rw [h.bx.ob.size]; omega), if_pos rfl]
   show LbV _ _ ((C.setIfInBounds 40 (Value.slice a n c))[40]?) x.th.l1
   rw [q]
   exact ⟨a, n, c, rfl, LabD.wide (LabD.laterK l fun b hb => o.block b (by have := hb.1; omega)) fun b hb => ⟨⟨Nat.le_trans h.nl hb.1, by rw [o.size]; exact hb.2⟩, by have := hb.1; omega⟩⟩
  ·have hj' := hj.resolve_right e
   refine ((Cel.congr (h1.dn j hj') ?_).laterK fun b hb => o.block b hb.2).wide fun b hb => ⟨⟨hb.1.1, by rw [o.size]; exact hb.1.2⟩, hb.2⟩
   rw [set_at (by rw [h.bx.ob.size]; omega), if_neg (fun q => e q.symm)]
theorem Cp.st41 (h : Cp N w W B C x Dn) (k : Below W.heap.size W W1) {a : Option Addr} {n c : Nat} (l : LabD (New W W1) W1 a n c x.th.l2) (o : Oth B W1 W2) (b : Blk W2 B (C.setIfInBounds 41 (.slice a n c)) 50) : Cp N w W2 B (C.setIfInBounds 41 (.slice a n c)) x (fun j => Dn j ∨ j = 41) := by
 have h1 := h.next k
 have hlt := h.bx.blk.lt
 have lz : LbV (Ex B W1) W1 (some (.slice a n c)) x.th.l2 := ⟨a, n, c, rfl, LabD.wide l fun b hb => ⟨hb.2, by have := hb.1; omega⟩⟩
 refine ⟨⟨b, ?_⟩, ?_, o.below _ _ h.le h1.be, h.le, by rw [o.size]; exact h1.nl, h.nw⟩
 ·exact ((h1.bx.ob.set41 lz rfl).laterK fun b hb => o.block b hb.2).wide fun b hb => ⟨by rw [o.size]; exact hb.1, hb.2⟩
 ·intro j hj
  by_cases e : j = 41
  ·subst e
   have q : (C.setIfInBounds 41 (Value.slice a n c))[41]? = some (.slice a n c) := by rw [set_at (by rw [h.bx.ob.size]; omega), if_pos rfl]
   show LbV _ _ ((C.setIfInBounds 41 (Value.slice a n c))[41]?) x.th.l2
   rw [q]
   exact ⟨a, n, c, rfl, LabD.wide (LabD.laterK l fun b hb => o.block b (by have := hb.1; omega)) fun b hb => ⟨⟨Nat.le_trans h.nl hb.1, by rw [o.size]; exact hb.2⟩, by have := hb.1; omega⟩⟩
  ·have hj' := hj.resolve_right e
   refine ((Cel.congr (h1.dn j hj') ?_).laterK fun b hb => o.block b hb.2).wide fun b hb => ⟨⟨hb.1.1, by rw [o.size]; exact hb.1.2⟩, hb.2⟩
   rw [set_at (by rw [h.bx.ob.size]; omega), if_neg (fun q => e q.symm)]
theorem Cp.st42 (h : Cp N w W B C x Dn) (k : Below W.heap.size W W1) {a : Option Addr} {n c : Nat} (l : LabD (New W W1) W1 a n c x.th.l3) (o : Oth B W1 W2) (b : Blk W2 B (C.setIfInBounds 42 (.slice a n c)) 50) : Cp N w W2 B (C.setIfInBounds 42 (.slice a n c)) x (fun j => Dn j ∨ j = 42) := by
 have h1 := h.next k
 have hlt := h.bx.blk.lt
 have lz : LbV (Ex B W1) W1 (some (.slice a n c)) x.th.l3 := ⟨a, n, c, rfl, LabD.wide l fun b hb => ⟨hb.2, by have := hb.1; omega⟩⟩
 refine ⟨⟨b, ?_⟩, ?_, o.below _ _ h.le h1.be, h.le, by rw [o.size]; exact h1.nl, h.nw⟩
 ·exact ((h1.bx.ob.set42 lz rfl).laterK fun b hb => o.block b hb.2).wide fun b hb => ⟨by rw [o.size]; exact hb.1, hb.2⟩
 ·intro j hj
  by_cases e : j = 42
  ·subst e
   have q : (C.setIfInBounds 42 (Value.slice a n c))[42]? = some (.slice a n c) := by rw [set_at (by rw [h.bx.ob.size]; omega), if_pos rfl]
   show LbV _ _ ((C.setIfInBounds 42 (Value.slice a n c))[42]?) x.th.l3
   rw [q]
   exact ⟨a, n, c, rfl, LabD.wide (LabD.laterK l fun b hb => o.block b (by have := hb.1; omega)) fun b hb => ⟨⟨Nat.le_trans h.nl hb.1, by rw [o.size]; exact hb.2⟩, by have := hb.1; omega⟩⟩
  ·have hj' := hj.resolve_right e
   refine ((Cel.congr (h1.dn j hj') ?_).laterK fun b hb => o.block b hb.2).wide fun b hb => ⟨⟨hb.1.1, by rw [o.size]; exact hb.1.2⟩, hb.2⟩
   rw [set_at (by rw [h.bx.ob.size]; omega), if_neg (fun q => e q.symm)]
theorem Cp.st43 (h : Cp N w W B C x Dn) (k : Below W.heap.size W W1) {a : Option Addr} {n c : Nat} (l : LabD (New W W1) W1 a n c x.gt.grant) (o : Oth B W1 W2) (b : Blk W2 B (C.setIfInBounds 43 (.slice a n c)) 50) : Cp N w W2 B (C.setIfInBounds 43 (.slice a n c)) x (fun j => Dn j ∨ j = 43) := by
 have h1 := h.next k
 have hlt := h.bx.blk.lt
 have lz : LbV (Ex B W1) W1 (some (.slice a n c)) x.gt.grant := ⟨a, n, c, rfl, LabD.wide l fun b hb => ⟨hb.2, by have := hb.1; omega⟩⟩
 refine ⟨⟨b, ?_⟩, ?_, o.below _ _ h.le h1.be, h.le, by rw [o.size]; exact h1.nl, h.nw⟩
 ·exact ((h1.bx.ob.set43 lz rfl).laterK fun b hb => o.block b hb.2).wide fun b hb => ⟨by rw [o.size]; exact hb.1, hb.2⟩
 ·intro j hj
  by_cases e : j = 43
  ·subst e
   have q : (C.setIfInBounds 43 (Value.slice a n c))[43]? = some (.slice a n c) := by rw [set_at (by rw [h.bx.ob.size]; omega), if_pos rfl]
   show LbV _ _ ((C.setIfInBounds 43 (Value.slice a n c))[43]?) x.gt.grant
   rw [q]
   exact ⟨a, n, c, rfl, LabD.wide (LabD.laterK l fun b hb => o.block b (by have := hb.1; omega)) fun b hb => ⟨⟨Nat.le_trans h.nl hb.1, by rw [o.size]; exact hb.2⟩, by have := hb.1; omega⟩⟩
  ·have hj' := hj.resolve_right e
   refine ((Cel.congr (h1.dn j hj') ?_).laterK fun b hb => o.block b hb.2).wide fun b hb => ⟨⟨hb.1.1, by rw [o.size]; exact hb.1.2⟩, hb.2⟩
   rw [set_at (by rw [h.bx.ob.size]; omega), if_neg (fun q => e q.symm)]
theorem Cp.st44 (h : Cp N w W B C x Dn) (k : Below W.heap.size W W1) {a : Option Addr} {n c : Nat} (l : LabD (New W W1) W1 a n c x.gt.clear) (o : Oth B W1 W2) (b : Blk W2 B (C.setIfInBounds 44 (.slice a n c)) 50) : Cp N w W2 B (C.setIfInBounds 44 (.slice a n c)) x (fun j => Dn j ∨ j = 44) := by
 have h1 := h.next k
 have hlt := h.bx.blk.lt
 have lz : LbV (Ex B W1) W1 (some (.slice a n c)) x.gt.clear := ⟨a, n, c, rfl, LabD.wide l fun b hb => ⟨hb.2, by have := hb.1; omega⟩⟩
 refine ⟨⟨b, ?_⟩, ?_, o.below _ _ h.le h1.be, h.le, by rw [o.size]; exact h1.nl, h.nw⟩
 ·exact ((h1.bx.ob.set44 lz rfl).laterK fun b hb => o.block b hb.2).wide fun b hb => ⟨by rw [o.size]; exact hb.1, hb.2⟩
 ·intro j hj
  by_cases e : j = 44
  ·subst e
   have q : (C.setIfInBounds 44 (Value.slice a n c))[44]? = some (.slice a n c) := by rw [set_at (by rw [h.bx.ob.size]; omega), if_pos rfl]
   show LbV _ _ ((C.setIfInBounds 44 (Value.slice a n c))[44]?) x.gt.clear
   rw [q]
   exact ⟨a, n, c, rfl, LabD.wide (LabD.laterK l fun b hb => o.block b (by have := hb.1; omega)) fun b hb => ⟨⟨Nat.le_trans h.nl hb.1, by rw [o.size]; exact hb.2⟩, by have := hb.1; omega⟩⟩
  ·have hj' := hj.resolve_right e
   refine ((Cel.congr (h1.dn j hj') ?_).laterK fun b hb => o.block b hb.2).wide fun b hb => ⟨⟨hb.1.1, by rw [o.size]; exact hb.1.2⟩, hb.2⟩
   rw [set_at (by rw [h.bx.ob.size]; omega), if_neg (fun q => e q.symm)]
theorem Cp.st49 (h : Cp N w W B C x Dn) (k : Below W.heap.size W W1) {a : Option Addr} {n c : Nat} (l : CtD (New W W1) W1 a n c x.inn) (o : Oth B W1 W2) (b : Blk W2 B (C.setIfInBounds 49 (.slice a n c)) 50) : Cp N w W2 B (C.setIfInBounds 49 (.slice a n c)) x (fun j => Dn j ∨ j = 49) := by
 have h1 := h.next k
 have hlt := h.bx.blk.lt
 have lz : CtV (Ex B W1) W1 (some (.slice a n c)) x.inn := ⟨a, n, c, rfl, CtD.wide l fun b hb => ⟨hb.2, by have := hb.1; omega⟩⟩
 refine ⟨⟨b, ?_⟩, ?_, o.below _ _ h.le h1.be, h.le, by rw [o.size]; exact h1.nl, h.nw⟩
 ·exact ((h1.bx.ob.set49 lz rfl).laterK fun b hb => o.block b hb.2).wide fun b hb => ⟨by rw [o.size]; exact hb.1, hb.2⟩
 ·intro j hj
  by_cases e : j = 49
  ·subst e
   have q : (C.setIfInBounds 49 (Value.slice a n c))[49]? = some (.slice a n c) := by rw [set_at (by rw [h.bx.ob.size]; omega), if_pos rfl]
   show CtV _ _ ((C.setIfInBounds 49 (Value.slice a n c))[49]?) x.inn
   rw [q]
   exact ⟨a, n, c, rfl, CtD.wide (CtD.laterK l fun b hb => o.block b (by have := hb.1; omega)) fun b hb => ⟨⟨Nat.le_trans h.nl hb.1, by rw [o.size]; exact hb.2⟩, by have := hb.1; omega⟩⟩
  ·have hj' := hj.resolve_right e
   refine ((Cel.congr (h1.dn j hj') ?_).laterK fun b hb => o.block b hb.2).wide fun b hb => ⟨⟨hb.1.1, by rw [o.size]; exact hb.1.2⟩, hb.2⟩
   rw [set_at (by rw [h.bx.ob.size]; omega), if_neg (fun q => e q.symm)]
theorem Cp.st50 (h : Cp N w W B C x Dn) (k : Below W.heap.size W W1) {a : Option Addr} {n c : Nat} (l : CtD (New W W1) W1 a n c x.out) (o : Oth B W1 W2) (b : Blk W2 B (C.setIfInBounds 50 (.slice a n c)) 50) : Cp N w W2 B (C.setIfInBounds 50 (.slice a n c)) x (fun j => Dn j ∨ j = 50) := by
 have h1 := h.next k
 have hlt := h.bx.blk.lt
 have lz : CtV (Ex B W1) W1 (some (.slice a n c)) x.out := ⟨a, n, c, rfl, CtD.wide l fun b hb => ⟨hb.2, by have := hb.1; omega⟩⟩
 refine ⟨⟨b, ?_⟩, ?_, o.below _ _ h.le h1.be, h.le, by rw [o.size]; exact h1.nl, h.nw⟩
 ·exact ((h1.bx.ob.set50 lz rfl).laterK fun b hb => o.block b hb.2).wide fun b hb => ⟨by rw [o.size]; exact hb.1, hb.2⟩
 ·intro j hj
  by_cases e : j = 50
  ·subst e
   have q : (C.setIfInBounds 50 (Value.slice a n c))[50]? = some (.slice a n c) := by rw [set_at (by rw [h.bx.ob.size]; omega), if_pos rfl]
   show CtV _ _ ((C.setIfInBounds 50 (Value.slice a n c))[50]?) x.out
   rw [q]
   exact ⟨a, n, c, rfl, CtD.wide (CtD.laterK l fun b hb => o.block b (by have := hb.1; omega)) fun b hb => ⟨⟨Nat.le_trans h.nl hb.1, by rw [o.size]; exact hb.2⟩, by have := hb.1; omega⟩⟩
  ·have hj' := hj.resolve_right e
   refine ((Cel.congr (h1.dn j hj') ?_).laterK fun b hb => o.block b hb.2).wide fun b hb => ⟨⟨hb.1.1, by rw [o.size]; exact hb.1.2⟩, hb.2⟩
   rw [set_at (by rw [h.bx.ob.size]; omega), if_neg (fun q => e q.symm)]
theorem Cp.all (h : Cp N w W B C x Dn) (hd : ∀ j, j ∈ [2, 5, 6, 7, 25, 36, 39, 40, 41, 42, 43, 44, 49, 50] → Dn j) : ObD (fun b => N ≤ b ∧ b < W.heap.size) W C x := by
 have q : ∀ j, j ∈ [2, 5, 6, 7, 25, 36, 39, 40, 41, 42, 43, 44, 49, 50] → Cel (fun b => N ≤ b ∧ b < W.heap.size) W C x j := fun j hj => (h.dn j (hd j hj)).wide fun b hb => hb.1
 have o := h.bx.ob
 exact ⟨o.size, o.one, o.id, o.kind, q 2 (by decide), o.quota, o.fixed, q 5 (by decide), q 6 (by decide), q 7 (by decide),
  ⟨o.th.rlen, o.th.regs, o.th.pc, q 25 (by decide), o.th.sc, o.th.si, o.th.handler, o.th.vector, o.th.state, o.th.wc, o.th.wi, o.th.wx, o.th.wv, o.th.wd, q 36 (by decide), o.th.lo, o.th.hi, q 39 (by decide), q 40 (by decide), q 41 (by decide), q 42 (by decide)⟩,
  ⟨q 43 (by decide), q 44 (by decide), o.gt.sc, o.gt.si, o.gt.pc, o.gt.arg⟩, q 49 (by decide), q 50 (by decide)⟩
def Ap (N : Nat) (W : World) (B M : Nat) (C : Array Value) (x : Ob) : Prop :=
 LbV (fun b => (N ≤ b ∧ b < M) ∧ b ≠ B) W C[2]? x.label ∧ (∃ ao n cap, C[6]? = some (.slice ao n cap) ∧ W.ownsRow M 22 1 (.slice ao n cap) n (wordsC x.data)) ∧ N ≤ M ∧ M ≤ W.heap.size ∧ B < M
theorem Ap.of (h : Cp N w W B C x Dn) (hd : Dn 2) (k : Below W.heap.size W W1) {a : Option Addr} {n c : Nat} (l : W1.ownsRow W.heap.size 22 1 (.slice a n c) n (wordsC x.data)) (o : Oth B W1 W2) : Ap N W2 B W.heap.size (C.setIfInBounds 6 (.slice a n c)) x := by
 have hz := h.bx.ob.size
 have hB : B < W.heap.size := h.bx.blk.lt
 refine ⟨?_, ⟨a, n, c, by rw [set_at (by omega), if_pos rfl], owns_later l fun b hb _ => o.block b (by omega)⟩, h.nl, by rw [o.size]; exact k.size, hB⟩
 have h2 : LbV (fun b => (N ≤ b ∧ b < W.heap.size) ∧ b ≠ B) W C[2]? x.label := h.dn 2 hd
 rw [set_at (by omega), if_neg (by omega)]
 exact LbV.laterK h2 fun b hb => (o.block b hb.2).trans (k.block b hb.1.2)
theorem Ap.st {M : Nat} (h : Ap N W B M C x) (k : Below W.heap.size W W1) (o : Oth B W1 W2) (hz : C.size = 51) {j : Nat} {v : Value} (hj : j < 51 ∧ j ≠ 2 ∧ j ≠ 6) : Ap N W2 B M (C.setIfInBounds j v) x := by
 obtain ⟨h1, ⟨a, n, c, h2, h6⟩, h3, h4, h5⟩ := h
 refine ⟨?_, ⟨a, n, c, ?_, ?_⟩, h3, Nat.le_trans h4 (by rw [o.size]; exact k.size), h5⟩
 ·rw [set_at (by omega), if_neg (by omega)]
  exact LbV.laterK h1 fun b hb => (o.block b hb.2).trans (k.block b (Nat.lt_of_lt_of_le hb.1.2 h4))
 ·rw [set_at (by omega), if_neg (by omega)]
  exact h2
 ·exact owns_later h6 fun b hb hl => (o.block b (by omega)).trans (k.block b hl)
end
theorem copiedOne_ap {w : World} {C : Array Value} {x : Ob} (h : ObD (LtN w) w C x) (hs : Small x) :
  Calls Tryz.prog 43 #[.agg C] w fun e w' => ∃ C', e = .returned (.agg C') ∧ ObD (New w w') w' C' x ∧ Below w.heap.size w w' ∧ ∃ M, LbV (fun b => New w w' b ∧ b < M) w' C'[2]? x.label ∧ (∃ ao n cap, C'[6]? = some (.slice ao n cap) ∧ w'.ownsRow M 22 1 (.slice ao n cap) n (wordsC x.data)) ∧ w.heap.size ≤ M := by
 have ga0 := Tryz.isAgg34
 have ga1 := Tryz.isAgg22
 have ga2 := Tryz.isAgg3
 have ga3 := Tryz.isAgg4
 have ga4 := Tryz.isAgg35
 have ga5 := Tryz.isAgg36
 go_enter Tryz.func43, Tryz.ntmps43
 go_wp2_with (first
  | go_skip
  | (with_reducible refine wpList_box rfl _ _ rfl C rfl ?_; intro B W hB hb hk)
  | ((with_reducible refine wpList_alloc rfl _ rfl zC zero40 ?_); intro R W' hB' hR0 hk'; have hne : B ≠ R := (by have := hB'.out.1; have := hb.lt; omega); have hC0 : Cp W'.heap.size w W' B C x (fun _ => False) := ⟨(Bx.of h hB hb hk).next hk', fun j hj => False.elim hj, hk.trans (hk'.mono hk.size), (by have := hB.out.1; omega), Nat.le_refl _, (hk.trans (hk'.mono hk.size)).size⟩; obtain ⟨a2, n2, k2, c2, l2⟩ := hC0.bx.ob.label; (have e2 : n2 < 8796093022208 := (by have := hs.c2; have := l2.1; omega)))
  | (with_reducible refine wpList_load1 (by kernel_rfl) _ _ rfl B 2 rfl _ _ hC0.bx.blk _ c2 ga0 ?_)
  | (go_at_call 64; (with_reducible refine (copyLw (LabD.wide l2 fun _ hb => hb.1) (Below.refl _ _) e2).mono ?_); rintro e w2 ⟨b2, m2, rfl, z2, kb2⟩; have bl2 := hC0.bx.blk.next kb2)
  | ((with_reducible refine wpList_store_cell rfl _ _ _ rfl B 2 rfl (.slice b2 n2 m2) rfl rfl _ _ bl2 size24 (by rw [hC0.bx.ob.size]; omega) rfl ?_); intro W2' bb2 oo2; have hC1 := hC0.st2 kb2 z2 oo2 bb2; have hR1 := (hR0.next kb2).other oo2 hne.symm; obtain ⟨a5, n5, k5, c5, l5⟩ := hC1.bx.ob.links; (have e5 : n5 < 4294967296 := (by have := hs.c5; have := l5.1; omega)))
  | (with_reducible refine wpList_load1 (by kernel_rfl) _ _ rfl B 5 rfl _ _ hC1.bx.blk _ c5 ga4 ?_)
  | (go_at_call 65; (with_reducible refine (copyU (CtD.wide l5 fun _ hb => hb.1) (Below.refl _ _) e5).mono ?_); rintro e w5 ⟨b5, m5, rfl, z5, kb5⟩; have bl5 := hC1.bx.blk.next kb5)
  | ((with_reducible refine wpList_store_cell rfl _ _ _ rfl B 5 rfl (.slice b5 n5 m5) rfl rfl _ _ bl5 size25 (by rw [hC1.bx.ob.size]; omega) rfl ?_); intro W5' bb5 oo5; have hC2 := hC1.st5 kb5 z5 oo5 bb5; have hR2 := (hR1.next kb5).other oo5 hne.symm; obtain ⟨a6, n6, k6, c6, l6⟩ := hC2.bx.ob.data; (have e6 : n6 < 4294967296 := (by have := hs.c6; have := l6.1; omega)))
  | (with_reducible refine wpList_load1 (by kernel_rfl) _ _ rfl B 6 rfl _ _ hC2.bx.blk _ c6 ga4 ?_)
  | (go_at_call 65; (with_reducible refine (copyU_own (CtD.wide l6 fun _ hb => hb.1) (Below.refl _ _) e6).mono ?_); rintro e w6 ⟨b6, m6, rfl, z6, kb6⟩; have bl6 := hC2.bx.blk.next kb6)
  | ((with_reducible refine wpList_store_cell rfl _ _ _ rfl B 6 rfl (.slice b6 n6 m6) rfl rfl _ _ bl6 size25 (by rw [hC2.bx.ob.size]; omega) rfl ?_); intro W6' bb6 oo6; have hC3 := hC2.st6 kb6 (ct_owns z6) oo6 bb6; have hA3 := Ap.of hC2 (by simp) kb6 z6 oo6; have hR3 := (hR2.next kb6).other oo6 hne.symm; obtain ⟨a7, n7, k7, c7, l7⟩ := hC3.bx.ob.maps; (have e7 : n7 < 4294967296 := (by have := hs.c7; have := l7.1; omega)))
  | (with_reducible refine wpList_load1 (by kernel_rfl) _ _ rfl B 7 rfl _ _ hC3.bx.blk _ c7 ga5 ?_)
  | (go_at_call 66; (with_reducible refine (copyM (PgM.MpsD.wide l7 fun _ hb => hb.1) (Below.refl _ _) e7).mono ?_); rintro e w7 ⟨b7, m7, rfl, z7, kb7⟩; have bl7 := hC3.bx.blk.next kb7)
  | ((with_reducible refine wpList_store_cell rfl _ _ _ rfl B 7 rfl (.slice b7 n7 m7) rfl rfl _ _ bl7 size26 (by rw [hC3.bx.ob.size]; omega) rfl ?_); intro W7' bb7 oo7; have hC4 := hC3.st7 kb7 z7 oo7 bb7; have hA4 := hA3.st kb7 oo7 hC3.bx.ob.size (j := 7) (v := .slice b7 n7 m7) (by omega); have hR4 := (hR3.next kb7).other oo7 hne.symm; obtain ⟨a25, n25, k25, c25, l25⟩ := hC4.bx.ob.th.clear; (have e25 : n25 < 8796093022208 := (by have := hs.c25; have := l25.1; omega)))
  | (with_reducible refine wpList_load1 (by kernel_rfl) _ _ rfl B 25 rfl _ _ hC4.bx.blk _ c25 ga0 ?_)
  | (go_at_call 64; (with_reducible refine (copyLw (LabD.wide l25 fun _ hb => hb.1) (Below.refl _ _) e25).mono ?_); rintro e w25 ⟨b25, m25, rfl, z25, kb25⟩; have bl25 := hC4.bx.blk.next kb25)
  | ((with_reducible refine wpList_store_cell rfl _ _ _ rfl B 25 rfl (.slice b25 n25 m25) rfl rfl _ _ bl25 size24 (by rw [hC4.bx.ob.size]; omega) rfl ?_); intro W25' bb25 oo25; have hC5 := hC4.st25 kb25 z25 oo25 bb25; have hA5 := hA4.st kb25 oo25 hC4.bx.ob.size (j := 25) (v := .slice b25 n25 m25) (by omega); have hR5 := (hR4.next kb25).other oo25 hne.symm; obtain ⟨a36, n36, k36, c36, l36⟩ := hC5.bx.ob.th.alerts; (have e36 : n36 < 4294967296 := (by have := hs.c36; have := l36.1; omega)))
  | (with_reducible refine wpList_load1 (by kernel_rfl) _ _ rfl B 36 rfl _ _ hC5.bx.blk _ c36 ga4 ?_)
  | (go_at_call 65; (with_reducible refine (copyU (CtD.wide l36 fun _ hb => hb.1) (Below.refl _ _) e36).mono ?_); rintro e w36 ⟨b36, m36, rfl, z36, kb36⟩; have bl36 := hC5.bx.blk.next kb36)
  | ((with_reducible refine wpList_store_cell rfl _ _ _ rfl B 36 rfl (.slice b36 n36 m36) rfl rfl _ _ bl36 size25 (by rw [hC5.bx.ob.size]; omega) rfl ?_); intro W36' bb36 oo36; have hC6 := hC5.st36 kb36 z36 oo36 bb36; have hA6 := hA5.st kb36 oo36 hC5.bx.ob.size (j := 36) (v := .slice b36 n36 m36) (by omega); have hR6 := (hR5.next kb36).other oo36 hne.symm; obtain ⟨a39, n39, k39, c39, l39⟩ := hC6.bx.ob.th.l0; (have e39 : n39 < 8796093022208 := (by have := hs.c39; have := l39.1; omega)); obtain ⟨a40, n40, k40, c40, l40⟩ := hC6.bx.ob.th.l1; (have e40 : n40 < 8796093022208 := (by have := hs.c40; have := l40.1; omega)); obtain ⟨a41, n41, k41, c41, l41⟩ := hC6.bx.ob.th.l2; (have e41 : n41 < 8796093022208 := (by have := hs.c41; have := l41.1; omega)); obtain ⟨a42, n42, k42, c42, l42⟩ := hC6.bx.ob.th.l3; (have e42 : n42 < 8796093022208 := (by have := hs.c42; have := l42.1; omega)))
  | (with_reducible refine wpList_loadp (by kernel_rfl) 44 _ rfl B 39 rfl 4 _ _ hC6.bx.blk _ (ext4 c39 c40 c41 c42) (by rw [hC6.bx.ob.size]; omega) _ Tryz.underlying44 (by kernel_rfl) size34 ?_))
 have kb0 : W36'.heap.size ≤ W36'.heap.size ∧ ∀ b, Ex B W36' b → W36'.heap[b]? = W36'.heap[b]? := ⟨Nat.le_refl _, fun _ _ => rfl⟩
 go_loopw [36] (fun i wr => ∃ (k : Nat) (C' : Array Value), k ≤ 4 ∧ i = .int .i64 k ∧ Hid (Cp W'.heap.size w wr B C' x (fun j => j ∈ [2, 5, 6, 7, 25, 36] ∨ (39 ≤ j ∧ j < 39 + k))) ∧ Hid (∃ M, Ap W'.heap.size wr B M C' x) ∧ Blk wr R zC 50 ∧ (W36'.heap.size ≤ wr.heap.size ∧ ∀ b, Ex B W36' b → wr.heap[b]? = W36'.heap[b]?)) (fun i _ => 4 - (intOf i).toNat)
 case atStart =>
  refine ⟨0, _, Nat.zero_le _, rfl, (⟨hC6.bx, fun j hj => ?_, hC6.be, hC6.le, hC6.nl, hC6.nw⟩ : Cp W'.heap.size w W36' B _ x _), ⟨_, hA6⟩, hR6, kb0⟩
  rcases hj with hj | hj
  ·exact hC6.dn j (by simp at hj; rcases hj with rfl | rfl | rfl | rfl | rfl | rfl <;> simp)
  ·omega
 case round =>
  obtain ⟨k, C', hk4, rfl, hCk, hAk, hRk, hkb⟩ := hrel
  obtain ⟨M, hA0⟩ := hAk.out
  have hC0 := hCk.out
  by_cases hkn : k < 4
  ·obtain hcs | hcs | hcs | hcs : k = 0 ∨ k = 1 ∨ k = 2 ∨ k = 3 := by omega
   ·subst hcs
    have ixk := ix_0 (.slice a39 n39 k39) (.slice a40 n40 k40) (.slice a41 n41 k41) (.slice a42 n42 k42)
    have lk : LabD (LtN wr) wr a39 n39 k39 x.th.l0 := (l39.laterK fun b hb => hkb.2 b hb).wide fun b hb => Nat.lt_of_lt_of_le hb.1 hkb.1
    simp only [show (((0 : Nat) : Int)) = 0 from rfl]
    go_wp2_with (first
     | (go_at_call 64; (with_reducible refine (copyLw lk (Below.refl _ _) e39).mono ?_); rintro e w39 ⟨b39, m39, rfl, z39, kb39⟩; have bl39 := hC0.bx.blk.next kb39)
     | ((with_reducible refine wpList_store_cell rfl _ _ _ rfl B 39 rfl (.slice b39 n39 m39) rfl rfl _ _ bl39 size24 (by rw [hC0.bx.ob.size]; omega) rfl ?_); intro W39' bb39 oo39; have hC1 := hC0.st39 kb39 z39 oo39 bb39; have hA1 := hA0.st kb39 oo39 hC0.bx.ob.size (j := 39) (v := .slice b39 n39 m39) (by omega); have hR1 := (hRk.next kb39).other oo39 hne.symm))
    go_roundw
    case rel =>
     refine ⟨1, _, by omega, by go_num, (⟨hC1.bx, fun j hj => hC1.dn j ?_, hC1.be, hC1.le, hC1.nl, hC1.nw⟩ : Cp W'.heap.size w W39' B _ x _), ⟨_, hA1⟩, hR1, Nat.le_trans hkb.1 (by rw [oo39.size]; exact kb39.size), fun b hb => ((oo39.block b hb.2).trans (kb39.block b (Nat.lt_of_lt_of_le hb.1 hkb.1))).trans (hkb.2 b hb)⟩
     rcases hj with hj | hj
     ·exact .inl (.inl hj)
     ·rcases Nat.lt_or_ge j 39 with h' | h'
      ·exact .inl (.inr (by omega))
      ·exact .inr (by omega)
    case measure => simp [intOf]
   ·subst hcs
    have ixk := ix_1 (.slice a39 n39 k39) (.slice a40 n40 k40) (.slice a41 n41 k41) (.slice a42 n42 k42)
    have lk : LabD (LtN wr) wr a40 n40 k40 x.th.l1 := (l40.laterK fun b hb => hkb.2 b hb).wide fun b hb => Nat.lt_of_lt_of_le hb.1 hkb.1
    simp only [show (((1 : Nat) : Int)) = 1 from rfl]
    go_wp2_with (first
     | (go_at_call 64; (with_reducible refine (copyLw lk (Below.refl _ _) e40).mono ?_); rintro e w40 ⟨b40, m40, rfl, z40, kb40⟩; have bl40 := hC0.bx.blk.next kb40)
     | ((with_reducible refine wpList_store_cell rfl _ _ _ rfl B 40 rfl (.slice b40 n40 m40) rfl rfl _ _ bl40 size24 (by rw [hC0.bx.ob.size]; omega) rfl ?_); intro W40' bb40 oo40; have hC1 := hC0.st40 kb40 z40 oo40 bb40; have hA1 := hA0.st kb40 oo40 hC0.bx.ob.size (j := 40) (v := .slice b40 n40 m40) (by omega); have hR1 := (hRk.next kb40).other oo40 hne.symm))
    go_roundw
    case rel =>
     refine ⟨2, _, by omega, by go_num, (⟨hC1.bx, fun j hj => hC1.dn j ?_, hC1.be, hC1.le, hC1.nl, hC1.nw⟩ : Cp W'.heap.size w W40' B _ x _), ⟨_, hA1⟩, hR1, Nat.le_trans hkb.1 (by rw [oo40.size]; exact kb40.size), fun b hb => ((oo40.block b hb.2).trans (kb40.block b (Nat.lt_of_lt_of_le hb.1 hkb.1))).trans (hkb.2 b hb)⟩
     rcases hj with hj | hj
     ·exact .inl (.inl hj)
     ·rcases Nat.lt_or_ge j 40 with h' | h'
      ·exact .inl (.inr (by omega))
      ·exact .inr (by omega)
    case measure => simp [intOf]
   ·subst hcs
    have ixk := ix_2 (.slice a39 n39 k39) (.slice a40 n40 k40) (.slice a41 n41 k41) (.slice a42 n42 k42)
    have lk : LabD (LtN wr) wr a41 n41 k41 x.th.l2 := (l41.laterK fun b hb => hkb.2 b hb).wide fun b hb => Nat.lt_of_lt_of_le hb.1 hkb.1
    simp only [show (((2 : Nat) : Int)) = 2 from rfl]
    go_wp2_with (first
     | (go_at_call 64; (with_reducible refine (copyLw lk (Below.refl _ _) e41).mono ?_); rintro e w41 ⟨b41, m41, rfl, z41, kb41⟩; have bl41 := hC0.bx.blk.next kb41)
     | ((with_reducible refine wpList_store_cell rfl _ _ _ rfl B 41 rfl (.slice b41 n41 m41) rfl rfl _ _ bl41 size24 (by rw [hC0.bx.ob.size]; omega) rfl ?_); intro W41' bb41 oo41; have hC1 := hC0.st41 kb41 z41 oo41 bb41; have hA1 := hA0.st kb41 oo41 hC0.bx.ob.size (j := 41) (v := .slice b41 n41 m41) (by omega); have hR1 := (hRk.next kb41).other oo41 hne.symm))
    go_roundw
    case rel =>
     refine ⟨3, _, by omega, by go_num, (⟨hC1.bx, fun j hj => hC1.dn j ?_, hC1.be, hC1.le, hC1.nl, hC1.nw⟩ : Cp W'.heap.size w W41' B _ x _), ⟨_, hA1⟩, hR1, Nat.le_trans hkb.1 (by rw [oo41.size]; exact kb41.size), fun b hb => ((oo41.block b hb.2).trans (kb41.block b (Nat.lt_of_lt_of_le hb.1 hkb.1))).trans (hkb.2 b hb)⟩
     rcases hj with hj | hj
     ·exact .inl (.inl hj)
     ·rcases Nat.lt_or_ge j 41 with h' | h'
      ·exact .inl (.inr (by omega))
      ·exact .inr (by omega)
    case measure => simp [intOf]
   ·subst hcs
    have ixk := ix_3 (.slice a39 n39 k39) (.slice a40 n40 k40) (.slice a41 n41 k41) (.slice a42 n42 k42)
    have lk : LabD (LtN wr) wr a42 n42 k42 x.th.l3 := (l42.laterK fun b hb => hkb.2 b hb).wide fun b hb => Nat.lt_of_lt_of_le hb.1 hkb.1
    simp only [show (((3 : Nat) : Int)) = 3 from rfl]
    go_wp2_with (first
     | (go_at_call 64; (with_reducible refine (copyLw lk (Below.refl _ _) e42).mono ?_); rintro e w42 ⟨b42, m42, rfl, z42, kb42⟩; have bl42 := hC0.bx.blk.next kb42)
     | ((with_reducible refine wpList_store_cell rfl _ _ _ rfl B 42 rfl (.slice b42 n42 m42) rfl rfl _ _ bl42 size24 (by rw [hC0.bx.ob.size]; omega) rfl ?_); intro W42' bb42 oo42; have hC1 := hC0.st42 kb42 z42 oo42 bb42; have hA1 := hA0.st kb42 oo42 hC0.bx.ob.size (j := 42) (v := .slice b42 n42 m42) (by omega); have hR1 := (hRk.next kb42).other oo42 hne.symm))
    go_roundw
    case rel =>
     refine ⟨4, _, by omega, by go_num, (⟨hC1.bx, fun j hj => hC1.dn j ?_, hC1.be, hC1.le, hC1.nl, hC1.nw⟩ : Cp W'.heap.size w W42' B _ x _), ⟨_, hA1⟩, hR1, Nat.le_trans hkb.1 (by rw [oo42.size]; exact kb42.size), fun b hb => ((oo42.block b hb.2).trans (kb42.block b (Nat.lt_of_lt_of_le hb.1 hkb.1))).trans (hkb.2 b hb)⟩
     rcases hj with hj | hj
     ·exact .inl (.inl hj)
     ·rcases Nat.lt_or_ge j 42 with h' | h'
      ·exact .inl (.inr (by omega))
      ·exact .inr (by omega)
    case measure => simp [intOf]
  ·obtain rfl : k = 4 := by omega
   simp only [show (((4 : Nat) : Int)) = 4 from rfl]
   have hR0 := hRk
   clear c39 l39 e39 c40 l40 e40 c41 l41 e41 c42 l42 e42
   obtain ⟨a43, n43, k43, c43, l43⟩ := hC0.bx.ob.gt.grant; (have e43 : n43 < 8796093022208 := (by have := hs.c43; have := l43.1; omega))
   go_wp2_with (first
    | go_skip
    | (with_reducible refine wpList_load1 (by kernel_rfl) _ _ rfl B 43 rfl _ _ hC0.bx.blk _ c43 ga0 ?_)
    | (go_at_call 64; (with_reducible refine (copyLw (LabD.wide l43 fun _ hb => hb.1) (Below.refl _ _) e43).mono ?_); rintro e w43 ⟨b43, m43, rfl, z43, kb43⟩; have bl43 := hC0.bx.blk.next kb43)
    | ((with_reducible refine wpList_store_cell rfl _ _ _ rfl B 43 rfl (.slice b43 n43 m43) rfl rfl _ _ bl43 size24 (by rw [hC0.bx.ob.size]; omega) rfl ?_); intro W43' bb43 oo43; have hC1 := hC0.st43 kb43 z43 oo43 bb43; have hA1 := hA0.st kb43 oo43 hC0.bx.ob.size (j := 43) (v := .slice b43 n43 m43) (by omega); have hR1 := (hR0.next kb43).other oo43 hne.symm; obtain ⟨a44, n44, k44, c44, l44⟩ := hC1.bx.ob.gt.clear; (have e44 : n44 < 8796093022208 := (by have := hs.c44; have := l44.1; omega)))
    | (with_reducible refine wpList_load1 (by kernel_rfl) _ _ rfl B 44 rfl _ _ hC1.bx.blk _ c44 ga0 ?_)
    | (go_at_call 64; (with_reducible refine (copyLw (LabD.wide l44 fun _ hb => hb.1) (Below.refl _ _) e44).mono ?_); rintro e w44 ⟨b44, m44, rfl, z44, kb44⟩; have bl44 := hC1.bx.blk.next kb44)
    | ((with_reducible refine wpList_store_cell rfl _ _ _ rfl B 44 rfl (.slice b44 n44 m44) rfl rfl _ _ bl44 size24 (by rw [hC1.bx.ob.size]; omega) rfl ?_); intro W44' bb44 oo44; have hC2 := hC1.st44 kb44 z44 oo44 bb44; have hA2 := hA1.st kb44 oo44 hC1.bx.ob.size (j := 44) (v := .slice b44 n44 m44) (by omega); have hR2 := (hR1.next kb44).other oo44 hne.symm; obtain ⟨a49, n49, k49, c49, l49⟩ := hC2.bx.ob.inn; (have e49 : n49 < 4294967296 := (by have := hs.c49; have := l49.1; omega)))
    | (with_reducible refine wpList_load1 (by kernel_rfl) _ _ rfl B 49 rfl _ _ hC2.bx.blk _ c49 ga4 ?_)
    | (go_at_call 65; (with_reducible refine (copyU (CtD.wide l49 fun _ hb => hb.1) (Below.refl _ _) e49).mono ?_); rintro e w49 ⟨b49, m49, rfl, z49, kb49⟩; have bl49 := hC2.bx.blk.next kb49)
    | ((with_reducible refine wpList_store_cell rfl _ _ _ rfl B 49 rfl (.slice b49 n49 m49) rfl rfl _ _ bl49 size25 (by rw [hC2.bx.ob.size]; omega) rfl ?_); intro W49' bb49 oo49; have hC3 := hC2.st49 kb49 z49 oo49 bb49; have hA3 := hA2.st kb49 oo49 hC2.bx.ob.size (j := 49) (v := .slice b49 n49 m49) (by omega); have hR3 := (hR2.next kb49).other oo49 hne.symm; obtain ⟨a50, n50, k50, c50, l50⟩ := hC3.bx.ob.out; (have e50 : n50 < 4294967296 := (by have := hs.c50; have := l50.1; omega)))
    | (with_reducible refine wpList_load1 (by kernel_rfl) _ _ rfl B 50 rfl _ _ hC3.bx.blk _ c50 ga4 ?_)
    | (go_at_call 65; (with_reducible refine (copyU (CtD.wide l50 fun _ hb => hb.1) (Below.refl _ _) e50).mono ?_); rintro e w50 ⟨b50, m50, rfl, z50, kb50⟩; have bl50 := hC3.bx.blk.next kb50)
    | ((with_reducible refine wpList_store_cell rfl _ _ _ rfl B 50 rfl (.slice b50 n50 m50) rfl rfl _ _ bl50 size25 (by rw [hC3.bx.ob.size]; omega) rfl ?_); intro W50' bb50 oo50; have hC4 := hC3.st50 kb50 z50 oo50 bb50; have hA4 := hA3.st kb50 oo50 hC3.bx.ob.size (j := 50) (v := .slice b50 n50 m50) (by omega); have hR4 := (hR3.next kb50).other oo50 hne.symm; skip)
    | ((with_reducible refine wpList_load_blk rfl _ _ rfl B rfl _ hC4.bx.blk _ Tryz.underlying50 rfl (size40C hC4.bx.ob.size) ?_))
    | ((with_reducible refine wpList_store_blk rfl _ _ _ rfl R rfl _ rfl zC hR4 (size40C hC4.bx.ob.size) (zC_size.trans hC4.bx.ob.size.symm) hC4.bx.ob.one ?_); intro W9 b9 o9))
   have hob := hC4.all (fun j hj => by
    simp at hj
    rcases hj with rfl | rfl | rfl | rfl | rfl | rfl | rfl | rfl | rfl | rfl | rfl | rfl | rfl | rfl <;> simp)
   have hlR : w.heap.size ≤ R := by have := hB'.out.1; have := hk.size; omega
   have bz := o9.below w.heap.size w hlR hC4.be
   refine bodyPost_ret (v := .agg _) (res40 Tryz.results43 rfl b9 hob.size) rfl ?_
   refine ⟨_, rfl, ?_, bz, M, ?_, ?_⟩
   rotate_left
   ·exact (LbV.laterK hA4.1 fun b hb => o9.block b (by have := hB'.out; have := hb.1; omega)).wide fun b hb => ⟨⟨Nat.le_trans hC4.nw hb.1.1, by rw [o9.size]; exact Nat.lt_of_lt_of_le hb.1.2 hA4.2.2.2.1⟩, hb.1.2⟩
   ·obtain ⟨a, n, c, e1, e2⟩ := hA4.2.1
    exact ⟨⟨a, n, c, e1, owns_later e2 fun b hb _ => o9.block b (by have := hB'.out; have := hA4.2.2.1; omega)⟩, Nat.le_trans hC4.nw hA4.2.2.1⟩
   exact (hob.laterK fun b hb => o9.block b (by have := hB'.out; have := hb.1; omega)).wide fun b hb => ⟨Nat.le_trans hC4.nw hb.1, by rw [o9.size]; exact hb.2⟩
theorem copiedOne_any {w : World} {C : Array Value} {x : Ob} (h : ObD (LtN w) w C x) (hs : Small x) :
  Calls Tryz.prog 43 #[.agg C] w fun e w' => ∃ C', e = .returned (.agg C') ∧ ObD (New w w') w' C' x ∧ Below w.heap.size w w' :=
 (copiedOne_ap h hs).mono fun _ _ ⟨C', e, ho, hk, _⟩ => ⟨C', e, ho, hk⟩
end Go.Proofs.YtfghigibjdncbaaGreat
