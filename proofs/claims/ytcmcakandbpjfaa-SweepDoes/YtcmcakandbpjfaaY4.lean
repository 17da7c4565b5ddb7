/-
 PROVED HERE: what package obj's sameThread and the document's SameGate return when they are called (contracts over this tra. What is asked stands at each.
-/
import Derived.Deep.RegionHeld3
import Derived.Deep.DeepCutAuto
import Derived.BigQuiet
import Derived.Test.YtcmcakandbpjfaaY3
namespace Go.Proofs.Ytcmcakandbpjfaa
set_option maxRecDepth 100000
set_option maxHeartbeats 8000000
open Go.RowKit Go.Shelf
set_option linter.unusedVariables false
attribute [local go_sem] Oper.semAt_some

theorem ext_regs {D : Nat → Prop} {w : World} {T : Array Value} {t : Th} (h : ThD D w T t) : T.extract 0 (0 + 16) = (t.regs.map (Value.int .u64)).toArray := by
 apply Array.ext_getElem?
 intro i
 by_cases hi : i < 16
 ·have hl : i < t.regs.length := by rw [h.f.rlen]; exact hi
  rw [ext_get (by rw [h.size]; omega) hi, Nat.zero_add]
  refine (h.f.regs i hi).trans ?_
  simp [List.getD_eq_getElem?_getD, List.getElem?_eq_getElem hl]
 ·rw [Array.getElem?_extract, if_neg (by omega)]
  exact (Array.getElem?_eq_none (by simp [h.f.rlen]; omega)).symm
theorem ext5 {C : Array Value} {o : Nat} {a b c d e : Value} (h0 : C[o]? = some a) (h1 : C[o + 1]? = some b) (h2 : C[o + 2]? = some c) (h3 : C[o + 3]? = some d) (h4 : C[o + 4]? = some e) : C.extract o (o + 5) = #[a, b, c, d, e] := by
 have hs : o + 4 < C.size := (Array.getElem?_eq_some_iff.1 h4).1
 apply Array.ext_getElem?
 intro i
 rcases i with _ | _ | _ | _ | _ | i
 ·rw [ext_get (n := 5) (by omega) (by omega)]; exact h0
 ·rw [ext_get (n := 5) (by omega) (by omega)]; exact h1
 ·rw [ext_get (n := 5) (by omega) (by omega)]; exact h2
 ·rw [ext_get (n := 5) (by omega) (by omega)]; exact h3
 ·rw [ext_get (n := 5) (by omega) (by omega)]; exact h4
 ·rw [Array.getElem?_extract, if_neg (by omega)]; simp
theorem rsameGate_any {w : World} {G G' : Array Value} {g g' : Gt} (h : GtD (LtN w) w G g) (h' : GtD (LtN w) w G' g') :
  Asks 45 #[.agg G, .agg G'] (g = g') w := by
 have hz := h.size
 have hz' := h'.size
 obtain ⟨a0, n0, k0, c0, l0⟩ := h.f.grant
 obtain ⟨a1, n1, k1, c1, l1⟩ := h.f.clear
 have x2 := ext2 h.f.sc h.f.si
 have c4 := h.f.pc
 have c5 := h.f.arg
 obtain ⟨a0', n0', k0', c0', l0'⟩ := h'.f.grant
 obtain ⟨a1', n1', k1', c1', l1'⟩ := h'.f.clear
 have x2' := ext2 h'.f.sc h'.f.si
 have c4' := h'.f.pc
 have c5' := h'.f.arg
 have ga0 := Try.isAgg39
 have ga1 := Try.isAgg22
 have ga2 := Try.isAgg3
 have ga3 := Try.isAgg4
 have ga4 := Try.isAgg28
 have ga5 := Try.isAgg40
 unfold Asks
 go_enter Try.func45, Try.ntmps45
 go_wp2_with (first
  | go_skip
  | (with_reducible refine wpList_box rfl _ _ rfl G rfl ?_; intro B W hB hb hk)
  | (with_reducible refine wpList_box rfl _ _ rfl G' rfl ?_; intro B' W' hB' hb' hk'; replace hb := hb.next hk'; replace hk := hk.trans (hk'.mono hk.size); clear hk')
  | (with_reducible refine wpList_load1 (by kernel_rfl) _ _ rfl B _ rfl _ _ hb _ (by assumption) (by assumption) ?_)
  | (with_reducible refine wpList_load1 (by kernel_rfl) _ _ rfl B' _ rfl _ _ hb' _ (by assumption) (by assumption) ?_)
  | (with_reducible refine wpList_loadp (by kernel_rfl) 43 _ rfl B _ rfl 2 _ _ hb _ (by assumption) (by omega) _ Try.underlying43 (by kernel_rfl) size29 ?_)
  | (with_reducible refine wpList_loadp (by kernel_rfl) 43 _ rfl B' _ rfl 2 _ _ hb' _ (by assumption) (by omega) _ Try.underlying43 (by kernel_rfl) size29 ?_)
  | ((with_reducible refine wpList_test (by kernel_rfl) .eql _ _ _ _ rfl _ _ rfl rfl (eqg_int _ _ _ _ _ _) ?_ ?_) <;> intro hq)
  | ((with_reducible refine wpList_test (by kernel_rfl) .eql _ _ _ _ rfl _ _ rfl rfl (eqg_ref _ _ _ _ _ _) ?_ ?_) <;> intro hq)
  | (go_at_call 41; (with_reducible refine (reqL (by assumption) (by assumption) hk).on ?_ ?_) <;> (intro w1 hq hb1; replace hb := hb.next hb1; replace hb' := hb'.next hb1; replace hk := hk.trans (hb1.mono hk.size); clear hb1)))
 all_goals go_ret
 all_goals first
  | (refine askP_no (by assumption) hk ?_; intro e; rw [e]; done)
  | (refine askP_no (by assumption) hk ?_; intro e; rw [e]; exact ⟨rfl, rfl⟩)
  | (refine askP_no (by assumption) hk ?_; intro e; rw [e]; exact ⟨rfl, rfl, rfl, rfl, rfl⟩)
  | (refine askP_no (by assumption) hk ?_; intro e; rw [e]; exact fun _ _ => rfl)
  | (refine askP_yes ?_ hk; exact gt_iff.1 ⟨Hid.out (by assumption), Hid.out (by assumption), Hid.out (by assumption), Hid.out (by assumption), Hid.out (by assumption)⟩)
  | fail
end Go.Proofs.Ytcmcakandbpjfaa
namespace Go.Proofs.Ytcmcakandbpjfaa
set_option maxRecDepth 100000
set_option maxHeartbeats 8000000
open Go.RowKit Go.Shelf
set_option linter.unusedVariables false
attribute [local go_sem] Oper.semAt_some

theorem putQ {Q : Exit → Act → World → Prop} (hQ : ∀ c a d v w, Q (.panic c) (Act.put a (some d) v) w → Q (.panic c) a w) {c : List PanicEntry} {a : Act} {d : Option Tmp} {v : Value} {w : World} (h : Q (.panic c) (a.put d v) w) : Q (.panic c) a w := by
 cases d with
 | none => exact h
 | some d => exact hQ c a d v w h
end Go.Proofs.Ytcmcakandbpjfaa
namespace Go.Proofs.Ytcmcakandbpjfaa
set_option maxRecDepth 100000
set_option maxHeartbeats 8000000
open Go.RowKit Go.Shelf
set_option linter.unusedVariables false
attribute [local go_sem] Oper.semAt_some

inductive Obl where
 | load (ty : TypeId) (b o : Nat) (v : Value)
 | test (f : BinOp) (t : TypeId) (x y : Operand) (u v r : Value)
 | sl (t : TypeId) (x : Value) (lo hi mx : Option Value) (v : Value)
 | ia (t : TypeId) (x i v : Value)
 | ix (t : TypeId) (x i v : Value)
 | ln (t u : TypeId) (x v : Value)
def Obl.holds (P : Program) (S : World → Prop) : Obl → Prop
 | .load ty b o v => ∀ w, S w → (loadVar ty ⟨b, o, none⟩).run P w = .ok v w
 | .test f t x y u v r => ∀ w, S w → (do eqGuard f t x y u v; binOp f t u v).run P w = .ok r w
 | .sl t x lo hi mx v => ∀ w, S w → (Instr.sliceAt t x lo hi mx).run P w = .ok v w
 | .ia t x i v => ∀ w, S w → (Instr.indexAt t x i).run P w = .ok v w
 | .ix t x i v => ∀ w, S w → (Instr.index t x i).run P w = .ok v w
 | .ln t u x v => ∀ w, S w → (invoke (.builtin .len #[t] u #[false]) #[x]).run P w = .ok (.value v) w
def Obls (P : Program) (S : World → Prop) : List Obl → Prop
 | [] => True
 | o :: r => o.holds P S ∧ Obls P S r
theorem Obls.app {P : Program} {S : World → Prop} : ∀ {l m : List Obl}, Obls P S (l ++ m) → Obls P S l ∧ Obls P S m
 | [], m, h => ⟨trivial, h⟩
 | o :: r, m, h => ⟨⟨h.1, (Obls.app h.2).1⟩, (Obls.app h.2).2⟩
def symf (P : Program) (s f : Nat) (v : Value) : Option Value :=
 match v with
 | .pointer (some ⟨b, off, none⟩) =>
  match P.underlying s with
  | some (.struct fs) =>
   match fs[f]? with
   | some fd =>
    match P.info? fd.type with
    | some i => if i.size = 0 then none else some (.pointer (some ⟨b, off + fd.offset, none⟩))
    | none => none
   | none => none
  | _ => none
 | _ => none
def symw (P : Program) (g : Option Value) (o : Oper) (a : Act) : Option (Value × List Obl) :=
 match o.op with
 | .move x => some (a.eval x, [])
 | .assign x => some (a.eval x, [])
 | .pick c x y =>
  match a.eval c with
  | .bool true => some (a.eval x, [])
  | .bool false => some (a.eval y, [])
  | _ => none
 | .fieldAddr s x f => (symf P s f (a.eval x)).map fun v => (v, [])
 | .load ty x =>
  match a.eval x, g with
  | .pointer (some ⟨b, off, none⟩), some v => some (v, [.load ty b off v])
  | _, _ => none
 | .binOp f t x y _ => g.map fun v => (v, [.test f t x y (a.eval x) (a.eval y) v])
 | .unOp .not _ x =>
  match a.eval x with
  | .bool b => some (.bool (!b), [])
  | _ => none
 | .slice t x lo hi mx => g.map fun v => (v, [.sl t (a.eval x) (lo.map a.eval) (hi.map a.eval) (mx.map a.eval) v])
 | .indexAddr t x i => g.map fun v => (v, [.ia t (a.eval x) (a.eval i) v])
 | .index t x i => g.map fun v => (v, [.ix t (a.eval x) (a.eval i) v])
 | .call c =>
  match c.callee, c.args.toList, c.argTypes.toList with
  | .builtin .len, [.tmp x], [t] => g.map fun v => (v, [.ln t o.type (a.eval (.tmp x)) v])
  | _, _, _ => none
 | _ => none
def symv (P : Program) (ops : Array Oper) (g : Option Value) (o : Oper) (a : Act) : Option (Value × List Obl) :=
 if Region.wanted o (yielded ops a.tmps) then symw P g o a else some (undef, [])
section
variable {P : Program} {ops : Array Oper} {S : World → Prop}
theorem symf_run {s f : Nat} {u v : Value} (h : symf P s f u = some v) (w : World) : (Instr.fieldAt s u f).run P w = .ok v w := by
 unfold symf at h
 split at h
 ·split at h
  ·rename_i fs hu
   split at h
   ·rename_i fd hf
    split at h
    ·rename_i i hi
     split at h
     ·cases h
     ·rename_i hz
      cases h
      simp [Instr.fieldAt, run_underlying hu, hf, Instr.sureAddr, fieldPlace, sizeOf, typeInfo, hi, hz, Addr.add_mid]
    ·cases h
   ·cases h
  ·cases h
 ·cases h
theorem symw_run {g : Option Value} {o : Oper} {a : Act} {v : Value} {obs : List Obl} (h : symw P g o a = some (v, obs)) (k : Obls P S obs) {w : World} (hS : S w) : (execOp a.eval o).run P w = .ok (.value v) w := by
 unfold symw at h
 split at h
 ·rename_i x ho; cases h; unfold execOp; simp [ho]
 ·rename_i x ho; cases h; unfold execOp; simp [ho]
 ·rename_i c x y ho
  split at h
  ·rename_i hc; cases h; unfold execOp; simp [ho, hc, asBool]
  ·rename_i hc; cases h; unfold execOp; simp [ho, hc, asBool]
  ·cases h
 ·rename_i s x f ho
  cases hq : symf P s f (a.eval x) with
  | none => rw [hq] at h; cases h
  | some u =>
   rw [hq] at h; cases h
   unfold execOp; simp [ho, symf_run hq w]
 ·rename_i ty x ho
  split at h
  ·rename_i b off u hx
   cases h
   have := k.1 w hS
   unfold execOp
   simp [ho, hx, Instr.loadAt, Instr.sureAddr, this]
  ·cases h
 ·rename_i f t x y t' ho
  cases g with
  | none => cases h
  | some u =>
   cases h
   have := k.1 w hS
   unfold execOp
   simp only [ho]
   rw [Sem.run_bind, this]
   rfl
 ·rename_i t x ho
  split at h
  ·rename_i b hx; cases h; unfold execOp; simp [ho, hx, Op.unary]
  ·cases h
 ·rename_i t x lo hi mx ho
  cases g with
  | none => cases h
  | some u => cases h; unfold execOp; simp only [ho]; rw [Sem.run_bind, k.1 w hS]; rfl
 ·rename_i t x i ho
  cases g with
  | none => cases h
  | some u => cases h; unfold execOp; simp only [ho]; rw [Sem.run_bind, k.1 w hS]; rfl
 ·rename_i t x i ho
  cases g with
  | none => cases h
  | some u => cases h; unfold execOp; simp only [ho]; rw [Sem.run_bind, k.1 w hS]; rfl
 ·rename_i c ho
  split at h
  ·rename_i x t hc ha ht
   cases g with
   | none => cases h
   | some u =>
    cases h
    have e1 : c.args = #[.tmp x] := by rw [← Array.toArray_toList (xs := c.args), ha]
    have e2 : c.argTypes = #[t] := by rw [← Array.toArray_toList (xs := c.argTypes), ht]
    have := k.1 w hS
    unfold execOp
    simp only [ho, resolve, hc, e1, e2, Sem.run_bind, Sem.run_pure, Result.andThen_ok]
    simpa using this
  ·cases h
 ·cases h
theorem symv_yields {g : Option Value} {o : Oper} {a : Act} {v : Value} {obs : List Obl} (h : symv P ops g o a = some (v, obs)) (k : Obls P S obs) : YieldsIf P ops S o v a := by
 unfold symv at h
 split at h
 ·rename_i hw; exact .inl ⟨hw, fun w hS => symw_run h k hS⟩
 ·rename_i hw; cases h; exact .inr ⟨by simpa using hw, rfl⟩
end
def symL (P : Program) (ops : Array Oper) : List (Option Value) → List Oper → Act → Option (List Oper × Act × List Obl)
 | [], r, a => some (r, a, [])
 | _ :: _, [], _ => none
 | g :: gs, o :: r, a =>
  match symv P ops g o a with
  | none => none
  | some (v, obs) =>
   match symL P ops gs r (a.put o.dst v) with
   | none => none
   | some (r', a', obs') => some (r', a', obs ++ obs')
def symH (P : Program) (md : Region.Mode) (ops : Array Oper) : List (Nat × Option Value) → Array Bool → Act → Option (Array Bool × Act × List Obl)
 | [], l, a => some (l, a, [])
 | (i, g) :: gs, l, a =>
  match ops[i]? with
  | none => none
  | some o =>
   if (Region.free md ops l i && (Region.ready md ops l).contains i) = true then
    match symv P ops g o a with
    | none => none
    | some (v, obs) =>
     match symH P md ops gs (l.setIfInBounds i true) (a.put o.dst v) with
     | none => none
     | some (l', a', obs') => some (l', a', obs ++ obs')
   else none
section
variable {P : Program} {ops : Array Oper} {Q : Exit → Act → World → Prop} {w : World}
theorem wpList_sym : ∀ (gs : List (Option Value)) {rest : List Oper} {a : Act} {rest' : List Oper} {a' : Act} {obs : List Obl}, symL P ops gs rest a = some (rest', a', obs) → Obls P (fun W => W = w) obs → wpList P ops Q rest' a' w → wpList P ops Q rest a w
 | [], rest, a, rest', a', obs, h, k, q => by cases h; exact q
 | g :: gs, [], a, rest', a', obs, h, k, q => by cases h
 | g :: gs, o :: r, a, rest', a', obs, h, k, q => by
  unfold symL at h
  split at h
  ·cases h
  ·rename_i v obs1 hv
   split at h
   ·cases h
   ·rename_i r2 a2 obs2 h2
    cases h
    obtain ⟨k1, k2⟩ := Obls.app k
    rcases symv_yields hv k1 with ⟨hw, hr⟩ | ⟨hw, rfl⟩
    ·exact wpList_val hw (hr w rfl) (wpList_sym gs h2 k2 q)
    ·exact wpList_unwanted hw (wpList_sym gs h2 k2 q)
variable {md : Region.Mode} {S : World → Prop}
theorem wpAnyH_sym (hs : Region.noSelect ops = true) (hQ : ∀ c a d v w, Q (.panic c) (Act.put a (some d) v) w → Q (.panic c) a w) (hS : S w) : ∀ (gs : List (Nat × Option Value)) {l l' : Array Bool} {a a' : Act} {obs : List Obl} {n m : Nat}, m = n + gs.length → symH P md ops gs l a = some (l', a', obs) → Obls P S obs → wpAnyH P md ops Q S n l' a' w → wpAnyH P md ops Q S m l a w
 | [], l, l', a, a', obs, n, m, hm, h, k, q => by cases h; subst hm; exact q
 | (i, g) :: gs, l, l', a, a', obs, n, m, hm, h, k, q => by
  subst hm
  unfold symH at h
  split at h
  ·cases h
  ·rename_i o ho
   split at h
   ·rename_i hf
    rw [Bool.and_eq_true] at hf
    split at h
    ·cases h
    ·rename_i v obs1 hv
     split at h
     ·cases h
     ·rename_i l2 a2 obs2 h2
      cases h
      obtain ⟨k1, k2⟩ := Obls.app k
      exact wpAnyH_take ho hs hf.1 hf.2 (fun c a w h => putQ hQ h) (symv_yields hv k1) hS (wpAnyH_sym hs hQ hS gs rfl h2 k2 q)
   ·cases h
end
def pre (n i : Nat) : Array Bool := ((List.range n).map fun j => decide (j < i)).toArray
def callOf (ops : Array Oper) (o : Oper) (a : Act) : Option (FuncId × List Value × Option Tmp) :=
 if Region.wanted o (yielded ops a.tmps) then
  match o.op with
  | .call c =>
   match c.callee with
   | .value x =>
    match a.eval x with
    | .func (.func f) fs cs => if (fs.isEmpty && cs.isEmpty) = true then some (f, c.args.toList.map a.eval, o.dst) else none
    | _ => none
   | _ => none
  | _ => none
 else none
theorem callOf_run {ops : Array Oper} {o : Oper} {a : Act} {f : FuncId} {vs : List Value} {d : Option Tmp} (h : callOf ops o a = some (f, vs, d)) (hc : ∀ args w, (callFunc f args).run Try.prog w = .ok (.enter f args) w) (w : World) : Region.wanted o (yielded ops a.tmps) = true ∧ o.dst = d ∧ (execOp a.eval o).run Try.prog w = .ok (.enter f vs.toArray) w := by
 unfold callOf at h
 split at h
 ·rename_i hw
  split at h
  ·rename_i c ho
   split at h
   ·rename_i x hx
    split at h
    ·rename_i f' fs cs hv
     split at h
     ·rename_i he
      rw [Bool.and_eq_true, Array.isEmpty_iff, Array.isEmpty_iff] at he
      obtain ⟨rfl, rfl⟩ := he
      cases h
      refine ⟨hw, rfl, ?_⟩
      unfold execOp
      simp [ho, resolve, hx, hv, invoke, Deferred.ofValue, hc]
      rw [← Array.toList_map, Array.toArray_toList]
     ·cases h
    ·cases h
   ·cases h
  ·cases h
 ·cases h
theorem wpList_callT {ops : Array Oper} {Q : Exit → Act → World → Prop} {w : World} {o : Oper} {rest : List Oper} {a : Act} {f : FuncId} {vs : List Value} {d : Option Tmp} {R : Ending → World → Prop} (hi : callOf ops o a = some (f, vs, d))
  (hf : ∀ args w, (callFunc f args).run Try.prog w = .ok (.enter f args) w) (hc : Calls Try.prog f vs.toArray w R)
  (h : ∀ e w', R e w' → ∃ v, e = .returned v ∧ wpList Try.prog ops Q rest (a.put d v) w') : wpList Try.prog ops Q (o :: rest) a w := by
 obtain ⟨h1, h2, h3⟩ := callOf_run hi hf w
 refine wpList_wanted h1 ?_
 unfold Oper.wp
 rw [h3, Oper.upon_enter]
 refine hc.mono ?_
 intro e w' hR
 obtain ⟨v, rfl, h⟩ := h e w' hR
 rw [h2]
 exact h
def wpT (ops : Array Oper) (Q : Exit → Act → World → Prop) (i : Nat) (a : Act) (w : World) : Prop := wpList Try.prog ops Q (ops.toList.drop i) a w ∧ True
def allocOf (ops : Array Oper) (o : Oper) (a : Act) : Option (TypeId × Option Tmp) :=
 if Region.wanted o (yielded ops a.tmps) then
  match o.op with
  | .alloc t => some (t, o.dst)
  | _ => none
 else none
def storeOf (ops : Array Oper) (o : Oper) (a : Act) : Option (TypeId × Nat × Nat × Value × Option Tmp) :=
 if Region.wanted o (yielded ops a.tmps) then
  match o.op with
  | .store t x y =>
   match a.eval x with
   | .pointer (some ⟨b, off, none⟩) => some (t, b, off, a.eval y, o.dst)
   | _ => none
  | _ => none
 else none
section
variable {ops : Array Oper} {Q : Exit → Act → World → Prop} {w : World} {a a' : Act} {i : Nat}
theorem wpT_region {id : Nat} (h : wpT ops Q 0 a w) : (Code.region id ops false).wp Try.prog Q a w := wp_region_list (by unfold wpT at h; simpa using h)
theorem wpT_end (hi : Nat.ble ops.size i = true) (h : Q .normal a w) : wpT ops Q i a w := by
 refine ⟨?_, trivial⟩
 rw [Nat.ble_eq] at hi
 rw [List.drop_eq_nil_of_le (by simpa using hi)]
 exact h
theorem wpT_drop {o : Oper} (ho : ops[i]? = some o) : ops.toList.drop i = o :: ops.toList.drop (i + 1) := by
 obtain ⟨hi, e⟩ := Array.getElem?_eq_some_iff.1 ho
 rw [List.drop_eq_getElem_cons (by simpa using hi)]
 simp [← e]
theorem symL_rest {P : Program} : ∀ (gs : List (Option Value)) (r : List Oper) (a : Act) {r' : List Oper} {a' : Act} {obs : List Obl}, symL P ops gs r a = some (r', a', obs) → r' = r.drop gs.length
 | [], r, a, r', a', obs, h => by unfold symL at h; cases h; rfl
 | g :: gs, [], a, r', a', obs, h => by unfold symL at h; cases h
 | g :: gs, o :: r, a, r', a', obs, h => by
  unfold symL at h
  split at h
  ·cases h
  ·split at h
   ·cases h
   ·rename_i h2
    cases h
    have := symL_rest gs r _ h2
    rw [this]; rfl
theorem wpT_sym (gs : List (Option Value)) (i : Nat) {obs : List Obl} (h : (symL Try.prog ops gs (ops.toList.drop i) a).map (fun r => r.2) = some (a', obs)) (k : Obls Try.prog (fun W => W = w) obs) (q : wpT ops Q (i + gs.length) a' w) : wpT ops Q i a w := by
 cases hs : symL Try.prog ops gs (ops.toList.drop i) a with
 | none => rw [hs] at h; cases h
 | some r =>
  obtain ⟨r1, r2, r3⟩ := r
  rw [hs] at h
  cases h
  have := symL_rest gs _ _ hs
  subst this
  exact ⟨wpList_sym gs hs k (by rw [List.drop_drop]; exact q.1), trivial⟩
theorem wpT_call {f : FuncId} {vs : List Value} {d : Option Tmp} {R : Ending → World → Prop} (hi : (ops[i]?).bind (fun o => callOf ops o a) = some (f, vs, d))
  (hf : ∀ args w, (callFunc f args).run Try.prog w = .ok (.enter f args) w) (hc : Calls Try.prog f vs.toArray w R)
  (h : ∀ e w', R e w' → ∃ v, e = .returned v ∧ wpT ops Q (i + 1) (a.put d v) w') : wpT ops Q i a w := by
 cases ho : ops[i]? with
 | none => rw [ho] at hi; cases hi
 | some o =>
  rw [ho] at hi
  refine ⟨?_, trivial⟩
  rw [wpT_drop ho]
  exact wpList_callT (show callOf ops o a = _ from hi) hf hc fun e w' r => have ⟨v, x, y⟩ := h e w' r; ⟨v, x, y.1⟩
theorem wpT_ask {X : Prop} {f : FuncId} {vs : List Value} {d : Option Tmp} (hi : (ops[i]?).bind (fun o => callOf ops o a) = some (f, vs, d))
  (hf : ∀ args w, (callFunc f args).run Try.prog w = .ok (.enter f args) w) (hc : Asks f vs.toArray X w)
  (h1 : ∀ w', Hid X → Below w.heap.size w w' → wpT ops Q (i + 1) (a.put d (.bool true)) w')
  (h0 : ∀ w', Hid (¬ X) → Below w.heap.size w w' → wpT ops Q (i + 1) (a.put d (.bool false)) w') : wpT ops Q i a w := by
 refine wpT_call hi hf hc ?_
 rintro e w' ⟨b, rfl, hb, hk⟩
 refine ⟨_, rfl, ?_⟩
 cases b with
 | true => exact h1 w' (hb.out.1 rfl) hk
 | false => exact h0 w' (fun x => absurd (hb.out.2 x) Bool.false_ne_true) hk
theorem run_store_blk {ty : TypeId} {B : Nat} {C old : Array Value} (hB : Blk w B old ty) (hi : (Try.prog.info? ty).map (·.size) = some C.size) (hs : old.size = C.size) (h1 : C.all (·.oneCell') = true) : ∃ W, (storeVar ty ⟨B, 0, none⟩ (.agg C)).run Try.prog w = .ok () W ∧ Blk W B C ty ∧ Oth B w W := by
 have hrow := run_storeVar_row (P := Try.prog) w B ty ty old C hB hi hs h1
 have ht : w.there B 0 C.size := fun j hj => ⟨by rw [hB.cell, Nat.zero_add, Array.getElem?_eq_getElem (by omega)]; rfl, hB.frozen _⟩
 have hmid := run_storeVar_mid (P := Try.prog) w B 0 ty C ht hi h1
 refine ⟨_, hmid, ?_, Oth.setCells B _ _ _⟩
 rw [hrow] at hmid
 have e : w.setRow B C = w.setCells B 0 C.toList := by injection hmid
 rw [← e]
 show (w.heap.modify B _)[B]? = _
 rw [Array.getElem?_modify, if_pos rfl, show w.heap[B]? = _ from hB]
 rfl
theorem run_store_part {ty t : TypeId} {B o : Nat} {C old : Array Value} (hB : Blk w B old t) (hi : (Try.prog.info? ty).map (·.size) = some C.size) (hs : o + C.size ≤ old.size) (h1 : C.all (·.oneCell') = true) : ∃ W, (storeVar ty ⟨B, o, none⟩ (.agg C)).run Try.prog w = .ok () W ∧ Blk W B (old.extract 0 o ++ C ++ old.extract (o + C.size) old.size) t ∧ Oth B w W := by
 have ht : w.there B o C.size := fun j hj => ⟨by rw [hB.cell, Array.getElem?_eq_getElem (by omega)]; rfl, hB.frozen _⟩
 exact ⟨_, run_storeVar_mid (P := Try.prog) w B o ty C ht hi h1, Blk.part hB hs, Oth.setCells B _ _ _⟩
theorem run_store_cell {ty t : TypeId} {B j : Nat} {v : Value} {C : Array Value} (hB : Blk w B C t) (hv : v.cells = #[v]) (hi : (Try.prog.info? ty).map (·.size) = some 1) (hs : j < C.size) (h1 : v.oneCell' = true) : ∃ W, (storeVar ty ⟨B, j, none⟩ v).run Try.prog w = .ok () W ∧ Blk W B (C.setIfInBounds j v) t ∧ Oth B w W := by
 have ht : w.there B j 1 := fun i hi => ⟨by rw [hB.cell, Array.getElem?_eq_getElem (by omega)]; rfl, hB.frozen _⟩
 have := run_storeCells_cells (P := Try.prog) B j [v] 0 w (fun i hi => by simpa using (ht i (by simpa using hi)).1) (fun i hi => by simpa using (ht i (by simpa using hi)).2) (fun u hu => by simp at hu; rw [hu]; exact h1)
 cases hq : Try.prog.info? ty with
 | none => simp [hq] at hi
 | some i =>
  have hs : i.size = 1 := by simpa [hq] using hi
  simp only [Nat.add_zero] at this
  exact ⟨w.setCells B j [v], by simp [storeVar, sizeOf, typeInfo, hq, hv, hs, this], hB.set j v, Oth.setCell w B j v⟩
end
section
variable {S : World → Prop}
theorem ob_load1 {P : Program} {ty : TypeId} {B o : Nat} {v : Value} {C : Array Value} {t : TypeId} (hB : ∀ w, S w → Blk w B C t) (hv : C[o]? = some v) (hg : ∀ w, (isAgg ty).run P w = .ok false w) : Obl.holds P S (.load ty B o v) := fun w hS => by
 have hc : w.cell? ⟨B, o, none⟩ = some v := ((hB w hS).cell o).trans hv
 simp [loadVar, hg, hc]
theorem ob_loadp {P : Program} {ty : TypeId} {B o : Nat} (n : Nat) {C : Array Value} {t : TypeId} (hB : ∀ w, S w → Blk w B C t) {V : Array Value} (hV : C.extract o (o + n) = V) (hs : o + n ≤ C.size) {d : TypeDesc} (hu : P.underlying ty = some d) (hd : d.isRow = true) (hi : (P.info? ty).map (·.size) = some n) : Obl.holds P S (.load ty B o (.agg V)) := fun w hS => by
 subst hV
 have := run_loadVar_mid (P := P) w B o ty (C.extract o (o + n)).toList d ((hB w hS).range o n) hu hd (by rw [hi]; simp; omega)
 rw [Array.toArray_toList] at this
 exact this
theorem ob_loadb {P : Program} {ty : TypeId} {B : Nat} {C : Array Value} {t : TypeId} (hB : ∀ w, S w → Blk w B C t) {d : TypeDesc} (hu : P.underlying ty = some d) (hd : d.isRow = true) (hi : (P.info? ty).map (·.size) = some C.size) : Obl.holds P S (.load ty B 0 (.agg C)) := fun w hS => by
 have := run_loadVar_mid (P := P) w B 0 ty C.toList d (hB w hS).range0 hu hd (by simpa using hi)
 rw [Array.toArray_toList] at this
 exact this
theorem ob_yes {X : Prop} {f : BinOp} {t : TypeId} {x y : Operand} {u v : Value} (hr : ∀ w, ∃ b : Bool, (do eqGuard f t x y u v; binOp f t u v).run Try.prog w = .ok (.bool b) w ∧ (b = true ↔ X)) (hX : Hid X) : Obl.holds Try.prog S (.test f t x y u v (.bool true)) := fun w hS => by
 obtain ⟨b, h1, h2⟩ := hr w
 rw [h1, h2.2 hX.out]
theorem ob_no {X : Prop} {f : BinOp} {t : TypeId} {x y : Operand} {u v : Value} (hr : ∀ w, ∃ b : Bool, (do eqGuard f t x y u v; binOp f t u v).run Try.prog w = .ok (.bool b) w ∧ (b = true ↔ X)) (hX : Hid (¬ X)) : Obl.holds Try.prog S (.test f t x y u v (.bool false)) := fun w hS => by
 obtain ⟨b, h1, h2⟩ := hr w
 cases b with
 | true => exact absurd (h2.1 rfl) hX.out
 | false => exact h1
end
end Go.Proofs.Ytcmcakandbpjfaa
namespace Go.Proofs.Ytcmcakandbpjfaa
set_option maxRecDepth 100000
set_option maxHeartbeats 8000000
open Go.RowKit Go.Shelf
set_option linter.unusedVariables false
attribute [local go_sem] Oper.semAt_some
def TwoT (W : World) (B B' : Nat) (T T' : Array Value) : Prop := Blk W B T 50 ∧ Blk W B' T' 50 ∧ True
theorem TwoT.next {W W' : World} {B B' : Nat} {T T' : Array Value} (h : TwoT W B B' T T') (k : Below W.heap.size W W') : TwoT W' B B' T T' := ⟨h.1.next k, h.2.1.next k, trivial⟩
end Go.Proofs.Ytcmcakandbpjfaa
namespace Go.Proofs.Ytcmcakandbpjfaa
set_option maxRecDepth 100000
set_option maxHeartbeats 8000000
open Go.RowKit Go.Shelf
set_option linter.unusedVariables false
attribute [local go_sem] Oper.semAt_some
theorem Asks.yes {f : FuncId} {args : Array Value} {X : Prop} {W : World} (h : Asks f args X W) (hX : X) : Calls Try.prog f args W fun e w' => e = .returned (.bool true) ∧ Below W.heap.size W w' :=
 h.on (fun _ _ k => ⟨rfl, k⟩) (fun _ q _ => absurd hX q.out)
theorem Asks.no {f : FuncId} {args : Array Value} {X : Prop} {W : World} (h : Asks f args X W) (hX : ¬ X) : Calls Try.prog f args W fun e w' => e = .returned (.bool false) ∧ Below W.heap.size W w' :=
 h.on (fun _ q _ => absurd q.out hX) (fun _ _ k => ⟨rfl, k⟩)
theorem rsameThread_any {w : World} {T T' : Array Value} {t t' : Th} (h : ThD (LtN w) w T t) (h' : ThD (LtN w) w T' t') :
  Asks 44 #[.agg T, .agg T'] (t = t') w := by
 have hz := h.size
 have hz' := h'.size
 obtain ⟨a17, n17, k17, c17, l17⟩ := h.f.clear
 obtain ⟨a28, n28, k28, c28, l28⟩ := h.f.alerts
 have x0 := ext_regs h
 have r0 := h.f.rlen
 have x18 := ext2 h.f.sc h.f.si
 have x29 := ext2 h.f.lo h.f.hi
 have x23 := ext5 h.f.wc h.f.wi h.f.wx h.f.wv h.f.wd
 have c16 := h.f.pc
 have c20 := h.f.handler
 have c21 := h.f.vector
 have c22 := h.f.state
 obtain ⟨a17', n17', k17', c17', l17'⟩ := h'.f.clear
 obtain ⟨a28', n28', k28', c28', l28'⟩ := h'.f.alerts
 have x0' := ext_regs h'
 have r0' := h'.f.rlen
 have x18' := ext2 h'.f.sc h'.f.si
 have x29' := ext2 h'.f.lo h'.f.hi
 have x23' := ext5 h'.f.wc h'.f.wi h'.f.wx h'.f.wv h'.f.wd
 have c16' := h'.f.pc
 have c20' := h'.f.handler
 have c21' := h'.f.vector
 have c22' := h'.f.state
 have ga0 := Try.isAgg39
 have ga1 := Try.isAgg22
 have ga2 := Try.isAgg3
 have ga3 := Try.isAgg4
 have ga4 := Try.isAgg28
 have ga5 := Try.isAgg40
 unfold Asks
 go_enter Try.func44, Try.ntmps44
 simp only [List.append]
 go_wp2_with (first
  | go_skip
  | (with_reducible refine wpList_box rfl _ _ rfl T rfl ?_; intro B W hB hb hk)
  | (with_reducible refine wpList_box rfl _ _ rfl T' rfl ?_; intro B' W' hB' hb' hk'; replace hb := hb.next hk'; replace hk := hk.trans (hk'.mono hk.size); clear hk'))
 have hf := ThD.four (h.next hk) hb
 have hf' := ThD.four (h'.next hk) hb'
 go_loopw [5] (fun i wr => ∃ k : Nat, k ≤ 4 ∧ i = .int .i64 k ∧ Hid (∀ j, j < k → labs t j = labs t' j) ∧ Below W'.heap.size W' wr) (fun i _ => 4 - (intOf i).toNat)
 case atStart => exact ⟨0, Nat.zero_le _, rfl, fun j hj => absurd hj (by omega), Below.refl _ _⟩
 case round =>
  obtain ⟨k, hk4, rfl, hal, hbw⟩ := hrel
  by_cases hkn : k < 4
  ·obtain ⟨ai, ni, ci, d1, q2⟩ := (hf.next hbw).2 k hkn
   obtain ⟨ai', ni', ci', d1', q2'⟩ := (hf'.next hbw).2 k hkn
   have hkn' : (k : Int) < 4 := by omega
   have hbz := hb.next hbw
   have hbz' := hb'.next hbw
   have hd0 := (hb.next hbw).lt
   have hd0' := (hb'.next hbw).lt
   clear hb hb' hbz hbz' hf hf'
   by_cases hq : labs t k = labs t' k
   ·replace hq : Hid (labs t k = labs t' k) := hq
    go_wp2
    go_region_held3 (fun w' => w'.cell? ⟨B, 31 + k, none⟩ = some (.slice ai ni ci) ∧ w'.cell? ⟨B', 31 + k, none⟩ = some (.slice ai' ni' ci')) (first | go_keep | (exact ⟨(hb1.cell (p := ⟨B, 31 + k, none⟩) hd0).trans d1, (hb1.cell (p := ⟨B', 31 + k, none⟩) hd0').trans d1'⟩) | fail) (first | (go_at_call 41; (with_reducible refine ((reqL q2 q2' (Below.refl _ _).drew).yes hq.out).mono ?_); rintro e w1 ⟨rfl, hb1⟩) | fail)
    have hb2 := (Below.refl wr.heap.size wr).drew.trans hb1
    go_wp2
    go_roundw
    case rel => exact ⟨k + 1, by omega, by go_num, fun j hj => by
      rcases Nat.lt_or_ge j k with h | h
      ·exact hal.out j h
      ·obtain rfl : j = k := by omega
       exact hq.out, hbw.trans (hb2.mono hbw.size)⟩
    case measure => simp [intOf]; omega
   ·replace hq : Hid (¬ labs t k = labs t' k) := hq
    go_wp2
    go_region_held3 (fun w' => w'.cell? ⟨B, 31 + k, none⟩ = some (.slice ai ni ci) ∧ w'.cell? ⟨B', 31 + k, none⟩ = some (.slice ai' ni' ci')) (first | go_keep | (exact ⟨(hb1.cell (p := ⟨B, 31 + k, none⟩) hd0).trans d1, (hb1.cell (p := ⟨B', 31 + k, none⟩) hd0').trans d1'⟩) | fail) (first | (go_at_call 41; (with_reducible refine ((reqL q2 q2' (Below.refl _ _).drew).no hq.out).mono ?_); rintro e w1 ⟨rfl, hb1⟩) | fail)
    have hb2 := (Below.refl wr.heap.size wr).drew.trans hb1
    go_wp2
    go_ret
    exact askP_no hq (hk.trans ((hbw.trans (hb2.mono hbw.size)).mono hk.size)) (fun e => by rw [e])
  ·obtain rfl : k = 4 := by omega
   replace hb := hb.next hbw
   replace hb' := hb'.next hbw
   replace hk := hk.trans (hbw.mono hk.size)
   clear hf hf' hbw
   simp only [show ((4 : Nat) : Int) = 4 from rfl]
   go_wp2_with (first
    | go_skip
    | (with_reducible refine wpList_load1 (by kernel_rfl) _ _ rfl B _ rfl _ _ hb _ (by assumption) (by assumption) ?_)
    | (with_reducible refine wpList_load1 (by kernel_rfl) _ _ rfl B' _ rfl _ _ hb' _ (by assumption) (by assumption) ?_)
    | (with_reducible refine wpList_loadp (by kernel_rfl) 43 _ rfl B _ rfl 2 _ _ hb _ (by assumption) (by omega) _ Try.underlying43 (by kernel_rfl) size29 ?_)
    | (with_reducible refine wpList_loadp (by kernel_rfl) 43 _ rfl B' _ rfl 2 _ _ hb' _ (by assumption) (by omega) _ Try.underlying43 (by kernel_rfl) size29 ?_)
    | (with_reducible refine wpList_loadp (by kernel_rfl) 47 _ rfl B _ rfl 2 _ _ hb _ (by assumption) (by omega) _ Try.underlying47 (by kernel_rfl) size33 ?_)
    | (with_reducible refine wpList_loadp (by kernel_rfl) 47 _ rfl B' _ rfl 2 _ _ hb' _ (by assumption) (by omega) _ Try.underlying47 (by kernel_rfl) size33 ?_)
    | (with_reducible refine wpList_loadp (by kernel_rfl) 45 _ rfl B _ rfl 5 _ _ hb _ (by assumption) (by omega) _ Try.underlying45 (by kernel_rfl) size31 ?_)
    | (with_reducible refine wpList_loadp (by kernel_rfl) 45 _ rfl B' _ rfl 5 _ _ hb' _ (by assumption) (by omega) _ Try.underlying45 (by kernel_rfl) size31 ?_)
    | (with_reducible refine wpList_loadp (by kernel_rfl) 41 _ rfl B _ rfl 16 _ _ hb _ (by assumption) (by omega) _ Try.underlying41 (by kernel_rfl) size27 ?_)
    | (with_reducible refine wpList_loadp (by kernel_rfl) 41 _ rfl B' _ rfl 16 _ _ hb' _ (by assumption) (by omega) _ Try.underlying41 (by kernel_rfl) size27 ?_)
    | ((with_reducible refine wpList_test (by kernel_rfl) .eql _ _ _ _ rfl _ _ rfl rfl (eqg_int _ _ _ _ _ _) ?_ ?_) <;> intro hq)
    | ((with_reducible refine wpList_test (by kernel_rfl) .eql _ _ _ _ rfl _ _ rfl rfl (eqg_ref _ _ _ _ _ _) ?_ ?_) <;> intro hq)
    | ((with_reducible refine wpList_test (by kernel_rfl) .eql _ _ _ _ rfl _ _ rfl rfl (eqg_span _ _ _ _ _ _) ?_ ?_) <;> intro hq)
    | ((with_reducible refine wpList_test (by kernel_rfl) .eql _ _ _ _ rfl _ _ rfl rfl (eqg_wait _ _ _ _ _ _ _ _ _ _ _ _) ?_ ?_) <;> intro hq)
    | ((with_reducible refine wpList_test (by kernel_rfl) .eql _ _ _ _ rfl _ _ rfl rfl (eqg_regs _ _ _ _ r0 r0') ?_ ?_) <;> intro hq)
    | (go_at_call 41; (with_reducible refine (reqL (by assumption) (by assumption) hk).on ?_ ?_) <;> (intro w1 hq hb1; replace hb := hb.next hb1; replace hb' := hb'.next hb1; replace hk := hk.trans (hb1.mono hk.size); clear hb1))
    | (go_at_call 42; (with_reducible refine (reqU (by assumption) (by assumption) hk).on ?_ ?_) <;> (intro w1 hq hb1; replace hb := hb.next hb1; replace hb' := hb'.next hb1; replace hk := hk.trans (hb1.mono hk.size); clear hb1)))
   all_goals go_ret
   all_goals first
    | (refine askP_no (by assumption) hk ?_; intro e; rw [e]; done)
    | (refine askP_no (by assumption) hk ?_; intro e; rw [e]; exact ⟨rfl, rfl⟩)
    | (refine askP_no (by assumption) hk ?_; intro e; rw [e]; exact ⟨rfl, rfl, rfl, rfl, rfl⟩)
    | (refine askP_no (by assumption) hk ?_; intro e; rw [e]; exact fun _ _ => rfl)
    | (refine askP_yes ?_ hk; exact th_iff.1 ⟨Hid.out (by assumption), Hid.out (by assumption), Hid.out (by assumption), Hid.out (by assumption), Hid.out (by assumption), Hid.out (by assumption), Hid.out (by assumption), Hid.out (by assumption), Hid.out (by assumption), Hid.out (by assumption), labs_iff.1 hal.out⟩)
    | fail
end Go.Proofs.Ytcmcakandbpjfaa
namespace Go.Proofs.Ytcmcakandbpjfaa
set_option maxRecDepth 100000
set_option maxHeartbeats 8000000
open Go.RowKit Go.Shelf
set_option linter.unusedVariables false
attribute [local go_sem] Oper.semAt_some
theorem rsameOne_any {w : World} {C C' : Array Value} {x y : Ob} (h : ObD (LtN w) w C x) (h' : ObD (LtN w) w C' y) :
  Asks 19 #[.agg C, .agg C'] (x = y) w := by
 have hz := h.size
 have c0 := h.id
 have c1 := h.kind
 obtain ⟨a2, n2, k2, c2, l2⟩ := h.label
 have c3 := h.quota
 have c4 := h.fixed
 obtain ⟨a5, n5, k5, c5, l5⟩ := h.links
 obtain ⟨a6, n6, k6, c6, l6⟩ := h.data
 obtain ⟨a7, n7, k7, c7, l7⟩ := h.maps
 obtain ⟨a49, n49, k49, c49, l49⟩ := h.inn
 obtain ⟨a50, n50, k50, c50, l50⟩ := h.out
 have hz' := h'.size
 have c0' := h'.id
 have c1' := h'.kind
 obtain ⟨a2', n2', k2', c2', l2'⟩ := h'.label
 have c3' := h'.quota
 have c4' := h'.fixed
 obtain ⟨a5', n5', k5', c5', l5'⟩ := h'.links
 obtain ⟨a6', n6', k6', c6', l6'⟩ := h'.data
 obtain ⟨a7', n7', k7', c7', l7'⟩ := h'.maps
 obtain ⟨a49', n49', k49', c49', l49'⟩ := h'.inn
 obtain ⟨a50', n50', k50', c50', l50'⟩ := h'.out
 have ga0 := Try.isAgg39
 have ga1 := Try.isAgg22
 have ga2 := Try.isAgg3
 have ga3 := Try.isAgg4
 have ga4 := Try.isAgg28
 have ga5 := Try.isAgg40
 unfold Asks
 go_enter Try.func19, Try.ntmps19
 try simp only [List.append]
 go_upto_region 1 with (first
  | (with_reducible refine wpList_box rfl _ _ rfl C rfl ?_; intro B W hB hb hk)
  | (with_reducible refine wpList_box rfl _ _ rfl C' rfl ?_; intro B' W' hB' hb' hk'; replace hb := hb.next hk'; replace hk := hk.trans (hk'.mono hk.size); clear hk'))
 refine wpT_region ?_
 refine wpT_sym [none, some (.int .u64 x.id), none, some (.int .u64 y.id)] 0 (a' := { tmps := #[.agg C, .agg C', pt B 0, pt B' 0, .bool false, pt B 0, .int .u64 x.id, pt B' 0, .int .u64 y.id, ud, ud, ud, ud, ud, ud, ud, ud, ud, ud, ud, ud, ud, ud, ud, ud, ud, ud, ud, ud, ud, ud, ud, ud, ud, ud, ud, ud, ud, ud, ud, ud, ud, ud, ud, ud, ud, ud, ud, ud, ud, ud, ud, ud, ud, ud, ud, ud, ud, ud, ud, ud, ud, ud, ud, ud, ud, ud, ud, ud, ud, ud, ud, ud, ud, ud, ud, ud, ud, ud, ud, ud, ud, ud, ud, ud, ud], defers := [] }) (obs := [.load 22 (B) (0) (.int .u64 x.id), .load 22 (B') (0) (.int .u64 y.id)]) (by kernel_rfl) ⟨ob_load1 (fun _ e => by rw [e]; exact hb) c0 ga1, ob_load1 (fun _ e => by rw [e]; exact hb') c0' ga1, trivial⟩ ?_
 by_cases q0 : ¬ x.id = y.id
 ·replace q0 : Hid (¬ x.id = y.id) := q0
  refine wpT_sym [some (.bool true), none, none, none, none, none, none, none, none, none, none, none, none, none, none, none, none, none, none, none, none, none, none, none, none, none, none, none, none, none] 4 (a' := { tmps := #[.agg C, .agg C', pt B 0, pt B' 0, .bool false, pt B 0, .int .u64 x.id, pt B' 0, .int .u64 y.id, .bool true, .bool true, ud, ud, ud, ud, ud, .bool true, .bool true, ud, ud, ud, ud, ud, ud, .bool true, .bool true, ud, ud, ud, ud, ud, .bool true, .bool true, ud, ud, ud, ud, ud, .bool true, ud, ud, ud, ud, ud, ud, ud, ud, ud, ud, ud, ud, ud, ud, ud, ud, ud, ud, ud, ud, ud, ud, ud, ud, ud, ud, ud, ud, ud, ud, ud, ud, ud, ud, ud, ud, ud, ud, ud, ud, ud, ud, ud, ud, ud, ud, ud], defers := [] }) (obs := [.test .neq 22 (.tmp 6) (.tmp 8) (.int .u64 x.id) (.int .u64 y.id) (.bool true)]) (by kernel_rfl) ⟨ob_yes (fun _ => neg_int _ _ _ _ _ _) q0, trivial⟩ ?_
  refine wpT_end (by kernel_rfl) ?_
  go_wp2
  go_ret
  refine askP_no q0 hk ?_; intro e; rw [e]
 ·replace q0 : Hid (¬ (¬ x.id = y.id)) := q0
  refine wpT_sym [some (.bool false), none, none, some (.int .i64 x.kind), none, some (.int .i64 y.kind)] 4 (a' := { tmps := #[.agg C, .agg C', pt B 0, pt B' 0, .bool false, pt B 0, .int .u64 x.id, pt B' 0, .int .u64 y.id, .bool false, .bool false, pt B 1, .int .i64 x.kind, pt B' 1, .int .i64 y.kind, ud, ud, ud, ud, ud, ud, ud, ud, ud, ud, ud, ud, ud, ud, ud, ud, ud, ud, ud, ud, ud, ud, ud, ud, ud, ud, ud, ud, ud, ud, ud, ud, ud, ud, ud, ud, ud, ud, ud, ud, ud, ud, ud, ud, ud, ud, ud, ud, ud, ud, ud, ud, ud, ud, ud, ud, ud, ud, ud, ud, ud, ud, ud, ud, ud, ud, ud, ud, ud, ud, ud], defers := [] }) (obs := [.test .neq 22 (.tmp 6) (.tmp 8) (.int .u64 x.id) (.int .u64 y.id) (.bool false), .load 3 (B) (1) (.int .i64 x.kind), .load 3 (B') (1) (.int .i64 y.kind)]) (by kernel_rfl) ⟨ob_no (fun _ => neg_int _ _ _ _ _ _) q0, ob_load1 (fun _ e => by rw [e]; exact hb) c1 ga2, ob_load1 (fun _ e => by rw [e]; exact hb') c1' ga2, trivial⟩ ?_
  by_cases q1 : ¬ x.kind = y.kind
  ·replace q1 : Hid (¬ x.kind = y.kind) := q1
   refine wpT_sym [some (.bool true), none, none, none, none, none, none, none, none, none, none, none, none, none, none, none, none, none, none, none, none, none, none, none] 10 (a' := { tmps := #[.agg C, .agg C', pt B 0, pt B' 0, .bool false, pt B 0, .int .u64 x.id, pt B' 0, .int .u64 y.id, .bool false, .bool false, pt B 1, .int .i64 x.kind, pt B' 1, .int .i64 y.kind, .bool true, .bool true, .bool true, ud, ud, ud, ud, ud, ud, .bool true, .bool true, ud, ud, ud, ud, ud, .bool true, .bool true, ud, ud, ud, ud, ud, .bool true, ud, ud, ud, ud, ud, ud, ud, ud, ud, ud, ud, ud, ud, ud, ud, ud, ud, ud, ud, ud, ud, ud, ud, ud, ud, ud, ud, ud, ud, ud, ud, ud, ud, ud, ud, ud, ud, ud, ud, ud, ud, ud, ud, ud, ud, ud, ud], defers := [] }) (obs := [.test .neq 3 (.tmp 12) (.tmp 14) (.int .i64 x.kind) (.int .i64 y.kind) (.bool true)]) (by kernel_rfl) ⟨ob_yes (fun _ => neg_int _ _ _ _ _ _) q1, trivial⟩ ?_
   refine wpT_end (by kernel_rfl) ?_
   go_wp2
   go_ret
   refine askP_no q1 hk ?_; intro e; rw [e]
  ·replace q1 : Hid (¬ (¬ x.kind = y.kind)) := q1
   refine wpT_sym [some (.bool false), none, none, none, some (.slice a2 n2 k2), none, some (.slice a2' n2' k2')] 10 (a' := { tmps := #[.agg C, .agg C', pt B 0, pt B' 0, .bool false, pt B 0, .int .u64 x.id, pt B' 0, .int .u64 y.id, .bool false, .bool false, pt B 1, .int .i64 x.kind, pt B' 1, .int .i64 y.kind, .bool false, .bool false, .bool false, pt B 2, .slice a2 n2 k2, pt B' 2, .slice a2' n2' k2', ud, ud, ud, ud, ud, ud, ud, ud, ud, ud, ud, ud, ud, ud, ud, ud, ud, ud, ud, ud, ud, ud, ud, ud, ud, ud, ud, ud, ud, ud, ud, ud, ud, ud, ud, ud, ud, ud, ud, ud, ud, ud, ud, ud, ud, ud, ud, ud, ud, ud, ud, ud, ud, ud, ud, ud, ud, ud, ud, ud, ud, ud, ud, ud], defers := [] }) (obs := [.test .neq 3 (.tmp 12) (.tmp 14) (.int .i64 x.kind) (.int .i64 y.kind) (.bool false), .load 39 (B) (2) (.slice a2 n2 k2), .load 39 (B') (2) (.slice a2' n2' k2')]) (by kernel_rfl) ⟨ob_no (fun _ => neg_int _ _ _ _ _ _) q1, ob_load1 (fun _ e => by rw [e]; exact hb) c2 ga0, ob_load1 (fun _ e => by rw [e]; exact hb') c2' ga0, trivial⟩ ?_
   refine wpT_ask (i := 17) (f := 41) (vs := [.slice a2 n2 k2, .slice a2' n2' k2']) (d := some 22) (by kernel_rfl) Try.call41 (reqL l2 l2' hk) ?_ ?_
   ·intro w2 q2 hb1; replace hb := hb.next hb1; replace hb' := hb'.next hb1; replace hk := hk.trans (hb1.mono hk.size); clear hb1
    refine wpT_sym [none, none, none, none, some (.int .i64 x.quota), none, some (.int .i64 y.quota)] 18 (a' := { tmps := #[.agg C, .agg C', pt B 0, pt B' 0, .bool false, pt B 0, .int .u64 x.id, pt B' 0, .int .u64 y.id, .bool false, .bool false, pt B 1, .int .i64 x.kind, pt B' 1, .int .i64 y.kind, .bool false, .bool false, .bool false, pt B 2, .slice a2 n2 k2, pt B' 2, .slice a2' n2' k2', .bool true, .bool false, .bool false, .bool false, pt B 3, .int .i64 x.quota, pt B' 3, .int .i64 y.quota, ud, ud, ud, ud, ud, ud, ud, ud, ud, ud, ud, ud, ud, ud, ud, ud, ud, ud, ud, ud, ud, ud, ud, ud, ud, ud, ud, ud, ud, ud, ud, ud, ud, ud, ud, ud, ud, ud, ud, ud, ud, ud, ud, ud, ud, ud, ud, ud, ud, ud, ud, ud, ud, ud, ud, ud], defers := [] }) (obs := [.load 3 (B) (3) (.int .i64 x.quota), .load 3 (B') (3) (.int .i64 y.quota)]) (by kernel_rfl) ⟨ob_load1 (fun _ e => by rw [e]; exact hb) c3 ga2, ob_load1 (fun _ e => by rw [e]; exact hb') c3' ga2, trivial⟩ ?_
    by_cases q3 : ¬ x.quota = y.quota
    ·replace q3 : Hid (¬ x.quota = y.quota) := q3
     refine wpT_sym [some (.bool true), none, none, none, none, none, none, none, none] 25 (a' := { tmps := #[.agg C, .agg C', pt B 0, pt B' 0, .bool false, pt B 0, .int .u64 x.id, pt B' 0, .int .u64 y.id, .bool false, .bool false, pt B 1, .int .i64 x.kind, pt B' 1, .int .i64 y.kind, .bool false, .bool false, .bool false, pt B 2, .slice a2 n2 k2, pt B' 2, .slice a2' n2' k2', .bool true, .bool false, .bool false, .bool false, pt B 3, .int .i64 x.quota, pt B' 3, .int .i64 y.quota, .bool true, .bool true, .bool true, ud, ud, ud, ud, ud, .bool true, ud, ud, ud, ud, ud, ud, ud, ud, ud, ud, ud, ud, ud, ud, ud, ud, ud, ud, ud, ud, ud, ud, ud, ud, ud, ud, ud, ud, ud, ud, ud, ud, ud, ud, ud, ud, ud, ud, ud, ud, ud, ud, ud, ud, ud, ud, ud], defers := [] }) (obs := [.test .neq 3 (.tmp 27) (.tmp 29) (.int .i64 x.quota) (.int .i64 y.quota) (.bool true)]) (by kernel_rfl) ⟨ob_yes (fun _ => neg_int _ _ _ _ _ _) q3, trivial⟩ ?_
     refine wpT_end (by kernel_rfl) ?_
     go_wp2
     go_ret
     refine askP_no q3 hk ?_; intro e; rw [e]
    ·replace q3 : Hid (¬ (¬ x.quota = y.quota)) := q3
     refine wpT_sym [some (.bool false), none, none, none, some (.bool x.fixed), none, some (.bool y.fixed)] 25 (a' := { tmps := #[.agg C, .agg C', pt B 0, pt B' 0, .bool false, pt B 0, .int .u64 x.id, pt B' 0, .int .u64 y.id, .bool false, .bool false, pt B 1, .int .i64 x.kind, pt B' 1, .int .i64 y.kind, .bool false, .bool false, .bool false, pt B 2, .slice a2 n2 k2, pt B' 2, .slice a2' n2' k2', .bool true, .bool false, .bool false, .bool false, pt B 3, .int .i64 x.quota, pt B' 3, .int .i64 y.quota, .bool false, .bool false, .bool false, pt B 4, .bool x.fixed, pt B' 4, .bool y.fixed, ud, ud, ud, ud, ud, ud, ud, ud, ud, ud, ud, ud, ud, ud, ud, ud, ud, ud, ud, ud, ud, ud, ud, ud, ud, ud, ud, ud, ud, ud, ud, ud, ud, ud, ud, ud, ud, ud, ud, ud, ud, ud, ud, ud, ud, ud, ud, ud, ud], defers := [] }) (obs := [.test .neq 3 (.tmp 27) (.tmp 29) (.int .i64 x.quota) (.int .i64 y.quota) (.bool false), .load 4 (B) (4) (.bool x.fixed), .load 4 (B') (4) (.bool y.fixed)]) (by kernel_rfl) ⟨ob_no (fun _ => neg_int _ _ _ _ _ _) q3, ob_load1 (fun _ e => by rw [e]; exact hb) c4 ga3, ob_load1 (fun _ e => by rw [e]; exact hb') c4' ga3, trivial⟩ ?_
     by_cases q4 : ¬ x.fixed = y.fixed
     ·replace q4 : Hid (¬ x.fixed = y.fixed) := q4
      refine wpT_sym [some (.bool true), none] 32 (a' := { tmps := #[.agg C, .agg C', pt B 0, pt B' 0, .bool false, pt B 0, .int .u64 x.id, pt B' 0, .int .u64 y.id, .bool false, .bool false, pt B 1, .int .i64 x.kind, pt B' 1, .int .i64 y.kind, .bool false, .bool false, .bool false, pt B 2, .slice a2 n2 k2, pt B' 2, .slice a2' n2' k2', .bool true, .bool false, .bool false, .bool false, pt B 3, .int .i64 x.quota, pt B' 3, .int .i64 y.quota, .bool false, .bool false, .bool false, pt B 4, .bool x.fixed, pt B' 4, .bool y.fixed, .bool true, .bool true, ud, ud, ud, ud, ud, ud, ud, ud, ud, ud, ud, ud, ud, ud, ud, ud, ud, ud, ud, ud, ud, ud, ud, ud, ud, ud, ud, ud, ud, ud, ud, ud, ud, ud, ud, ud, ud, ud, ud, ud, ud, ud, ud, ud, ud, ud, ud], defers := [] }) (obs := [.test .neq 4 (.tmp 34) (.tmp 36) (.bool x.fixed) (.bool y.fixed) (.bool true)]) (by kernel_rfl) ⟨ob_yes (fun _ => neg_bool _ _ _ _) q4, trivial⟩ ?_
      refine wpT_end (by kernel_rfl) ?_
      go_wp2
      go_ret
      refine askP_no q4 hk ?_; intro e; rw [e]
     ·replace q4 : Hid (¬ (¬ x.fixed = y.fixed)) := q4
      refine wpT_sym [some (.bool false), none] 32 (a' := { tmps := #[.agg C, .agg C', pt B 0, pt B' 0, .bool false, pt B 0, .int .u64 x.id, pt B' 0, .int .u64 y.id, .bool false, .bool false, pt B 1, .int .i64 x.kind, pt B' 1, .int .i64 y.kind, .bool false, .bool false, .bool false, pt B 2, .slice a2 n2 k2, pt B' 2, .slice a2' n2' k2', .bool true, .bool false, .bool false, .bool false, pt B 3, .int .i64 x.quota, pt B' 3, .int .i64 y.quota, .bool false, .bool false, .bool false, pt B 4, .bool x.fixed, pt B' 4, .bool y.fixed, .bool false, .bool false, ud, ud, ud, ud, ud, ud, ud, ud, ud, ud, ud, ud, ud, ud, ud, ud, ud, ud, ud, ud, ud, ud, ud, ud, ud, ud, ud, ud, ud, ud, ud, ud, ud, ud, ud, ud, ud, ud, ud, ud, ud, ud, ud, ud, ud, ud, ud], defers := [] }) (obs := [.test .neq 4 (.tmp 34) (.tmp 36) (.bool x.fixed) (.bool y.fixed) (.bool false)]) (by kernel_rfl) ⟨ob_no (fun _ => neg_bool _ _ _ _) q4, trivial⟩ ?_
      refine wpT_end (by kernel_rfl) ?_
      go_upto_region 3 with (fail)
      refine wpT_region ?_
      refine wpT_sym [none, some (.slice a5 n5 k5), none, some (.slice a5' n5' k5')] 0 (a' := { tmps := #[.agg C, .agg C', pt B 0, pt B' 0, .bool false, pt B 0, .int .u64 x.id, pt B' 0, .int .u64 y.id, .bool false, .bool false, pt B 1, .int .i64 x.kind, pt B' 1, .int .i64 y.kind, .bool false, .bool false, .bool false, pt B 2, .slice a2 n2 k2, pt B' 2, .slice a2' n2' k2', .bool true, .bool false, .bool false, .bool false, pt B 3, .int .i64 x.quota, pt B' 3, .int .i64 y.quota, .bool false, .bool false, .bool false, pt B 4, .bool x.fixed, pt B' 4, .bool y.fixed, .bool false, .bool false, pt B 5, .slice a5 n5 k5, pt B' 5, .slice a5' n5' k5', ud, ud, ud, ud, ud, ud, ud, ud, ud, ud, ud, ud, ud, ud, ud, ud, ud, ud, ud, ud, ud, ud, ud, ud, ud, ud, ud, ud, ud, ud, ud, ud, ud, ud, ud, ud, ud, ud, ud, ud, ud, ud, ud], defers := [] }) (obs := [.load 28 (B) (5) (.slice a5 n5 k5), .load 28 (B') (5) (.slice a5' n5' k5')]) (by kernel_rfl) ⟨ob_load1 (fun _ e => by rw [e]; exact hb) c5 ga4, ob_load1 (fun _ e => by rw [e]; exact hb') c5' ga4, trivial⟩ ?_
      refine wpT_ask (i := 4) (f := 42) (vs := [.slice a5 n5 k5, .slice a5' n5' k5']) (d := some 43) (by kernel_rfl) Try.call42 (reqU l5 l5' hk) ?_ ?_
      ·intro w5 q5 hb1; replace hb := hb.next hb1; replace hb' := hb'.next hb1; replace hk := hk.trans (hb1.mono hk.size); clear hb1
       refine wpT_sym [none, none, some (.slice a6 n6 k6), none, some (.slice a6' n6' k6')] 5 (a' := { tmps := #[.agg C, .agg C', pt B 0, pt B' 0, .bool false, pt B 0, .int .u64 x.id, pt B' 0, .int .u64 y.id, .bool false, .bool false, pt B 1, .int .i64 x.kind, pt B' 1, .int .i64 y.kind, .bool false, .bool false, .bool false, pt B 2, .slice a2 n2 k2, pt B' 2, .slice a2' n2' k2', .bool true, .bool false, .bool false, .bool false, pt B 3, .int .i64 x.quota, pt B' 3, .int .i64 y.quota, .bool false, .bool false, .bool false, pt B 4, .bool x.fixed, pt B' 4, .bool y.fixed, .bool false, .bool false, pt B 5, .slice a5 n5 k5, pt B' 5, .slice a5' n5' k5', .bool true, .bool true, pt B 6, .slice a6 n6 k6, pt B' 6, .slice a6' n6' k6', ud, ud, ud, ud, ud, ud, ud, ud, ud, ud, ud, ud, ud, ud, ud, ud, ud, ud, ud, ud, ud, ud, ud, ud, ud, ud, ud, ud, ud, ud, ud, ud, ud, ud, ud, ud, ud], defers := [] }) (obs := [.load 28 (B) (6) (.slice a6 n6 k6), .load 28 (B') (6) (.slice a6' n6' k6')]) (by kernel_rfl) ⟨ob_load1 (fun _ e => by rw [e]; exact hb) c6 ga4, ob_load1 (fun _ e => by rw [e]; exact hb') c6' ga4, trivial⟩ ?_
       refine wpT_ask (i := 10) (f := 42) (vs := [.slice a6 n6 k6, .slice a6' n6' k6']) (d := some 49) (by kernel_rfl) Try.call42 (reqU l6 l6' hk) ?_ ?_
       ·intro w6 q6 hb1; replace hb := hb.next hb1; replace hb' := hb'.next hb1; replace hk := hk.trans (hb1.mono hk.size); clear hb1
        refine wpT_sym [none, none, none, some (.slice a7 n7 k7), none, some (.slice a7' n7' k7')] 11 (a' := { tmps := #[.agg C, .agg C', pt B 0, pt B' 0, .bool false, pt B 0, .int .u64 x.id, pt B' 0, .int .u64 y.id, .bool false, .bool false, pt B 1, .int .i64 x.kind, pt B' 1, .int .i64 y.kind, .bool false, .bool false, .bool false, pt B 2, .slice a2 n2 k2, pt B' 2, .slice a2' n2' k2', .bool true, .bool false, .bool false, .bool false, pt B 3, .int .i64 x.quota, pt B' 3, .int .i64 y.quota, .bool false, .bool false, .bool false, pt B 4, .bool x.fixed, pt B' 4, .bool y.fixed, .bool false, .bool false, pt B 5, .slice a5 n5 k5, pt B' 5, .slice a5' n5' k5', .bool true, .bool true, pt B 6, .slice a6 n6 k6, pt B' 6, .slice a6' n6' k6', .bool true, .bool true, .bool true, pt B 7, .slice a7 n7 k7, pt B' 7, .slice a7' n7' k7', ud, ud, ud, ud, ud, ud, ud, ud, ud, ud, ud, ud, ud, ud, ud, ud, ud, ud, ud, ud, ud, ud, ud, ud, ud, ud, ud, ud, ud, ud], defers := [] }) (obs := [.load 40 (B) (7) (.slice a7 n7 k7), .load 40 (B') (7) (.slice a7' n7' k7')]) (by kernel_rfl) ⟨ob_load1 (fun _ e => by rw [e]; exact hb) c7 ga5, ob_load1 (fun _ e => by rw [e]; exact hb') c7' ga5, trivial⟩ ?_
        refine wpT_ask (i := 17) (f := 43) (vs := [.slice a7 n7 k7, .slice a7' n7' k7']) (d := some 56) (by kernel_rfl) Try.call43 (reqM l7 l7' hk) ?_ ?_
        ·intro w7 q7 hb1; replace hb := hb.next hb1; replace hb' := hb'.next hb1; replace hk := hk.trans (hb1.mono hk.size); clear hb1
         refine wpT_sym [none, none, none, some (.agg (C.extract 8 (8 + 35))), none, some (.agg (C'.extract 8 (8 + 35)))] 18 (a' := { tmps := #[.agg C, .agg C', pt B 0, pt B' 0, .bool false, pt B 0, .int .u64 x.id, pt B' 0, .int .u64 y.id, .bool false, .bool false, pt B 1, .int .i64 x.kind, pt B' 1, .int .i64 y.kind, .bool false, .bool false, .bool false, pt B 2, .slice a2 n2 k2, pt B' 2, .slice a2' n2' k2', .bool true, .bool false, .bool false, .bool false, pt B 3, .int .i64 x.quota, pt B' 3, .int .i64 y.quota, .bool false, .bool false, .bool false, pt B 4, .bool x.fixed, pt B' 4, .bool y.fixed, .bool false, .bool false, pt B 5, .slice a5 n5 k5, pt B' 5, .slice a5' n5' k5', .bool true, .bool true, pt B 6, .slice a6 n6 k6, pt B' 6, .slice a6' n6' k6', .bool true, .bool true, .bool true, pt B 7, .slice a7 n7 k7, pt B' 7, .slice a7' n7' k7', .bool true, .bool true, .bool true, pt B 8, .agg (C.extract 8 (8 + 35)), pt B' 8, .agg (C'.extract 8 (8 + 35)), ud, ud, ud, ud, ud, ud, ud, ud, ud, ud, ud, ud, ud, ud, ud, ud, ud, ud, ud, ud, ud, ud, ud], defers := [] }) (obs := [.load 50 (B) (8) (.agg (C.extract 8 (8 + 35))), .load 50 (B') (8) (.agg (C'.extract 8 (8 + 35)))]) (by kernel_rfl) ⟨ob_loadp 35 (fun _ e => by rw [e]; exact hb) rfl (by rw [hz]; omega) Try.underlying50 (by kernel_rfl) size36, ob_loadp 35 (fun _ e => by rw [e]; exact hb') rfl (by rw [hz']; omega) Try.underlying50 (by kernel_rfl) size36, trivial⟩ ?_
         refine wpT_ask (i := 24) (f := 44) (vs := [.agg (C.extract 8 (8 + 35)), .agg (C'.extract 8 (8 + 35))]) (d := some 63) (by kernel_rfl) Try.call44 (rsameThread_any (h.thd.next hk) (h'.thd.next hk)) ?_ ?_
         ·intro w8 q8 hb1; replace hb := hb.next hb1; replace hb' := hb'.next hb1; replace hk := hk.trans (hb1.mono hk.size); clear hb1
          refine wpT_sym [none, none, none, some (.agg (C.extract 43 (43 + 6))), none, some (.agg (C'.extract 43 (43 + 6)))] 25 (a' := { tmps := #[.agg C, .agg C', pt B 0, pt B' 0, .bool false, pt B 0, .int .u64 x.id, pt B' 0, .int .u64 y.id, .bool false, .bool false, pt B 1, .int .i64 x.kind, pt B' 1, .int .i64 y.kind, .bool false, .bool false, .bool false, pt B 2, .slice a2 n2 k2, pt B' 2, .slice a2' n2' k2', .bool true, .bool false, .bool false, .bool false, pt B 3, .int .i64 x.quota, pt B' 3, .int .i64 y.quota, .bool false, .bool false, .bool false, pt B 4, .bool x.fixed, pt B' 4, .bool y.fixed, .bool false, .bool false, pt B 5, .slice a5 n5 k5, pt B' 5, .slice a5' n5' k5', .bool true, .bool true, pt B 6, .slice a6 n6 k6, pt B' 6, .slice a6' n6' k6', .bool true, .bool true, .bool true, pt B 7, .slice a7 n7 k7, pt B' 7, .slice a7' n7' k7', .bool true, .bool true, .bool true, pt B 8, .agg (C.extract 8 (8 + 35)), pt B' 8, .agg (C'.extract 8 (8 + 35)), .bool true, .bool true, .bool true, pt B 43, .agg (C.extract 43 (43 + 6)), pt B' 43, .agg (C'.extract 43 (43 + 6)), ud, ud, ud, ud, ud, ud, ud, ud, ud, ud, ud, ud, ud, ud, ud, ud], defers := [] }) (obs := [.load 52 (B) (43) (.agg (C.extract 43 (43 + 6))), .load 52 (B') (43) (.agg (C'.extract 43 (43 + 6)))]) (by kernel_rfl) ⟨ob_loadp 6 (fun _ e => by rw [e]; exact hb) rfl (by rw [hz]; omega) Try.underlying52 (by kernel_rfl) size38, ob_loadp 6 (fun _ e => by rw [e]; exact hb') rfl (by rw [hz']; omega) Try.underlying52 (by kernel_rfl) size38, trivial⟩ ?_
          refine wpT_ask (i := 31) (f := 45) (vs := [.agg (C.extract 43 (43 + 6)), .agg (C'.extract 43 (43 + 6))]) (d := some 70) (by kernel_rfl) Try.call45 (rsameGate_any (h.gtd.next hk) (h'.gtd.next hk)) ?_ ?_
          ·intro w9 q9 hb1; replace hb := hb.next hb1; replace hb' := hb'.next hb1; replace hk := hk.trans (hb1.mono hk.size); clear hb1
           refine wpT_sym [none, none, none, some (.slice a49 n49 k49), none, some (.slice a49' n49' k49')] 32 (a' := { tmps := #[.agg C, .agg C', pt B 0, pt B' 0, .bool false, pt B 0, .int .u64 x.id, pt B' 0, .int .u64 y.id, .bool false, .bool false, pt B 1, .int .i64 x.kind, pt B' 1, .int .i64 y.kind, .bool false, .bool false, .bool false, pt B 2, .slice a2 n2 k2, pt B' 2, .slice a2' n2' k2', .bool true, .bool false, .bool false, .bool false, pt B 3, .int .i64 x.quota, pt B' 3, .int .i64 y.quota, .bool false, .bool false, .bool false, pt B 4, .bool x.fixed, pt B' 4, .bool y.fixed, .bool false, .bool false, pt B 5, .slice a5 n5 k5, pt B' 5, .slice a5' n5' k5', .bool true, .bool true, pt B 6, .slice a6 n6 k6, pt B' 6, .slice a6' n6' k6', .bool true, .bool true, .bool true, pt B 7, .slice a7 n7 k7, pt B' 7, .slice a7' n7' k7', .bool true, .bool true, .bool true, pt B 8, .agg (C.extract 8 (8 + 35)), pt B' 8, .agg (C'.extract 8 (8 + 35)), .bool true, .bool true, .bool true, pt B 43, .agg (C.extract 43 (43 + 6)), pt B' 43, .agg (C'.extract 43 (43 + 6)), .bool true, .bool true, .bool true, pt B 49, .slice a49 n49 k49, pt B' 49, .slice a49' n49' k49', ud, ud, ud, ud, ud, ud, ud, ud, ud], defers := [] }) (obs := [.load 28 (B) (49) (.slice a49 n49 k49), .load 28 (B') (49) (.slice a49' n49' k49')]) (by kernel_rfl) ⟨ob_load1 (fun _ e => by rw [e]; exact hb) c49 ga4, ob_load1 (fun _ e => by rw [e]; exact hb') c49' ga4, trivial⟩ ?_
           refine wpT_ask (i := 38) (f := 42) (vs := [.slice a49 n49 k49, .slice a49' n49' k49']) (d := some 77) (by kernel_rfl) Try.call42 (reqU l49 l49' hk) ?_ ?_
           ·intro w10 q10 hb1; replace hb := hb.next hb1; replace hb' := hb'.next hb1; replace hk := hk.trans (hb1.mono hk.size); clear hb1
            refine wpT_sym [none, none, none, some (.slice a50 n50 k50), none, some (.slice a50' n50' k50')] 39 (a' := { tmps := #[.agg C, .agg C', pt B 0, pt B' 0, .bool false, pt B 0, .int .u64 x.id, pt B' 0, .int .u64 y.id, .bool false, .bool false, pt B 1, .int .i64 x.kind, pt B' 1, .int .i64 y.kind, .bool false, .bool false, .bool false, pt B 2, .slice a2 n2 k2, pt B' 2, .slice a2' n2' k2', .bool true, .bool false, .bool false, .bool false, pt B 3, .int .i64 x.quota, pt B' 3, .int .i64 y.quota, .bool false, .bool false, .bool false, pt B 4, .bool x.fixed, pt B' 4, .bool y.fixed, .bool false, .bool false, pt B 5, .slice a5 n5 k5, pt B' 5, .slice a5' n5' k5', .bool true, .bool true, pt B 6, .slice a6 n6 k6, pt B' 6, .slice a6' n6' k6', .bool true, .bool true, .bool true, pt B 7, .slice a7 n7 k7, pt B' 7, .slice a7' n7' k7', .bool true, .bool true, .bool true, pt B 8, .agg (C.extract 8 (8 + 35)), pt B' 8, .agg (C'.extract 8 (8 + 35)), .bool true, .bool true, .bool true, pt B 43, .agg (C.extract 43 (43 + 6)), pt B' 43, .agg (C'.extract 43 (43 + 6)), .bool true, .bool true, .bool true, pt B 49, .slice a49 n49 k49, pt B' 49, .slice a49' n49' k49', .bool true, .bool true, .bool true, pt B 50, .slice a50 n50 k50, pt B' 50, .slice a50' n50' k50', ud, ud], defers := [] }) (obs := [.load 28 (B) (50) (.slice a50 n50 k50), .load 28 (B') (50) (.slice a50' n50' k50')]) (by kernel_rfl) ⟨ob_load1 (fun _ e => by rw [e]; exact hb) c50 ga4, ob_load1 (fun _ e => by rw [e]; exact hb') c50' ga4, trivial⟩ ?_
            refine wpT_ask (i := 45) (f := 42) (vs := [.slice a50 n50 k50, .slice a50' n50' k50']) (d := some 84) (by kernel_rfl) Try.call42 (reqU l50 l50' hk) ?_ ?_
            ·intro w11 q11 hb1; replace hb := hb.next hb1; replace hb' := hb'.next hb1; replace hk := hk.trans (hb1.mono hk.size); clear hb1
             refine wpT_sym [none, none] 46 (a' := { tmps := #[.agg C, .agg C', pt B 0, pt B' 0, .bool true, pt B 0, .int .u64 x.id, pt B' 0, .int .u64 y.id, .bool false, .bool false, pt B 1, .int .i64 x.kind, pt B' 1, .int .i64 y.kind, .bool false, .bool false, .bool false, pt B 2, .slice a2 n2 k2, pt B' 2, .slice a2' n2' k2', .bool true, .bool false, .bool false, .bool false, pt B 3, .int .i64 x.quota, pt B' 3, .int .i64 y.quota, .bool false, .bool false, .bool false, pt B 4, .bool x.fixed, pt B' 4, .bool y.fixed, .bool false, .bool false, pt B 5, .slice a5 n5 k5, pt B' 5, .slice a5' n5' k5', .bool true, .bool true, pt B 6, .slice a6 n6 k6, pt B' 6, .slice a6' n6' k6', .bool true, .bool true, .bool true, pt B 7, .slice a7 n7 k7, pt B' 7, .slice a7' n7' k7', .bool true, .bool true, .bool true, pt B 8, .agg (C.extract 8 (8 + 35)), pt B' 8, .agg (C'.extract 8 (8 + 35)), .bool true, .bool true, .bool true, pt B 43, .agg (C.extract 43 (43 + 6)), pt B' 43, .agg (C'.extract 43 (43 + 6)), .bool true, .bool true, .bool true, pt B 49, .slice a49 n49 k49, pt B' 49, .slice a49' n49' k49', .bool true, .bool true, .bool true, pt B 50, .slice a50 n50 k50, pt B' 50, .slice a50' n50' k50', .bool true, .bool true], defers := [] }) (obs := []) (by kernel_rfl) trivial ?_
             refine wpT_end (by kernel_rfl) ?_
             go_wp2
             go_ret
             exact askP_yes (ob_iff.1 ⟨Classical.not_not.1 q0.out, Classical.not_not.1 q1.out, q2.out, Classical.not_not.1 q3.out, Classical.not_not.1 q4.out, q5.out, q6.out, q7.out, q8.out, q9.out, q10.out, q11.out⟩) hk
            ·intro w11 q11 hb1; replace hb := hb.next hb1; replace hb' := hb'.next hb1; replace hk := hk.trans (hb1.mono hk.size); clear hb1
             refine wpT_sym [none, none] 46 (a' := { tmps := #[.agg C, .agg C', pt B 0, pt B' 0, .bool false, pt B 0, .int .u64 x.id, pt B' 0, .int .u64 y.id, .bool false, .bool false, pt B 1, .int .i64 x.kind, pt B' 1, .int .i64 y.kind, .bool false, .bool false, .bool false, pt B 2, .slice a2 n2 k2, pt B' 2, .slice a2' n2' k2', .bool true, .bool false, .bool false, .bool false, pt B 3, .int .i64 x.quota, pt B' 3, .int .i64 y.quota, .bool false, .bool false, .bool false, pt B 4, .bool x.fixed, pt B' 4, .bool y.fixed, .bool false, .bool false, pt B 5, .slice a5 n5 k5, pt B' 5, .slice a5' n5' k5', .bool true, .bool true, pt B 6, .slice a6 n6 k6, pt B' 6, .slice a6' n6' k6', .bool true, .bool true, .bool true, pt B 7, .slice a7 n7 k7, pt B' 7, .slice a7' n7' k7', .bool true, .bool true, .bool true, pt B 8, .agg (C.extract 8 (8 + 35)), pt B' 8, .agg (C'.extract 8 (8 + 35)), .bool true, .bool true, .bool true, pt B 43, .agg (C.extract 43 (43 + 6)), pt B' 43, .agg (C'.extract 43 (43 + 6)), .bool true, .bool true, .bool true, pt B 49, .slice a49 n49 k49, pt B' 49, .slice a49' n49' k49', .bool true, .bool true, .bool true, pt B 50, .slice a50 n50 k50, pt B' 50, .slice a50' n50' k50', .bool false, .bool false], defers := [] }) (obs := []) (by kernel_rfl) trivial ?_
             refine wpT_end (by kernel_rfl) ?_
             go_wp2
             go_ret
             refine askP_no q11 hk ?_; intro e; rw [e]
           ·intro w10 q10 hb1; replace hb := hb.next hb1; replace hb' := hb'.next hb1; replace hk := hk.trans (hb1.mono hk.size); clear hb1
            refine wpT_sym [none, none, none, none, none, none, none, none, none] 39 (a' := { tmps := #[.agg C, .agg C', pt B 0, pt B' 0, .bool false, pt B 0, .int .u64 x.id, pt B' 0, .int .u64 y.id, .bool false, .bool false, pt B 1, .int .i64 x.kind, pt B' 1, .int .i64 y.kind, .bool false, .bool false, .bool false, pt B 2, .slice a2 n2 k2, pt B' 2, .slice a2' n2' k2', .bool true, .bool false, .bool false, .bool false, pt B 3, .int .i64 x.quota, pt B' 3, .int .i64 y.quota, .bool false, .bool false, .bool false, pt B 4, .bool x.fixed, pt B' 4, .bool y.fixed, .bool false, .bool false, pt B 5, .slice a5 n5 k5, pt B' 5, .slice a5' n5' k5', .bool true, .bool true, pt B 6, .slice a6 n6 k6, pt B' 6, .slice a6' n6' k6', .bool true, .bool true, .bool true, pt B 7, .slice a7 n7 k7, pt B' 7, .slice a7' n7' k7', .bool true, .bool true, .bool true, pt B 8, .agg (C.extract 8 (8 + 35)), pt B' 8, .agg (C'.extract 8 (8 + 35)), .bool true, .bool true, .bool true, pt B 43, .agg (C.extract 43 (43 + 6)), pt B' 43, .agg (C'.extract 43 (43 + 6)), .bool true, .bool true, .bool true, pt B 49, .slice a49 n49 k49, pt B' 49, .slice a49' n49' k49', .bool false, .bool false, .bool false, ud, ud, ud, ud, ud, .bool false], defers := [] }) (obs := []) (by kernel_rfl) trivial ?_
            refine wpT_end (by kernel_rfl) ?_
            go_wp2
            go_ret
            refine askP_no q10 hk ?_; intro e; rw [e]
          ·intro w9 q9 hb1; replace hb := hb.next hb1; replace hb' := hb'.next hb1; replace hk := hk.trans (hb1.mono hk.size); clear hb1
           refine wpT_sym [none, none, none, none, none, none, none, none, none, none, none, none, none, none, none, none] 32 (a' := { tmps := #[.agg C, .agg C', pt B 0, pt B' 0, .bool false, pt B 0, .int .u64 x.id, pt B' 0, .int .u64 y.id, .bool false, .bool false, pt B 1, .int .i64 x.kind, pt B' 1, .int .i64 y.kind, .bool false, .bool false, .bool false, pt B 2, .slice a2 n2 k2, pt B' 2, .slice a2' n2' k2', .bool true, .bool false, .bool false, .bool false, pt B 3, .int .i64 x.quota, pt B' 3, .int .i64 y.quota, .bool false, .bool false, .bool false, pt B 4, .bool x.fixed, pt B' 4, .bool y.fixed, .bool false, .bool false, pt B 5, .slice a5 n5 k5, pt B' 5, .slice a5' n5' k5', .bool true, .bool true, pt B 6, .slice a6 n6 k6, pt B' 6, .slice a6' n6' k6', .bool true, .bool true, .bool true, pt B 7, .slice a7 n7 k7, pt B' 7, .slice a7' n7' k7', .bool true, .bool true, .bool true, pt B 8, .agg (C.extract 8 (8 + 35)), pt B' 8, .agg (C'.extract 8 (8 + 35)), .bool true, .bool true, .bool true, pt B 43, .agg (C.extract 43 (43 + 6)), pt B' 43, .agg (C'.extract 43 (43 + 6)), .bool false, .bool false, .bool false, ud, ud, ud, ud, ud, .bool false, .bool false, ud, ud, ud, ud, ud, .bool false], defers := [] }) (obs := []) (by kernel_rfl) trivial ?_
           refine wpT_end (by kernel_rfl) ?_
           go_wp2
           go_ret
           refine askP_no q9 hk ?_; intro e; rw [e]
         ·intro w8 q8 hb1; replace hb := hb.next hb1; replace hb' := hb'.next hb1; replace hk := hk.trans (hb1.mono hk.size); clear hb1
          refine wpT_sym [none, none, none, none, none, none, none, none, none, none, none, none, none, none, none, none, none, none, none, none, none, none, none] 25 (a' := { tmps := #[.agg C, .agg C', pt B 0, pt B' 0, .bool false, pt B 0, .int .u64 x.id, pt B' 0, .int .u64 y.id, .bool false, .bool false, pt B 1, .int .i64 x.kind, pt B' 1, .int .i64 y.kind, .bool false, .bool false, .bool false, pt B 2, .slice a2 n2 k2, pt B' 2, .slice a2' n2' k2', .bool true, .bool false, .bool false, .bool false, pt B 3, .int .i64 x.quota, pt B' 3, .int .i64 y.quota, .bool false, .bool false, .bool false, pt B 4, .bool x.fixed, pt B' 4, .bool y.fixed, .bool false, .bool false, pt B 5, .slice a5 n5 k5, pt B' 5, .slice a5' n5' k5', .bool true, .bool true, pt B 6, .slice a6 n6 k6, pt B' 6, .slice a6' n6' k6', .bool true, .bool true, .bool true, pt B 7, .slice a7 n7 k7, pt B' 7, .slice a7' n7' k7', .bool true, .bool true, .bool true, pt B 8, .agg (C.extract 8 (8 + 35)), pt B' 8, .agg (C'.extract 8 (8 + 35)), .bool false, .bool false, .bool false, ud, ud, ud, ud, ud, .bool false, .bool false, ud, ud, ud, ud, ud, .bool false, .bool false, ud, ud, ud, ud, ud, .bool false], defers := [] }) (obs := []) (by kernel_rfl) trivial ?_
          refine wpT_end (by kernel_rfl) ?_
          go_wp2
          go_ret
          refine askP_no q8 hk ?_; intro e; rw [e]
        ·intro w7 q7 hb1; replace hb := hb.next hb1; replace hb' := hb'.next hb1; replace hk := hk.trans (hb1.mono hk.size); clear hb1
         refine wpT_sym [none, none, none, none, none, none, none, none, none, none, none, none, none, none, none, none, none, none, none, none, none, none, none, none, none, none, none, none, none, none] 18 (a' := { tmps := #[.agg C, .agg C', pt B 0, pt B' 0, .bool false, pt B 0, .int .u64 x.id, pt B' 0, .int .u64 y.id, .bool false, .bool false, pt B 1, .int .i64 x.kind, pt B' 1, .int .i64 y.kind, .bool false, .bool false, .bool false, pt B 2, .slice a2 n2 k2, pt B' 2, .slice a2' n2' k2', .bool true, .bool false, .bool false, .bool false, pt B 3, .int .i64 x.quota, pt B' 3, .int .i64 y.quota, .bool false, .bool false, .bool false, pt B 4, .bool x.fixed, pt B' 4, .bool y.fixed, .bool false, .bool false, pt B 5, .slice a5 n5 k5, pt B' 5, .slice a5' n5' k5', .bool true, .bool true, pt B 6, .slice a6 n6 k6, pt B' 6, .slice a6' n6' k6', .bool true, .bool true, .bool true, pt B 7, .slice a7 n7 k7, pt B' 7, .slice a7' n7' k7', .bool false, .bool false, .bool false, ud, ud, ud, ud, ud, .bool false, .bool false, ud, ud, ud, ud, ud, .bool false, .bool false, ud, ud, ud, ud, ud, .bool false, .bool false, ud, ud, ud, ud, ud, .bool false], defers := [] }) (obs := []) (by kernel_rfl) trivial ?_
         refine wpT_end (by kernel_rfl) ?_
         go_wp2
         go_ret
         refine askP_no q7 hk ?_; intro e; rw [e]
       ·intro w6 q6 hb1; replace hb := hb.next hb1; replace hb' := hb'.next hb1; replace hk := hk.trans (hb1.mono hk.size); clear hb1
        refine wpT_sym [none, none, none, none, none, none, none, none, none, none, none, none, none, none, none, none, none, none, none, none, none, none, none, none, none, none, none, none, none, none, none, none, none, none, none, none, none] 11 (a' := { tmps := #[.agg C, .agg C', pt B 0, pt B' 0, .bool false, pt B 0, .int .u64 x.id, pt B' 0, .int .u64 y.id, .bool false, .bool false, pt B 1, .int .i64 x.kind, pt B' 1, .int .i64 y.kind, .bool false, .bool false, .bool false, pt B 2, .slice a2 n2 k2, pt B' 2, .slice a2' n2' k2', .bool true, .bool false, .bool false, .bool false, pt B 3, .int .i64 x.quota, pt B' 3, .int .i64 y.quota, .bool false, .bool false, .bool false, pt B 4, .bool x.fixed, pt B' 4, .bool y.fixed, .bool false, .bool false, pt B 5, .slice a5 n5 k5, pt B' 5, .slice a5' n5' k5', .bool true, .bool true, pt B 6, .slice a6 n6 k6, pt B' 6, .slice a6' n6' k6', .bool false, .bool false, .bool false, ud, ud, ud, ud, ud, .bool false, .bool false, ud, ud, ud, ud, ud, .bool false, .bool false, ud, ud, ud, ud, ud, .bool false, .bool false, ud, ud, ud, ud, ud, .bool false, .bool false, ud, ud, ud, ud, ud, .bool false], defers := [] }) (obs := []) (by kernel_rfl) trivial ?_
        refine wpT_end (by kernel_rfl) ?_
        go_wp2
        go_ret
        refine askP_no q6 hk ?_; intro e; rw [e]
      ·intro w5 q5 hb1; replace hb := hb.next hb1; replace hb' := hb'.next hb1; replace hk := hk.trans (hb1.mono hk.size); clear hb1
       refine wpT_sym [none, none, none, none, none, none, none, none, none, none, none, none, none, none, none, none, none, none, none, none, none, none, none, none, none, none, none, none, none, none, none, none, none, none, none, none, none, none, none, none, none, none, none] 5 (a' := { tmps := #[.agg C, .agg C', pt B 0, pt B' 0, .bool false, pt B 0, .int .u64 x.id, pt B' 0, .int .u64 y.id, .bool false, .bool false, pt B 1, .int .i64 x.kind, pt B' 1, .int .i64 y.kind, .bool false, .bool false, .bool false, pt B 2, .slice a2 n2 k2, pt B' 2, .slice a2' n2' k2', .bool true, .bool false, .bool false, .bool false, pt B 3, .int .i64 x.quota, pt B' 3, .int .i64 y.quota, .bool false, .bool false, .bool false, pt B 4, .bool x.fixed, pt B' 4, .bool y.fixed, .bool false, .bool false, pt B 5, .slice a5 n5 k5, pt B' 5, .slice a5' n5' k5', .bool false, .bool false, ud, ud, ud, ud, ud, .bool false, .bool false, ud, ud, ud, ud, ud, .bool false, .bool false, ud, ud, ud, ud, ud, .bool false, .bool false, ud, ud, ud, ud, ud, .bool false, .bool false, ud, ud, ud, ud, ud, .bool false, .bool false, ud, ud, ud, ud, ud, .bool false], defers := [] }) (obs := []) (by kernel_rfl) trivial ?_
       refine wpT_end (by kernel_rfl) ?_
       go_wp2
       go_ret
       refine askP_no q5 hk ?_; intro e; rw [e]
   ·intro w2 q2 hb1; replace hb := hb.next hb1; replace hb' := hb'.next hb1; replace hk := hk.trans (hb1.mono hk.size); clear hb1
    refine wpT_sym [none, none, none, none, none, none, none, none, none, none, none, none, none, none, none, none] 18 (a' := { tmps := #[.agg C, .agg C', pt B 0, pt B' 0, .bool false, pt B 0, .int .u64 x.id, pt B' 0, .int .u64 y.id, .bool false, .bool false, pt B 1, .int .i64 x.kind, pt B' 1, .int .i64 y.kind, .bool false, .bool false, .bool false, pt B 2, .slice a2 n2 k2, pt B' 2, .slice a2' n2' k2', .bool false, .bool true, .bool true, .bool true, ud, ud, ud, ud, ud, .bool true, .bool true, ud, ud, ud, ud, ud, .bool true, ud, ud, ud, ud, ud, ud, ud, ud, ud, ud, ud, ud, ud, ud, ud, ud, ud, ud, ud, ud, ud, ud, ud, ud, ud, ud, ud, ud, ud, ud, ud, ud, ud, ud, ud, ud, ud, ud, ud, ud, ud, ud, ud, ud, ud, ud, ud], defers := [] }) (obs := []) (by kernel_rfl) trivial ?_
    refine wpT_end (by kernel_rfl) ?_
    go_wp2
    go_ret
    refine askP_no q2 hk ?_; intro e; rw [e]
end Go.Proofs.Ytcmcakandbpjfaa
namespace Go.Proofs.Ytcmcakandbpjfaa
set_option maxRecDepth 100000
set_option maxHeartbeats 8000000
open Go.RowKit Go.Shelf
set_option linter.unusedVariables false
attribute [local go_sem] Oper.semAt_some

theorem askP_b {X : Prop} {W w' : World} {b : Bool} (h : b = true ↔ X) (hk : Below W.heap.size W w') : AskP X W (.returned (.bool b)) w' := ⟨b, rfl, h, hk⟩
theorem Asks.of {f : FuncId} {args : Array Value} {W : World} {b : Bool} (h : Calls Try.prog f args W fun e w' => e = .returned (.bool b) ∧ Below W.heap.size W w') : Asks f args (b = true) W := by
 refine h.mono ?_
 rintro e w' ⟨rfl, hk⟩
 exact askP_b Iff.rfl hk
theorem rid_any (n : Int) (w : World) : Asks 67 #[.int .u64 n] (idB n = true) w := by
 unfold Asks
 go_enter Try.func67, Try.ntmps67
 go_wp2
 all_goals go_ret
 all_goals (refine askP_b ?_ (Below.refl _ _); unfold idB; simp; omega)
def spanI (lo hi : Int) : Bool := decide (lo ≤ hi) && decide (hi ≤ 2305843009213693952)
theorem rspan_any (lo hi : Int) (w : World) : Asks 85 #[.agg #[.int .u64 lo, .int .u64 hi]] (spanI lo hi = true) w := by
 unfold Asks
 go_enter Try.func85, Try.ntmps85
 go_wp2
 all_goals go_ret
 all_goals (refine askP_b ?_ ((Below.refl _ w).alloc (Nat.le_refl _) _); unfold spanI; simp; omega)
def noA (L : Lb) : Bool := L.all fun p => !decide (p.2 = 5)
theorem noA_iff {L : Lb} : noA L = true ↔ ∀ i, i < L.length → ¬ (L.getD i (0, 0)).2 = 5 := by
 unfold noA
 rw [List.all_eq_true]
 constructor
 ·intro h i hi
  have := h L[i] (List.getElem_mem hi)
  simpa [List.getD_eq_getElem?_getD, List.getElem?_eq_getElem hi] using this
 ·intro h p hp
  obtain ⟨i, hi, e⟩ := List.mem_iff_getElem.1 hp
  have := h i hi
  simpa [List.getD_eq_getElem?_getD, List.getElem?_eq_getElem hi, e] using this
theorem kept_iff {L : Lb} : keptB L = true ↔ (L.length ≤ 16 ∧ fitB L = true ∧ noA L = true) := by unfold keptB noA; simp
theorem rkept_any {w0 w : World} {ao : Option Addr} {n cap : Nat} {L : Lb} (h0 : LabD (LtN w0) w0 ao n cap L) (hk : Below w0.heap.size w0 w) : Asks 68 #[.slice ao n cap] (keptB L = true) w := by
 have hL := h0.lab' hk
 have hn : Hid (L.length = n) := hL.1
 have hnc := hL.2.1
 have hcm := hL.2.2.1.1
 clear h0 hk
 unfold Asks
 go_enter Try.func68, Try.ntmps68
 go_wp2
 go_loopw [3] (fun i wr => ∃ k : Nat, k ≤ n ∧ i = .int .i64 k ∧ Hid (∀ j, j < k → ¬ (L.getD j (0, 0)).2 = 5) ∧ Below w.heap.size w wr) (fun i _ => n - (intOf i).toNat)
 case atStart => exact ⟨0, Nat.zero_le _, rfl, fun j hj => absurd hj (by omega), Below.refl _ _⟩
 case round =>
  obtain ⟨k, hk, rfl, hal, hb⟩ := hrel
  have hbs := hb.size
  by_cases hkn : k < n
  ·obtain ⟨b, off, x, y, rfl, hB, d0, d1, hxy⟩ := hL.at hb hkn
   have hkn' : (k : Int) < n := by omega
   by_cases hy : y = 5
   ·have hq : Hid (¬ noA L = true) := by
     refine (?_ : ¬ noA L = true)
     intro e; have := noA_iff.1 e k (by rw [hn.out]; exact hkn); rw [hxy.out] at this; exact this hy
    subst hy
    go_wp2
    go_ret
    exact askP_no hq hb (fun e => (kept_iff.1 e).2.2)
   ·have hy' : (y == 5) = false := by rw [beq_eq_false_iff_ne]; exact hy
    have hyh : Hid (¬ y = 5) := hy
    clear hy
    go_wp2
    go_roundw
    case rel => exact ⟨k + 1, by omega, by go_num, fun j hj => by
      rcases Nat.lt_or_ge j k with h | h
      ·exact hal.out j h
      ·obtain rfl : j = k := by omega
       rw [hxy.out]; exact hyh.out, hb⟩
    case measure => simp [intOf]; omega
  ·obtain rfl : k = n := by omega
   have hno : Hid (noA L = true) := noA_iff.2 fun i hi => hal.out i (by rw [hn.out] at hi; exact hi)
   clear hal
   by_cases h16 : k ≤ 16
   ·have h16' : (k : Int) ≤ 16 := by omega
    go_wp2_with (go_at_call 83; (with_reducible refine (Asks.of (rlfit_any (hL.later hb) hbs)).on ?_ ?_) <;> intro w1 hq hk1)
    ·go_ret
     exact askP_yes (kept_iff.2 ⟨by rw [hn.out]; exact h16, hq.out, hno.out⟩) (hb.trans (hk1.mono hbs))
    ·go_ret
     exact askP_no hq (hb.trans (hk1.mono hbs)) (fun e => (kept_iff.1 e).2.1)
   ·have h16' : ¬ (k : Int) ≤ 16 := by omega
    go_wp2
    go_ret
    exact askP_no (show Hid (¬ k ≤ 16) from h16) hb (fun e => by have := (kept_iff.1 e).1; rw [hn.out] at this; exact this)
theorem boun_iff {l b : Lb} : bounB l b = true ↔ (keptB l = true ∧ keptB b = true ∧ leqB l b = true) := by unfold bounB; simp
end Go.Proofs.Ytcmcakandbpjfaa
namespace Go.Proofs.Ytcmcakandbpjfaa
set_option maxRecDepth 100000
set_option maxHeartbeats 8000000
open Go.RowKit Go.Shelf
set_option linter.unusedVariables false
attribute [local go_sem] Oper.semAt_some

theorem ris_iff : ∀ {l : List Int}, risB l = true ↔ ∀ i, i + 1 < l.length → l.getD i 0 < l.getD (i + 1) 0 := by
 intro l
 unfold risB
 rw [decide_eq_true_iff]
 induction l with
 | nil => simp
 | cons x l ih =>
  rw [List.pairwise_cons, ih]
  constructor
  ·rintro ⟨h1, h2⟩ i hi
   cases i with
   | zero =>
    have hl : 0 < l.length := by simpa using hi
    have := h1 l[0] (List.getElem_mem hl)
    simpa [List.getD_eq_getElem?_getD, List.getElem?_eq_getElem hl] using this
   | succ i => exact h2 i (by simpa using hi)
  ·intro h
   have h2 : ∀ i, i + 1 < l.length → l.getD i 0 < l.getD (i + 1) 0 := fun i hi => h (i + 1) (by simpa using hi)
   refine ⟨fun y hy => ?_, h2⟩
   obtain ⟨j, hj, rfl⟩ := List.mem_iff_getElem.1 hy
   have h0 : x < l.getD 0 0 := h 0 (by simp; omega)
   have : ∀ j, j < l.length → x < l.getD j 0 := by
    intro j
    induction j with
    | zero => intro _; exact h0
    | succ j ihj => intro hj; exact Int.lt_trans (ihj (by omega)) (h2 j hj)
   have := this j hj
   simpa [List.getD_eq_getElem?_getD, List.getElem?_eq_getElem hj] using this
def allI (l : List Int) : Bool := l.all idB
theorem allI_iff {l : List Int} : allI l = true ↔ ∀ i, i < l.length → idB (l.getD i 0) = true := by
 unfold allI
 rw [List.all_eq_true]
 constructor
 ·intro h i hi
  have := h l[i] (List.getElem_mem hi)
  simpa [List.getD_eq_getElem?_getD, List.getElem?_eq_getElem hi] using this
 ·intro h p hp
  obtain ⟨i, hi, e⟩ := List.mem_iff_getElem.1 hp
  have := h i hi
  simpa [List.getD_eq_getElem?_getD, List.getElem?_eq_getElem hi, e] using this
theorem fn_succ {p : Nat → Prop} {k : Nat} (h : ∀ i, i < k → p i) (hk : p k) : ∀ i, i < k + 1 → p i := fun i hi => by
 rcases Nat.lt_or_ge i k with h' | h'
 ·exact h i h'
 ·have : i = k := by omega
  rw [this]; exact hk
end Go.Proofs.Ytcmcakandbpjfaa
