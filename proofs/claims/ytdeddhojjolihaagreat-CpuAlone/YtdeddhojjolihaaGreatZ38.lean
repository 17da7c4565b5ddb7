/-
 PROVED HERE: plain facts on what a fault and an alert leave of a thread, and a thread's cells that are overwritten (no Go t. What is asked stands at each.
-/
import Derived.Test.YtdeddhojjolihaaGreatZ13
import Derived.Test.YtdeddhojjolihaaGreatZ17
import Derived.Test.YtdeddhojjolihaaGreatZ27
import Derived.Test.YtdeddhojjolihaaGreatZ28
import Derived.Test.YtdeddhojjolihaaGreatZ32
namespace Go.Proofs.YtdeddhojjolihaaGreat
set_option maxRecDepth 100000
set_option maxHeartbeats 8000000
set_option linter.unusedVariables false
open Go.Proofs.Tryz
section
def dvT (t : Th) (g why : Int) : Th := { t with regs := (t.regs.set 14 t.pc).set 15 why, pc := g }
def flT (t : Th) (why : Int) : Th := if t.handler = 0 then { t with state := 2 } else { dvT t t.handler why with handler := 0 }
def alB (t : Th) : Bool := !(decide (t.alerts.length = 0) || decide (t.vector = 0))
def alT (t : Th) : Th := if alB t then { dvT t t.vector (t.alerts.getD 0 0) with vector := 0, alerts := t.alerts.drop 1 } else t
theorem set_getD {l : List Int} {k i : Nat} {v : Int} (hk : k < l.length) : (l.set k v).getD i 0 = if k = i then v else l.getD i 0 := by
 simp only [List.getD_eq_getElem?_getD, List.getElem?_set]
 by_cases e : k = i
 ·subst e; simp [hk]
 ·simp [e]
structure SmT (t : Th) : Prop where
 c : t.clear.length < 8796093022208
 al : t.alerts.length < 4294967296
 l0 : t.l0.length < 8796093022208
 l1 : t.l1.length < 8796093022208
 l2 : t.l2.length < 8796093022208
 l3 : t.l3.length < 8796093022208
def thO (t : Th) : Ob := { zOb with kind := 4, th := t }
theorem SmT.ob {t : Th} (h : SmT t) : Small (thO t) := ⟨show (0 : Nat) < _ by decide, show (0 : Nat) < _ by decide, show (0 : Nat) < _ by decide, show (0 : Nat) < _ by decide, h.c, h.al, h.l0, h.l1, h.l2, h.l3, show (0 : Nat) < _ by decide, show (0 : Nat) < _ by decide, show (0 : Nat) < _ by decide, show (0 : Nat) < _ by decide⟩
theorem SmT.of {x : Ob} (h : Small x) : SmT x.th := ⟨h.c25, h.c36, h.c39, h.c40, h.c41, h.c42⟩
theorem SmT.fl {t : Th} (h : SmT t) (why : Int) : SmT (flT t why) := by
 unfold flT
 split <;> exact ⟨h.c, h.al, h.l0, h.l1, h.l2, h.l3⟩
theorem SmT.alt {t : Th} (h : SmT t) : SmT (alT t) := by
 unfold alT
 split
 ·exact ⟨h.c, by have := h.al; show (t.alerts.drop 1).length < _; rw [List.length_drop]; omega, h.l0, h.l1, h.l2, h.l3⟩
 ·exact h
section
variable {D : Nat → Prop} {w : World} {T : Array Value} {t t' : Th} {f : Nat → Option Value}
theorem ThF.setpc (h : ThF D w f t) (v : Int) : ThF D w (fun i => if 16 = i then some (.int .u64 v) else f i) { t with pc := v } :=
 ⟨h.rlen, fun i hi => (if_neg (by omega)).trans (h.regs i hi), rfl, h.clear, h.sc, h.si, h.handler, h.vector, h.state, h.wc, h.wi, h.wx, h.wv, h.wd, h.alerts, h.lo, h.hi, h.l0, h.l1, h.l2, h.l3⟩
theorem ThF.sethandler (h : ThF D w f t) (v : Int) : ThF D w (fun i => if 20 = i then some (.int .u64 v) else f i) { t with handler := v } :=
 ⟨h.rlen, fun i hi => (if_neg (by omega)).trans (h.regs i hi), h.pc, h.clear, h.sc, h.si, rfl, h.vector, h.state, h.wc, h.wi, h.wx, h.wv, h.wd, h.alerts, h.lo, h.hi, h.l0, h.l1, h.l2, h.l3⟩
theorem ThF.setvector (h : ThF D w f t) (v : Int) : ThF D w (fun i => if 21 = i then some (.int .u64 v) else f i) { t with vector := v } :=
 ⟨h.rlen, fun i hi => (if_neg (by omega)).trans (h.regs i hi), h.pc, h.clear, h.sc, h.si, h.handler, rfl, h.state, h.wc, h.wi, h.wx, h.wv, h.wd, h.alerts, h.lo, h.hi, h.l0, h.l1, h.l2, h.l3⟩
theorem ThF.setstate (h : ThF D w f t) (v : Int) : ThF D w (fun i => if 22 = i then some (.int .i64 v) else f i) { t with state := v } :=
 ⟨h.rlen, fun i hi => (if_neg (by omega)).trans (h.regs i hi), h.pc, h.clear, h.sc, h.si, h.handler, h.vector, rfl, h.wc, h.wi, h.wx, h.wv, h.wd, h.alerts, h.lo, h.hi, h.l0, h.l1, h.l2, h.l3⟩
theorem ThF.setalerts (h : ThF D w f t) {L : List Int} {a : Option Addr} {n c : Nat} (k : CtD D w a n c L) : ThF D w (fun i => if 28 = i then some (.slice a n c) else f i) { t with alerts := L } :=
 ⟨h.rlen, fun i hi => (if_neg (by omega)).trans (h.regs i hi), h.pc, h.clear, h.sc, h.si, h.handler, h.vector, h.state, h.wc, h.wi, h.wx, h.wv, h.wd, ⟨a, n, c, rfl, k⟩, h.lo, h.hi, h.l0, h.l1, h.l2, h.l3⟩
theorem ThF.setreg (h : ThF D w f t) {k : Nat} (hk : k < 16) (v : Int) : ThF D w (fun i => if k = i then some (.int .u64 v) else f i) { t with regs := t.regs.set k v } :=
 ⟨by simp [h.rlen], fun i hi => by rw [set_getD (by rw [h.rlen]; exact hk)]; show (if k = i then _ else _) = _; split <;> first | rfl | exact h.regs i hi, (if_neg (by omega)).trans h.pc, by show LbV D w (if k = 17 then _ else _) _; rw [if_neg (by omega)]; exact h.clear, (if_neg (by omega)).trans h.sc, (if_neg (by omega)).trans h.si, (if_neg (by omega)).trans h.handler, (if_neg (by omega)).trans h.vector, (if_neg (by omega)).trans h.state, (if_neg (by omega)).trans h.wc, (if_neg (by omega)).trans h.wi, (if_neg (by omega)).trans h.wx, (if_neg (by omega)).trans h.wv, (if_neg (by omega)).trans h.wd, by show CtV D w (if k = 28 then _ else _) _; rw [if_neg (by omega)]; exact h.alerts, (if_neg (by omega)).trans h.lo, (if_neg (by omega)).trans h.hi, by show LbV D w (if k = 31 then _ else _) _; rw [if_neg (by omega)]; exact h.l0, by show LbV D w (if k = 32 then _ else _) _; rw [if_neg (by omega)]; exact h.l1, by show LbV D w (if k = 33 then _ else _) _; rw [if_neg (by omega)]; exact h.l2, by show LbV D w (if k = 34 then _ else _) _; rw [if_neg (by omega)]; exact h.l3⟩
theorem ThD.put (h : ThD D w T t) {j : Nat} (hj : j < 35) {v : Value} (hv : v.oneCell' = true) (k : ThF D w (fun i => if j = i then some v else T[i]?) t') : ThD D w (T.setIfInBounds j v) t' :=
 ⟨by simp [h.size], q8z h.one hv, k.congr fun i _ => (qwz (by rw [h.size]; exact hj)).symm⟩
theorem ObD.thput {C : Array Value} {x : Ob} (h : ObD D w C x) {j : Nat} (hj : j < 35) {v : Value} (hv : v.oneCell' = true) (k : ThF D w (fun i => if j = i then some v else C[8 + i]?) t') : ObD D w (C.setIfInBounds (8 + j) v) { x with th := t' } := by
 have e : ∀ i, (C.setIfInBounds (8 + j) v)[i]? = if 8 + j = i then some v else C[i]? := fun i => qwz (by rw [h.size]; omega)
 have e' : ∀ i, i < 8 ∨ 43 ≤ i → (C.setIfInBounds (8 + j) v)[i]? = C[i]? := fun i hi => by rw [e, if_neg (by omega)]
 refine ⟨by simp [h.size], q8z h.one hv, (e' 0 (by omega)).trans h.id, (e' 1 (by omega)).trans h.kind, ?_, (e' 3 (by omega)).trans h.quota, (e' 4 (by omega)).trans h.fixed, ?_, ?_, ?_, k.congr fun i _ => ?_, h.gt.congr fun i hi => (e' (43 + i) (by omega)).symm, ?_, ?_⟩
 ·rw [e' 2 (by omega)]; exact h.label
 ·rw [e' 5 (by omega)]; exact h.links
 ·rw [e' 6 (by omega)]; exact h.data
 ·rw [e' 7 (by omega)]; exact h.maps
 ·show (if j = i then _ else _) = _
  rw [e]
  by_cases q : j = i
  ·rw [if_pos q, if_pos (by omega)]
  ·rw [if_neg q, if_neg (by omega)]
 ·rw [e' 49 (by omega)]; exact h.inn
 ·rw [e' 50 (by omega)]; exact h.out
end
end
section
open Go.RowKit Go.Shelf
attribute [local go_sem] Oper.semAt_some
theorem xsz (w : World) : (zeroValue 46).run prog w = .ok (.agg zT) w := Tryz.zeroValue46 w
variable {C : Array Value}
theorem qMz (h : C.size = 35) : (prog.info? 46).map (·.size) = some C.size := by rw [h]; kernel_rfl
variable {w : World}
theorem res46 {fn : Func} {p : Tmp} (h : fn.results = #[.cell p 46]) {tmps : Array Value} {B : Nat} (hp : tmps.getD p undef = .pointer (some ⟨B, 0, none⟩)) (hB : Blk w B C 46) (hs : C.size = 35) : (results fn tmps).run prog w = .ok (.agg C) w :=
 results_cell_row h tmps w B 46 C (0, 0) _ hp hB underlying46 rfl (qMz hs)
theorem res46b {fn : Func} {p u : Tmp} (h : fn.results = #[.cell p 46, .tmp u]) {tmps : Array Value} {B : Nat} {v : Value} (hp : tmps.getD p undef = .pointer (some ⟨B, 0, none⟩)) (hu : tmps.getD u undef = v) (hB : Blk w B C 46) (hs : C.size = 35) : (results fn tmps).run prog w = .ok (.tuple #[.agg C, v]) w := by
 rw [results_cell_tmp h, hp, hu]
 have := run_loadVar_mid (P := prog) w B 0 46 C.toList _ hB.range0 underlying46 rfl (by simpa using qMz hs)
 rw [Array.toArray_toList] at this
 simp [asAddr, this, Result.andThen]
def plO : Array (Nat × Nat) := #[(0, 1), (1, 1), (2, 1), (3, 1), (4, 1), (5, 1), (6, 1), (7, 1), (8, 35), (43, 6), (49, 1), (50, 1)]
theorem built_ob (parts : List (Nat × Value)) : prog.built 50 parts = Instr.fill (fun i => plO[i]?) zC parts := by kernel_rfl
theorem built_th {D : Nat → Prop} {T : Array Value} {t : Th} (h : ThD D w T t) : ∃ C, prog.built 50 [(1, .int .i64 4), (8, .agg T)] = some C ∧ ObD D w C (thO t) := by
 have h1 : ∀ rest, Instr.fill (fun i => plO[i]?) zC ((1, .int .i64 4) :: rest) = Instr.fill (fun i => plO[i]?) (zC.setIfInBounds 1 (.int .i64 4)) rest := fun rest => by kernel_rfl
 have hz : (zC.setIfInBounds 1 (.int .i64 4)).size = 51 := by simp [qmz]
 have hT := h.size
 obtain ⟨a1, a2⟩ := w6z 8 T.toList 0 (zC.setIfInBounds 1 (.int .i64 4)) (by rw [hz]; simp [hT])
 obtain ⟨C, hC⟩ : ∃ C, (T.toList.zipIdx 0).foldl (fun (c : Array Value) (p : Value × Nat) => c.setIfInBounds (8 + p.2) p.1) (zC.setIfInBounds 1 (.int .i64 4)) = C := ⟨_, rfl⟩
 rw [hC] at a1 a2
 have hin : ∀ i, i < 35 → C[8 + i]? = T[i]? := fun i hi => by rw [a2, if_pos (by simp [hT]; omega)]; simp
 have hout : ∀ i, i < 8 ∨ 43 ≤ i → C[i]? = if 1 = i then some (.int .i64 4) else zC[i]? := fun i hi => by rw [a2, if_neg (by simp [hT]; omega), qwz (by rw [qmz]; omega)]
 have hz0 := zC_d D w
 refine ⟨C, ?_, ?_⟩
 ·rw [built_ob, h1, wYz (o := 8) (n := 35) rfl hT (by rw [hz, hT]; decide)]
  rw [← hC]
  rfl
 ·refine ⟨a1.trans hz, wyz fun j v e => ?_, (hout 0 (by omega)).trans hz0.id, hout 1 (by omega), ?_, (hout 3 (by omega)).trans hz0.quota, (hout 4 (by omega)).trans hz0.fixed, ?_, ?_, ?_, h.f.congr fun i hi => (hin i hi).symm, hz0.gt.congr fun i hi => ?_, ?_, ?_⟩
  ·by_cases q : j < 8 ∨ 43 ≤ j
   ·rw [hout j q] at e
    split at e
    ·cases e; rfl
    ·exact q2z hz0.one e
   ·obtain ⟨m, rfl⟩ : ∃ m, j = 8 + m := ⟨j - 8, by omega⟩
    rw [hin m (by omega)] at e
    exact q2z h.one e
  ·rw [hout 2 (by omega)]; exact hz0.label
  ·rw [hout 5 (by omega)]; exact hz0.links
  ·rw [hout 6 (by omega)]; exact hz0.data
  ·rw [hout 7 (by omega)]; exact hz0.maps
  ·rw [hout (43 + i) (by omega), if_neg (by omega)]
  ·rw [hout 49 (by omega)]; exact hz0.inn
  ·rw [hout 50 (by omega)]; exact hz0.out
theorem fnd_th (t : Th) : fnd [thO t] 0 = some (thO t) := rfl
section
variable {P : Program} {ops : Array Oper} {rest : List Oper} {op : Oper} {a : Act} {Q : Exit → Act → World → Prop} {w : World}
theorem qFz {b o i : Nat} (hi : i < 16) (w : World) : (Instr.indexAt 37 (.pointer (some ⟨b, o, none⟩)) (.int .i64 (i : Int))).run prog w = .ok (.pointer (some ⟨b, o + i, none⟩)) w := by
 have hi' : (i : Int) < 16 := by omega
 go_simp
theorem klz (hw : Region.wanted op (yielded ops a.tmps) = true) (ty : TypeId) (x y : Operand) (ho : op.op = .indexAddr ty x y) (u v : Value) (hx : a.eval x = u) (hy : a.eval y = v) (r : Value) (hr : (Instr.indexAt ty u v).run P w = .ok r w) (h : wpList P ops Q rest (a.put op.dst r) w) : wpList P ops Q (op :: rest) a w := by
 refine qXz hw ?_ h
 unfold execOp
 simp [ho, hx, hy, hr]
end
variable {T : Array Value} {t : Th}
theorem own_v {w : World} (h : ThD (LtN w) w T t) (hs : SmT t) : Calls prog 37 #[.agg T] w fun e w' => ∃ T', e = .returned (.agg T') ∧ ThD (New w w') w' T' t ∧ Below w.heap.size w w' := by
 have hsz := h.size
 have hso := h.one
 obtain ⟨C, hC, oC⟩ := built_th h
 have hCz := oC.size
 have ga2 := isAgg22
 have hC0 : C[0]? = some (.int .u64 0) := oC.id
 have hfd := fun (W : World) (P : Nat) (oW : ObD (LtN W) W C (thO t)) (hP : Blk W P C 50) => jbz (t := 0) (ke := 0) (ro := 0) (i := 0) (vBz hP oW) (List.pairwise_singleton _ _) (by decide) (fun x hx => (List.mem_singleton.1 hx) ▸ hs.ob)
 simp only [fnd_th, Option.isSome_some, Option.getD_some] at hfd
 go_enter func37, ntmps37
 go_wp2_with (first
  | go_skip
  | (with_reducible refine qdz rfl _ _ rfl T rfl ?_; intro B W hB hb hk)
  | ((with_reducible refine qcz rfl _ rfl zT xsz ?_); intro R W1 hB1 hR hk1; replace hb := hb.next hk1; replace hk := btz hk hk1)
  | (with_reducible refine qfz rfl _ _ rfl B rfl _ hb _ underlying46 rfl (qMz hsz) ?_)
  | ((with_reducible refine qvz rfl 50 [(1, .const (.int .i64 4)), (8, .tmp 6)] rfl C ?hf ?_); (case hf => exact hC); have tk1 : True := trivial)
  | ((with_reducible refine qcz rfl _ rfl zC qsz ?_); have hx := tk1; clear hx tk1; intro P W2 hB2 hP hk2; replace hb := hb.next hk2; replace hR := hR.next hk2; replace hk := btz hk hk2; have oC2 := oC.next hk)
  | ((with_reducible refine qbz rfl _ _ _ rfl P rfl C rfl zC hP (qhz hCz) (qmz.trans hCz.symm) oC.one ?_); intro W3 hP3 q3; have hlt3 : Hid (w.heap.size ≤ P) := (by have := hB2.out; have := hk.size; have := hk2.size; have := hB1.out; have := hB.out; have := hk1.size; show w.heap.size ≤ P; omega); have oC3 := (oC.laterK fun b hb' => (q3.block b (by have := hlt3.out; have : b < w.heap.size := hb'; omega)).trans (hk.block b hb')).wide (D' := LtN W3) fun b hb' => Nat.lt_of_lt_of_le hb' (by rw [q3.size]; exact hk.size); replace hR := hR.other q3 (by have := hB1.out; have := hB2.out; have := hR.lt; omega); replace hk := q3.below _ _ hlt3.out hk)
  | (with_reducible refine qfz rfl _ _ rfl P rfl _ hP3 _ underlying50 rfl (qhz hCz) ?_)
  | ((with_reducible refine xNz rfl _ rfl C rfl hCz ?_); intro S W4 hB4 hS hk4; have oC4 := oC3.next hk4; replace hP3 := hP3.next hk4; replace hR := hR.next hk4; replace hk := btz hk hk4)
  | ((with_reducible refine qvz rfl 25 [(3, .tmp 10)] rfl #[.int .i64 0, .int .u64 0, .int .u64 0, .slice (some ⟨S, 0, none⟩) 1 1] ?hf ?_); (case hf => exact yfz _ _ _))
  | (with_reducible refine qaz (by kernel_rfl) _ _ rfl P _ rfl _ _ hP3 _ hC0 (by assumption) ?_)
  | (go_at_call 16; (with_reducible refine (hfd _ _ oC4 hS).mono ?_); rintro e w5 ⟨C', rfl, oC', hb5, _⟩; replace hR := hR.next hb5; have nk : Hid (w.heap.size ≤ W4.heap.size) := hk.size; replace hk := btz hk hb5; have zC' := oC'.size; have tk2 : True := trivial)
  | ((with_reducible refine qcz rfl _ rfl zC qsz ?_); have hx := tk2; clear hx tk2; intro P2 W6 hB6 hP6 hk6; replace hR := hR.next hk6; replace hk := btz hk hk6)
  | ((with_reducible refine qbz rfl _ _ _ rfl P2 rfl C' rfl zC hP6 (qhz zC') (qmz.trans zC'.symm) oC'.one ?_); intro W7 hP7 q7; have hlt7 : Hid (w.heap.size ≤ P2 ∧ R ≠ P2 ∧ w5.heap.size ≤ P2) := (by have := hB6.out; have := nk.out; have := hb5.size; have := hR.lt; have := hB1.out; have := hB2.out; have := hB4.out; have := q3.size; have h1 := hk1.size; have h2 := hk2.size; have h4 := hk4.size; exact ⟨by omega, by omega, by omega⟩); have oC7 := oC'.laterK (w' := W7) fun b hb' => (q7.block b (by have := hlt7.out.2.2; have := hb'.2; omega)).trans (hk6.block b hb'.2); replace hR := hR.other q7 hlt7.out.2.1; replace hk := q7.below _ _ hlt7.out.1 hk)
  | (with_reducible refine wgz rfl _ _ rfl P2 8 35 rfl C' _ hP7 (by rw [zC']; decide) _ underlying46 rfl (by kernel_rfl) ?_)
  | ((with_reducible refine qbz rfl _ _ _ rfl R rfl (C'.extract 8 (8 + 35)) rfl zT hR (qMz oC'.thd.size) (wEz.trans oC'.thd.size.symm) oC'.thd.one ?_); intro W8 hR8 q8))
 have hRl : Hid (w.heap.size ≤ R ∧ R < W4.heap.size) := by
  have := hB.out; have := hB1.out; have h1 := hk1.size; have h2 := hk2.size; have h4 := hk4.size; have := q3.size; have := hB2.out
  exact ⟨by omega, by omega⟩
 refine bodyPost_ret (v := .agg (C'.extract 8 (8 + 35))) (res46 results37 rfl hR8 oC'.thd.size) rfl ⟨_, rfl, ?_, q8.below _ _ hRl.out.1 hk⟩
 exact (oC7.thd.laterK fun b hb' => q8.block b (by have := hb'.1; have := hRl.out.2; omega)).wide fun b hb' => ⟨Nat.le_trans nk.out hb'.1, by have := hb'.2; have := q8.size; have := q7.size; have := hk6.size; show b < W8.heap.size; omega⟩
theorem jdz {w V : World} {D : Nat → Prop} {g why : Int} (h : ThD D V T t) : Calls prog 38 #[.agg T, .int .u64 g, .int .u64 why] w fun e w' => ∃ T', e = .returned (.agg T') ∧ ThD D V T' (dvT t g why) ∧ Below w.heap.size w w' := by
 have hsz := h.size
 have hpc : T[16]? = some (.int .u64 t.pc) := h.f.pc
 have ga2 := isAgg22
 have h1 := h.put (j := 14) (by decide) (by rfl) (h.f.setreg (k := 14) (by decide) t.pc)
 have h2 := h1.put (j := 15) (by decide) (by rfl) (h1.f.setreg (k := 15) (by decide) why)
 have h3 := h2.put (j := 16) (by decide) (by rfl) (h2.f.setpc g)
 have z1 := h1.size
 have z2 := h2.size
 have z3 := h3.size
 obtain ⟨T1, e1⟩ : ∃ T1, T.setIfInBounds 14 (.int .u64 t.pc) = T1 := ⟨_, rfl⟩
 rw [e1] at h1 h2 h3 z1 z2 z3
 obtain ⟨T2, e2⟩ : ∃ T2, T1.setIfInBounds 15 (.int .u64 why) = T2 := ⟨_, rfl⟩
 rw [e2] at h2 h3 z2 z3
 obtain ⟨T3, e3⟩ : ∃ T3, T2.setIfInBounds 16 (.int .u64 g) = T3 := ⟨_, rfl⟩
 rw [e3] at h3 z3
 have on3 := h3.one
 replace e1 : Hid _ := e1
 replace e2 : Hid _ := e2
 replace e3 : Hid _ := e3
 have hi14 : ∀ W B, (Instr.indexAt 37 (.pointer (some ⟨B, 0, none⟩)) (.int .i64 14)).run prog W = .ok (.pointer (some ⟨B, 14, none⟩)) W := fun W B => qFz (i := 14) (by decide) W
 have hi15 : ∀ W B, (Instr.indexAt 37 (.pointer (some ⟨B, 0, none⟩)) (.int .i64 15)).run prog W = .ok (.pointer (some ⟨B, 15, none⟩)) W := fun W B => qFz (i := 15) (by decide) W
 go_enter func38, ntmps38
 go_wp2_with (first
  | go_skip
  | (with_reducible refine qdz rfl _ _ rfl T rfl ?_; intro B W hB hb hk)
  | ((with_reducible refine qcz rfl _ rfl zT xsz ?_); intro R W1 hB1 hR hk1; have hne : Hid (B ≠ R ∧ w.heap.size ≤ B ∧ w.heap.size ≤ R) := (by have := hB1.out; have := hB.out; have := hk1.size; exact ⟨by omega, by omega, by omega⟩); replace hb := hb.next hk1; replace hk := btz hk hk1)
  | (with_reducible refine qaz (by kernel_rfl) _ _ rfl B _ rfl _ _ hb _ hpc (by assumption) ?_)
  | (with_reducible refine klz (by kernel_rfl) 37 _ _ rfl _ _ rfl rfl _ (hi14 _ _) ?_)
  | (with_reducible refine klz (by kernel_rfl) 37 _ _ rfl _ _ rfl rfl _ (hi15 _ _) ?_)
  | ((with_reducible refine qkz rfl 22 _ _ rfl B 14 rfl (.int .u64 t.pc) rfl rfl T _ hb (by kernel_rfl) (by rw [hsz]; decide) rfl ?_); intro W2 hb2 o2; rw [e1.out] at hb2; replace hR := hR.other o2 hne.out.1.symm; replace hk := o2.below _ _ hne.out.2.1 hk)
  | ((with_reducible refine qkz rfl 22 _ _ rfl B 15 rfl (.int .u64 why) rfl rfl T1 _ hb2 (by kernel_rfl) (by rw [z1]; decide) rfl ?_); intro W3 hb3 o3; rw [e2.out] at hb3; replace hR := hR.other o3 hne.out.1.symm; replace hk := o3.below _ _ hne.out.2.1 hk)
  | ((with_reducible refine qkz rfl 22 _ _ rfl B 16 rfl (.int .u64 g) rfl rfl T2 _ hb3 (by kernel_rfl) (by rw [z2]; decide) rfl ?_); intro W4 hb4 o4; rw [e3.out] at hb4; replace hR := hR.other o4 hne.out.1.symm; replace hk := o4.below _ _ hne.out.2.1 hk)
  | (with_reducible refine qfz rfl _ _ rfl B rfl _ hb4 _ underlying46 rfl (qMz z3) ?_)
  | ((with_reducible refine qbz rfl _ _ _ rfl R rfl T3 rfl zT hR (qMz z3) (wEz.trans z3.symm) on3 ?_); intro W5 hR5 o5))
 exact bodyPost_ret (v := .agg T3) (res46 results38 rfl hR5 z3) rfl ⟨_, rfl, h3, o5.below _ _ hne.out.2.2 hk⟩
theorem ThD.news {w w' : World} (h : ThD (LtN w) w T t) (k : Below w.heap.size w w') : ThD (LtN w') w' T t := h.next k
theorem gfz {w : World} {why : Int} (h : ThD (LtN w) w T t) (hs : SmT t) : Calls prog 15 #[.agg T, .int .u64 why] w fun e w' => ∃ T', e = .returned (.agg T') ∧ ThD (New w w') w' T' (flT t why) ∧ Below w.heap.size w w' := by
 have hsz := h.size
 have hh : T[20]? = some (.int .u64 t.handler) := h.f.handler
 have ga2 := isAgg22
 have h1 := h.put (j := 22) (by decide) (by rfl) (h.f.setstate 2)
 have z1 := h1.size
 obtain ⟨T1, e1⟩ : ∃ T1, T.setIfInBounds 22 (.int .i64 2) = T1 := ⟨_, rfl⟩
 rw [e1] at h1 z1
 replace e1 : Hid _ := e1
 by_cases h0 : t.handler = 0
 ·have hfl : Hid (flT t why = { t with state := 2 }) := by unfold flT; rw [if_pos h0]; exact rfl
  have hb0 : (t.handler == 0) = true := by simp [h0]
  have hs1 : SmT { t with state := 2 } := by rw [← hfl.out]; exact hs.fl why
  clear h0
  go_enter func15, ntmps15
  go_wp2_with (first
   | go_skip
   | (with_reducible refine qdz rfl _ _ rfl T rfl ?_; intro B W hB hb hk)
   | ((with_reducible refine qcz rfl _ rfl zT xsz ?_); intro R W1 hB1 hR hk1; have hne : Hid (B ≠ R ∧ w.heap.size ≤ B ∧ w.heap.size ≤ R ∧ R < W1.heap.size) := (by have := hB1.out; have := hB.out; have := hk1.size; exact ⟨by omega, by omega, by omega, by omega⟩); replace hb := hb.next hk1; replace hk := btz hk hk1)
   | (with_reducible refine qaz (by kernel_rfl) _ _ rfl B _ rfl _ _ hb _ hh (by assumption) ?_)
   | ((with_reducible refine qkz rfl 3 _ _ rfl B 22 rfl (.int .i64 2) rfl rfl T _ hb (by kernel_rfl) (by rw [hsz]; decide) rfl ?_); intro W2 hb2 o2; rw [e1.out] at hb2; replace hR := hR.other o2 hne.out.1.symm; replace hk := o2.below _ _ hne.out.2.1 hk; have hl2 : Hid (R < W2.heap.size) := (by rw [o2.size]; exact hne.out.2.2.2))
   | (with_reducible refine qfz rfl _ _ rfl B rfl _ hb2 _ underlying46 rfl (qMz z1) ?_)
   | (go_at_call 37; (with_reducible refine (own_v (h1.news hk) hs1).mono ?_); rintro e w3 ⟨T3, rfl, hT3, hb3⟩; replace hR := hR.next hb3; have hk2 := hk; replace hk := btz hk hb3; have z3 := hT3.size)
   | ((with_reducible refine qbz rfl _ _ _ rfl R rfl T3 rfl zT hR (qMz z3) (wEz.trans z3.symm) hT3.one ?_); intro W5 hR5 o5))
  refine bodyPost_ret (v := .agg T3) (res46 results15 rfl hR5 z3) rfl ⟨_, rfl, ?_, o5.below _ _ hne.out.2.2.1 hk⟩
  rw [hfl.out]
  exact (hT3.laterK fun b hb => o5.block b (by have := hb.1; have := hl2.out; omega)).wide fun b hb => ⟨Nat.le_trans hk2.size hb.1, by rw [o5.size]; exact hb.2⟩
 ·have hfl : Hid (flT t why = { dvT t t.handler why with handler := 0 }) := by unfold flT; rw [if_neg h0]; exact rfl
  have hb0 : (t.handler == 0) = false := by simp [h0]
  have hs1 : SmT { dvT t t.handler why with handler := 0 } := by rw [← hfl.out]; exact hs.fl why
  clear h0
  go_enter func15, ntmps15
  go_wp2_with (first
   | go_skip
   | (with_reducible refine qdz rfl _ _ rfl T rfl ?_; intro B W hB hb hk)
   | ((with_reducible refine qcz rfl _ rfl zT xsz ?_); intro R W1 hB1 hR hk1; have hne : Hid (B ≠ R ∧ w.heap.size ≤ B ∧ w.heap.size ≤ R ∧ R < W1.heap.size) := (by have := hB1.out; have := hB.out; have := hk1.size; exact ⟨by omega, by omega, by omega, by omega⟩); replace hb := hb.next hk1; replace hk := btz hk hk1)
   | (with_reducible refine qaz (by kernel_rfl) _ _ rfl B _ rfl _ _ hb _ hh (by assumption) ?_)
   | (with_reducible refine qfz rfl _ _ rfl B rfl _ hb _ underlying46 rfl (qMz hsz) ?_)
   | (go_at_call 38; (with_reducible refine (jdz (g := t.handler) (why := why) h).mono ?_); rintro e w3 ⟨T3, rfl, hT3, hb3⟩; have hl3 : Hid (R < w3.heap.size) := (by have := hne.out.2.2.2; have := hb3.size; show R < w3.heap.size; omega); replace hR := hR.next hb3; replace hb := hb.next hb3; replace hk := btz hk hb3; have z3 := hT3.size)
   | ((with_reducible refine qbz rfl _ _ _ rfl B rfl T3 rfl T hb (qMz z3) (hsz.trans z3.symm) hT3.one ?_); intro W5 hb5 o5; clear hb; replace hR := hR.other o5 hne.out.1.symm; replace hk := o5.below _ _ hne.out.2.1 hk)
   | ((with_reducible refine qkz rfl 22 _ _ rfl B 20 rfl (.int .u64 0) rfl rfl T3 _ hb5 (by kernel_rfl) (by rw [z3]; decide) rfl ?_); intro W6 hb6 o6; clear hb5; replace hR := hR.other o6 hne.out.1.symm; replace hk := o6.below _ _ hne.out.2.1 hk; replace hT3 := hT3.put (j := 20) (by decide) (by rfl) (hT3.f.sethandler 0); have z4 := hT3.size; have hl6 : Hid (R < W6.heap.size) := (by rw [o6.size, o5.size]; exact hl3.out))
   | (with_reducible refine qfz rfl _ _ rfl B rfl _ hb6 _ underlying46 rfl (qMz z4) ?_)
   | (go_at_call 37; (with_reducible refine (own_v (hT3.news hk) hs1).mono ?_); rintro e w7 ⟨T7, rfl, hT7, hb7⟩; replace hR := hR.next hb7; have hk2 := hk; replace hk := btz hk hb7; have z7 := hT7.size)
   | ((with_reducible refine qbz rfl _ _ _ rfl R rfl T7 rfl zT hR (qMz z7) (wEz.trans z7.symm) hT7.one ?_); intro W8 hR8 o8))
  refine bodyPost_ret (v := .agg T7) (res46 results15 rfl hR8 z7) rfl ⟨_, rfl, ?_, o8.below _ _ hne.out.2.2.1 hk⟩
  rw [hfl.out]
  exact (hT7.laterK fun b hb => o8.block b (by have := hb.1; have := hl6.out; omega)).wide fun b hb => ⟨Nat.le_trans hk2.size hb.1, by rw [o8.size]; exact hb.2⟩
end
section
open Go.RowKit Go.Shelf
attribute [local go_sem] Oper.semAt_some
def ruB (X : List Ob) (i : Int) : Bool := (fnd X i).isSome && (decide ((fO X i).kind = 4) && decide ((fO X i).th.state = 0))
theorem ubz {w : World} {t ke ro : Int} {ao : Option Addr} {n cap : Nat} {X : List Ob} {i : Int} (h : Obs w ao n cap X) (hs : Srt X) (hn : n < 1024) (hsm : wfz X) (hid : ∀ y ∈ X, y.id ≠ 0) (hr : ruB X i = false) : Calls prog 8 #[.agg #[.int .i64 t, .int .u64 ke, .int .u64 ro, .slice ao n cap], .int .u64 i] w fun e w' => ∃ ao2 n2 cap2, e = .returned (.tuple #[.agg #[.int .i64 t, .int .u64 ke, .int .u64 ro, .slice ao2 n2 cap2], .int .i64 (-1)]) ∧ Obs w' ao2 n2 cap2 X ∧ Below w.heap.size w w' := by
 have hzg : (prog.info? 25).map (·.size) = some (#[.int .i64 t, .int .u64 ke, .int .u64 ro, .slice ao n cap] : Array Value).size := by kernel_rfl
 have hz2 : ∀ v, (prog.info? 25).map (·.size) = some (#[.int .i64 t, .int .u64 ke, .int .u64 ro, v] : Array Value).size := fun _ => by kernel_rfl
 have hs2 : ∀ v, zW.size = (#[.int .i64 t, .int .u64 ke, .int .u64 ro, v] : Array Value).size := fun _ => rfl
 have h12 : ∀ ao n cap, (#[.int .i64 t, .int .u64 ke, .int .u64 ro, .slice ao n cap] : Array Value).all (·.oneCell') = true := fun _ _ _ => by kernel_rfl
 have ga1 := isAgg3
 have hfd := fun (W : World) (hk : Below w.heap.size w W) => jbz (t := t) (ke := ke) (ro := ro) (i := i) (quz h hk) hs (by omega) hsm
 have hdr := fun (W : World) (hk : Below w.heap.size w W) => glz (t := t) (ke := ke) (ro := ro) (i := 0) (D0 := LtN w) (fun b hb => Nat.lt_of_lt_of_le hb hk.size) (wJz h (fun _ hb => hb) hk) hs hn hsm
 rw [jAz hs (xnz.2 hid)] at hdr
 change ∀ W, Below w.heap.size w W → Calls prog _ _ W fun e w' => ∃ C', e = .returned (.tuple #[.agg C', .bool (fnd X i).isSome]) ∧ ObD (New W w') w' C' (fO X i) ∧ _ at hfd
 unfold ruB at hr
 generalize fO X i = y at hfd hr
 obtain ⟨D, hD⟩ : ∃ D : Array Value, D = #[.int .i64 t, .int .u64 ke, .int .u64 ro, .slice ao n cap] := ⟨_, rfl⟩
 rw [← hD] at hfd hzg hdr
 rw [← hD]
 clear hD
 have hcase : ((fnd X i).isSome = false) ∨ ((fnd X i).isSome = true ∧ (y.kind != 4) = true) ∨ ((fnd X i).isSome = true ∧ (y.kind != 4) = false ∧ (y.th.state != 0) = true) := by
  cases h1 : (fnd X i).isSome with
  | false => exact .inl rfl
  | true =>
   rw [h1, Bool.true_and] at hr
   by_cases h2 : y.kind = 4
   ·rw [decide_eq_true h2, Bool.true_and] at hr
    exact .inr (.inr ⟨rfl, by simp [h2], by simpa using hr⟩)
   ·exact .inr (.inl ⟨rfl, by simpa using h2⟩)
 clear hr
 rcases hcase with h1 | ⟨h1, h2⟩ | ⟨h1, h2, h3⟩
 all_goals rw [h1] at hfd
 all_goals clear h1
 all_goals go_enter func8, ntmps8
 all_goals go_wp2_with (first
  | go_skip
  | (with_reducible refine qdz rfl 25 _ rfl D rfl ?_; intro B V1 hNB hB hk)
  | ((with_reducible refine qcz rfl 25 rfl zW wzz ?_); intro R V3 hNR hR hk3; replace hB := hB.next hk3; replace hk := btz hk hk3; clear hk3)
  | (with_reducible refine qez (by with_unfolding_all rfl) 25 _ rfl B rfl D hB _ underlying25 (by kernel_rfl) hzg ?_)
  | (go_at_call 16; (with_reducible refine (hfd _ hk).mono ?_); rintro e w5 ⟨C', rfl, oC', hb5, _⟩; replace hB := hB.next hb5; have hRl : Hid (R < w5.heap.size) := (by have := hR.lt; have := hb5.size; show R < w5.heap.size; omega); replace hR := hR.next hb5; replace hk := btz hk hb5; have zC' := oC'.size; have e1 := oC'.kind; have e3 : C'[30]? = some (.int .i64 y.th.state) := oC'.th.state; have on := oC'.one; clear hfd oC' hb5)
  | ((with_reducible refine qcz rfl 50 rfl zC qsz ?_); intro P W6 hN6 hP hk6; have hPl : Hid (w.heap.size ≤ P ∧ R ≠ P ∧ B ≠ P) := (by have := hN6.out; have := hk.size; have := hR.lt; have := hB.lt; exact ⟨by omega, by omega, by omega⟩); replace hB := hB.next hk6; replace hR := hR.next hk6; replace hk := btz hk hk6)
  | ((with_reducible refine qbz rfl 50 _ _ rfl P rfl C' rfl zC hP (qhz zC') (qmz.trans zC'.symm) on ?_); intro W7 hP7 q7; replace hB := hB.other q7 hPl.out.2.2; replace hR := hR.other q7 hPl.out.2.1; replace hk := q7.below _ _ hPl.out.1 hk; clear q7)
  | (with_reducible refine qaz (by with_unfolding_all rfl) _ _ rfl P _ rfl _ _ hP7 _ e1 ga1 ?_)
  | (with_reducible refine qaz (by with_unfolding_all rfl) _ _ rfl P _ rfl _ _ hP7 _ e3 ga1 ?_)
  | (go_at_call 17; (with_reducible refine (hdr _ hk).mono ?_); rintro e w8 ⟨ao2, n2, cap2, rfl, p8, hb8⟩; have nR8 : Hid (R < _) := hR.lt; have h8s : Hid (_ ≤ w8.heap.size) := hb8.size; replace hR := hR.next hb8; replace hk := btz hk hb8)
  | ((with_reducible refine qbz rfl 25 _ _ rfl R rfl #[.int .i64 t, .int .u64 ke, .int .u64 ro, .slice ao2 n2 cap2] rfl zW hR (hz2 _) (hs2 _) (h12 _ _ _) ?_); intro V9 hR9 q9))
 all_goals
  have hRw : w.heap.size ≤ R := by have := hNB.out; have := hNR.out; omega
  exact bodyPost_ret (v := .tuple #[.agg #[.int .i64 t, .int .u64 ke, .int .u64 ro, .slice ao2 n2 cap2], .int .i64 (-1)]) (jVz results8 rfl rfl hR9 rfl) rfl ⟨ao2, n2, cap2, rfl, uNz p8 (fun b hb => by
   have h1 := nR8.out
   have h2 := h8s.out
   rcases hb with hb | hb
   ·have h3 : b < w.heap.size := hb
    exact ⟨by omega, by omega⟩
   ·have h3 := hb.1
    have h4 := hb.2
    exact ⟨by omega, by omega⟩) nR8.out q9, q9.below _ _ hRw hk⟩
end
end Go.Proofs.YtdeddhojjolihaaGreat
