/-
 PROVED HERE: what law 19's unlike returns when it is called: how many words are unlike, or -1 (a contract over this transla. What is asked stands at each.
-/
import Derived.BigQuiet
import Derived.Test.YtdeddhojjolihaaGreatZ18
import Derived.Test.YtdeddhojjolihaaGreatZ38
import Derived.Test.YtdeddhojjolihaaGreatZ42
import Derived.Test.YtdeddhojjolihaaGreatZ53
namespace Go.Proofs.YtdeddhojjolihaaGreat
set_option maxRecDepth 100000
set_option maxHeartbeats 8000000
set_option linter.unusedVariables false
open Go.Proofs.Tryz
section
open Go.RowKit Go.Shelf
attribute [local go_sem] Oper.semAt_some
theorem yjz (w : World) (n : Nat) : Below w.heap.size w (w.drewN n) := ⟨rfl, rfl, rfl, Nat.le_refl _, fun _ _ => rfl⟩
theorem unlike_v {w : World} {ao ao' : Option Addr} {n cap n' cap' : Nat} {C D : List Int} (h : CtD (LtN w) w ao n cap C) (h' : CtD (LtN w) w ao' n' cap' D) (hn32 : n < 4294967296) : Calls prog 14 #[.slice ao n cap, .slice ao' n' cap'] w fun e w' => e = .returned (.int .i64 (if n = n' then (unlN C D n : Int) else -1)) ∧ Below w.heap.size w w' := by
 by_cases hn : n = n'
 ·subst hn
  rw [if_pos rfl]
  have hnn : ¬ ¬ ((n : Int) = (n : Int)) := fun q => q rfl
  go_enter func14, ntmps14
  go_wp2
  go_loopw [5, 14] (fun v j wr => ∃ k : Nat, k ≤ n ∧ v = .int .i64 (unlN C D k : Int) ∧ j = .int .i64 k ∧ Below w.heap.size w wr) (fun _ j _ => n - (intOf j).toNat)
  case atStart => exact ⟨0, Nat.zero_le _, rfl, rfl, Below.refl _ _⟩
  case round =>
   obtain ⟨k, hkn1, rfl, rfl, hk⟩ := hrel
   by_cases hkn : k < n
   ·have hkn' : (k : Int) < n := by omega
    obtain ⟨b, off, rfl, hb, hc⟩ := jCz h hkn
    obtain ⟨b', off', rfl, hb', hc'⟩ := jCz h' hkn
    replace hc := (hk.cell (p := ⟨b, off + k, none⟩) hb).trans hc
    replace hc' := (hk.cell (p := ⟨b', off' + k, none⟩) hb').trans hc'
    have hu := unl_le C D k
    by_cases e : C.getD k 0 = D.getD k 0
    ·have h1 : unlN C D (k + 1) = unlN C D k := by show _ + (if _ then 0 else 1) = _; rw [if_pos e]; rfl
     rw [e] at hc
     generalize D.getD k 0 = y at hc hc'
     go_wp2
     go_quiet (fail)
     go_wp2
     go_roundw
     case rel => exact ⟨k + 1, by omega, by rw [h1], by go_num, hk.trans ((yjz wr _).mono hk.size)⟩
     case measure => simp [intOf]; omega
    ·have h1 : unlN C D (k + 1) = unlN C D k + 1 := by show _ + (if _ then 0 else 1) = _; rw [if_neg e]
     generalize C.getD k 0 = x at hc e
     generalize D.getD k 0 = y at hc' e
     go_wp2
     go_quiet (fail)
     go_wp2
     go_roundw
     case rel => exact ⟨k + 1, by omega, by rw [h1]; go_num, by go_num, hk.trans ((yjz wr _).mono hk.size)⟩
     case measure => simp [intOf]; omega
   ·obtain rfl : k = n := by omega
    go_wp2
    go_ret
    exact ⟨rfl, hk⟩
 ·rw [if_neg hn]
  have hnn : ¬ ((n : Int) = (n' : Int)) := fun q => hn (by omega)
  go_enter func14, ntmps14
  go_wp2
  go_ret
  exact ⟨rfl, Below.refl _ _⟩
end
section
open Go.RowKit Go.Shelf
def pk (i : Nat) : Prop := (8 ≤ i ∧ i ≤ 24) ∨ i = 28 ∨ i = 29 ∨ i = 30 ∨ i = 36
instance (i : Nat) : Decidable (pk i) := by unfold pk; infer_instance
theorem rs_ob {D : Nat → Prop} {W : World} {C C0 C' : Array Value} {z x : Ob} (hC : ObD D W C z) (hx : ObD D W C0 x) (hs : C'.size = 51) (h : ∀ i, C'[i]? = if pk i then C0[i]? else C[i]?) : ObD D W C' (rsO z x) := by
 have n : ∀ i, ¬ pk i → C'[i]? = C[i]? := fun i q => by rw [h, if_neg q]
 have y : ∀ i, pk i → C'[i]? = C0[i]? := fun i q => by rw [h, if_pos q]
 refine ⟨hs, wyz fun j v e => ?_, by rw [n 0 (by unfold pk; omega)]; exact hC.id, by rw [n 1 (by unfold pk; omega)]; exact hC.kind, by rw [n 2 (by unfold pk; omega)]; exact hC.label, by rw [n 3 (by unfold pk; omega)]; exact hC.quota, by rw [n 4 (by unfold pk; omega)]; exact hC.fixed, by rw [n 5 (by unfold pk; omega)]; exact hC.links, by rw [n 6 (by unfold pk; omega)]; exact hC.data, by rw [n 7 (by unfold pk; omega)]; exact hC.maps, ?_, hC.gt.congr fun i hi => (n (43 + i) (by unfold pk; omega)).symm, by rw [n 49 (by unfold pk; omega)]; exact hC.inn, by rw [n 50 (by unfold pk; omega)]; exact hC.out⟩
 ·by_cases q : pk j
  ·rw [y j q] at e; exact q2z hx.one e
  ·rw [n j q] at e; exact q2z hC.one e
 ·have a := hx.th
  have b := hC.th
  exact ⟨a.rlen, fun i hi => (y (8 + i) (by unfold pk; omega)).trans (a.regs i hi), (y 24 (by unfold pk; omega)).trans a.pc, by show LbV D W (C'[25]?) _; rw [n 25 (by unfold pk; omega)]; exact b.clear, (n 26 (by unfold pk; omega)).trans b.sc, (n 27 (by unfold pk; omega)).trans b.si, (y 28 (by unfold pk; omega)).trans a.handler, (y 29 (by unfold pk; omega)).trans a.vector, (y 30 (by unfold pk; omega)).trans a.state, (n 31 (by unfold pk; omega)).trans b.wc, (n 32 (by unfold pk; omega)).trans b.wi, (n 33 (by unfold pk; omega)).trans b.wx, (n 34 (by unfold pk; omega)).trans b.wv, (n 35 (by unfold pk; omega)).trans b.wd, by show CtV D W (C'[36]?) _; rw [y 36 (by unfold pk; omega)]; exact a.alerts, (n 37 (by unfold pk; omega)).trans b.lo, (n 38 (by unfold pk; omega)).trans b.hi, by show LbV D W (C'[39]?) _; rw [n 39 (by unfold pk; omega)]; exact b.l0, by show LbV D W (C'[40]?) _; rw [n 40 (by unfold pk; omega)]; exact b.l1, by show LbV D W (C'[41]?) _; rw [n 41 (by unfold pk; omega)]; exact b.l2, by show LbV D W (C'[42]?) _; rw [n 42 (by unfold pk; omega)]; exact b.l3⟩
theorem part_at {C C0 : Array Value} (h : C.size = 51) (h0 : C0.size = 51) : (C.extract 0 8 ++ C0.extract 8 (8 + 16) ++ C.extract (8 + (C0.extract 8 (8 + 16)).size) C.size).size = 51 ∧ ∀ i, (C.extract 0 8 ++ C0.extract 8 (8 + 16) ++ C.extract (8 + (C0.extract 8 (8 + 16)).size) C.size)[i]? = if 8 ≤ i ∧ i < 24 then C0[i]? else C[i]? := by
 have e : (C0.extract 8 (8 + 16)).size = 16 := by simp [h0]
 rw [e]
 refine ⟨by simp [h, h0], fun i => ?_⟩
 rw [Array.getElem?_append, Array.getElem?_append]
 have z1 : (C.extract 0 8).size = 8 := by simp [h]
 rw [Array.size_append, z1, e]
 by_cases h1 : i < 8
 ·rw [if_pos (by omega), if_pos h1, if_neg (by omega), Array.getElem?_extract, if_pos (by omega), Nat.zero_add]
 ·by_cases h2 : i < 24
  ·rw [if_pos (by omega), if_neg h1, if_pos (by omega), Array.getElem?_extract, if_pos (by omega)]
   congr 1; omega
  ·rw [if_neg (by omega), if_neg (by omega), Array.getElem?_extract, h]
   by_cases h3 : i < 51
   ·rw [if_pos (by omega)]; congr 1; omega
   ·rw [if_neg (by omega), Array.getElem?_eq_none (by omega)]
theorem rs_at {C C0 C1 : Array Value} {v1 v2 v3 v4 v5 : Value} (hz : C1.size = 51) (h1 : ∀ i, C1[i]? = if 8 ≤ i ∧ i < 24 then C0[i]? else C[i]?) (e1 : C0[24]? = some v1) (e2 : C0[28]? = some v2) (e3 : C0[29]? = some v3) (e4 : C0[30]? = some v4) (e5 : C0[36]? = some v5) :
  (((((C1.setIfInBounds 24 v1).setIfInBounds 28 v2).setIfInBounds 29 v3).setIfInBounds 30 v4).setIfInBounds 36 v5).size = 51 ∧ ∀ i, (((((C1.setIfInBounds 24 v1).setIfInBounds 28 v2).setIfInBounds 29 v3).setIfInBounds 30 v4).setIfInBounds 36 v5)[i]? = if pk i then C0[i]? else C[i]? := by
 refine ⟨by simp [hz], fun i => ?_⟩
 rw [qwz (by simp [hz]), qwz (by simp [hz]), qwz (by simp [hz]), qwz (by simp [hz]), qwz (by simp [hz]), h1]
 by_cases q5 : 36 = i
 ·subst q5; rw [if_pos rfl, if_pos (by unfold pk; omega), e5]
 by_cases q4 : 30 = i
 ·subst q4; rw [if_neg q5, if_pos rfl, if_pos (by unfold pk; omega), e4]
 by_cases q3 : 29 = i
 ·subst q3; rw [if_neg q5, if_neg q4, if_pos rfl, if_pos (by unfold pk; omega), e3]
 by_cases q2 : 28 = i
 ·subst q2; rw [if_neg q5, if_neg q4, if_neg q3, if_pos rfl, if_pos (by unfold pk; omega), e2]
 by_cases q1 : 24 = i
 ·subst q1; rw [if_neg q5, if_neg q4, if_neg q3, if_neg q2, if_pos rfl, if_pos (by unfold pk; omega), e1]
 rw [if_neg q5, if_neg q4, if_neg q3, if_neg q2, if_neg q1]
 by_cases q : 8 ≤ i ∧ i < 24
 ·rw [if_pos q, if_pos (by unfold pk; omega)]
 ·rw [if_neg q, if_neg (by unfold pk; omega)]
def lU (r : Option (Array Bool × Act × List Obl)) : Array Bool := match r with | some r => r.1 | none => #[]
def aU (r : Option (Array Bool × Act × List Obl)) : Act := match r with | some r => r.2.1 | none => { tmps := #[], defers := [] }
theorem wHz {P : Program} {md : Region.Mode} {ops : Array Oper} {Q : Exit → Act → World → Prop} {S : World → Prop} {w : World} (hs : Region.noSelect ops = true) (hQ : ∀ c a d v w, Q (.panic c) (Act.put a (some d) v) w → Q (.panic c) a w) (hS : S w) (gs : List (Nat × Option Value)) {l : Array Bool} {a : Act} {obs : List Obl} {n m : Nat} (hm : m = n + gs.length) (h : (symN P md ops gs l a).map (fun r => r.2.2) = some obs) (k : Obls P S obs) (q : wpAnyH P md ops Q S n (lU (symN P md ops gs l a)) (aU (symN P md ops gs l a)) w) : wpAnyH P md ops Q S m l a w := by
 cases e : symN P md ops gs l a with
 | none => rw [e] at h; cases h
 | some r =>
  obtain ⟨l', a', obs'⟩ := r
  rw [e] at h q
  cases h
  exact qoz hs hQ hS gs hm e k q
end
section
open Go.RowKit Go.Shelf
attribute [local go_sem] Oper.semAt_some
theorem blt_w0 : prog.built 25 [] = some #[.int .i64 0, .int .u64 0, .int .u64 0, .slice none 0 0] := by kernel_rfl
theorem blt_t0 : prog.built 46 [] = some zT := by kernel_rfl
theorem zT_d (D : Nat → Prop) (w : World) : ThD D w zT zTh := ⟨wEz, zT_one, zTh_f D w⟩
theorem zT_sm : SmT zTh := ⟨by decide, by decide, by decide, by decide, by decide, by decide⟩
theorem gbz {T : Array Value} {v : Int} (h : T[22]? = some (.int .i64 v)) (w : World) : (Instr.field 46 (.agg T) 6).run prog w = .ok (.int .i64 v) w := by
 have hu := underlying46
 have ga := isAgg3
 unfold Instr.field
 simp [run_underlying hu, asAgg, ga, h, go_sem]
section
variable {P : Program} {ops : Array Oper} {rest : List Oper} {op : Oper} {a : Act} {Q : Exit → Act → World → Prop} {w : World}
theorem jIz (hw : Region.wanted op (yielded ops a.tmps) = true) (ty : TypeId) (x : Operand) (k : Nat) (ho : op.op = .field ty x k) (u : Value) (hx : a.eval x = u) (r : Value) (hr : (Instr.field ty u k).run P w = .ok r w) (h : wpList P ops Q rest (a.put op.dst r) w) : wpList P ops Q (op :: rest) a w := by
 refine qXz hw ?_ h
 unfold execOp
 simp [ho, hx, hr]
end
theorem wNz (w : World) : Calls prog 7 #[] w fun e w' => e = .returned (.bool true) ∧ Below w.heap.size w w' := by
 have hz2 : ∀ v, (prog.info? 25).map (·.size) = some (#[.int .i64 0, .int .u64 0, .int .u64 0, v] : Array Value).size := fun _ => by kernel_rfl
 have hs2 : ∀ v, zW.size = (#[.int .i64 0, .int .u64 0, .int .u64 0, v] : Array Value).size := fun _ => rfl
 have h12 : ∀ ao n cap, (#[.int .i64 0, .int .u64 0, .int .u64 0, .slice ao n cap] : Array Value).all (·.oneCell') = true := fun _ _ _ => by kernel_rfl
 have hk0 := Below.refl w.heap.size w
 have hst := fun W : World => ubz (t := 0) (ke := 0) (ro := 0) (i := 5) (ObsD.nil (LtN W) (LtN W) W) List.Pairwise.nil (by decide) (fun x hx => absurd hx (by simp)) (fun x hx => absurd hx (by simp)) rfl
 have hfl := fun W : World => gfz (why := 1) (zT_d (LtN W) W) zT_sm
 go_enter func7, ntmps7
 go_wp2_with (first
  | go_skip
  | ((with_reducible refine qvz rfl 25 [] rfl #[.int .i64 0, .int .u64 0, .int .u64 0, .slice none 0 0] ?hf ?_); (case hf => exact blt_w0))
  | (go_at_call 8; (with_reducible refine (hst _).mono ?_); rintro e w1 ⟨ao2, n2, cap2, rfl, _, hb1⟩; have hk1 := btz hk0 hb1; clear hb1 hst)
  | ((with_reducible refine qcz rfl 25 rfl zW wzz ?_); intro P W2 hN hP hk2; have hPl : Hid (w.heap.size ≤ P) := (by have := hN.out; have := hk1.size; show w.heap.size ≤ P; omega); replace hk1 := btz hk1 hk2)
  | ((with_reducible refine qbz rfl 25 _ _ rfl P rfl #[.int .i64 0, .int .u64 0, .int .u64 0, .slice ao2 n2 cap2] rfl zW hP (hz2 _) (hs2 _) (h12 _ _ _) ?_); intro W3 hP3 q3; replace hk1 := q3.below _ _ hPl.out hk1; clear q3)
  | ((with_reducible refine jgz (by with_unfolding_all rfl) 46 [] rfl zT ?hf ?_); (case hf => exact blt_t0))
  | (go_at_call 15; (with_reducible refine (hfl _).mono ?_); rintro e w4 ⟨T', rfl, hT, hb4⟩; have hk4 := btz hk1 hb4; have hs4 : T'[22]? = some (.int .i64 2) := hT.f.state)
  | (with_reducible refine jIz (by kernel_rfl) 46 _ 6 rfl (.agg T') rfl (.int .i64 2) (gbz hs4 _) ?_))
 go_ret
 exact ⟨rfl, hk4⟩
end
end Go.Proofs.YtdeddhojjolihaaGreat
