/-
 PROVED HERE: plain words for segments, and what package seg's room and the document's room return when they are called (con. What is asked stands at each.
-/
import Derived.Laws.CopyOwn
import Derived.Deep.RegionLaw
import Derived.Test.YtdeddhojjolihaaGreatZ9
import Derived.Test.YtdeddhojjolihaaGreatZ12
import Derived.Test.YtdeddhojjolihaaGreatZ13
import Derived.Test.YtdeddhojjolihaaGreatZ17
import Derived.Test.YtdeddhojjolihaaGreatZ18
import Derived.Test.YtdeddhojjolihaaGreatZ25
import Derived.Test.YtdeddhojjolihaaGreatZ26
namespace Go.Proofs.YtdeddhojjolihaaGreat
set_option maxRecDepth 100000
set_option maxHeartbeats 8000000
set_option linter.unusedVariables false
open Go.Proofs.Tryz
section
open Go.RowKit Go.Shelf
attribute [local go_sem] Oper.semAt_some
def ws (L : List Int) (a n : Nat) : List Int := (List.range n).map fun i => L.getD (a + i) 0
theorem ws_len (L : List Int) (a n : Nat) : (ws L a n).length = n := by unfold ws; simp
def wpl (x : Ob) (p : Int) : Int := if x.kind = 1 then (if (x.data.length : Int) ≤ p then 13 else 0) else 3
def pgL (x : Ob) (n : Int) : List Int := if x.kind = 1 ∧ 0 ≤ n then ws x.data (16 * n.toNat) 16 else List.replicate 16 0
end
section
open Go.RowKit Go.Shelf
attribute [local go_sem] Oper.semAt_some
theorem wSz {w : World} {C : Array Value} {x : Ob} (h : ObD (LtN w) w C x) {p : Nat} (hp : p < 18446744073709551616) : Calls prog 154 #[.agg C, .int .u64 (p : Int)] w fun e w' => e = .returned (.int .i64 (wpl x p)) ∧ Below w.heap.size w w' := by
 have ga2 := isAgg3
 have ga4 := isAgg35
 have hki := h.kind
 have hz := h.size
 obtain ⟨a6, n6, c6, e6, l6⟩ := h.data
 have hn6 : Hid (x.data.length = n6) := l6.1
 have hc6 : n6 < 9223372036854775808 := by have := l6.2.1; have := l6.2.2.1.1; omega
 clear l6 h
 unfold wpl
 rw [hn6.out]
 by_cases h1 : x.kind = 1
 ·rw [h1] at hki
  rw [if_pos h1]
  go_enter func154, ntmps154
  go_wp2_with (first
   | (with_reducible refine qdz rfl _ _ rfl C rfl ?_; intro B W hB hb hk)
   | (with_reducible refine qaz (by kernel_rfl) _ _ rfl B 1 rfl _ _ hb _ hki ga2 ?_)
   | (with_reducible refine qaz (by kernel_rfl) _ _ rfl B 6 rfl _ _ hb _ e6 ga4 ?_))
  all_goals go_ret
  all_goals exact ⟨rfl, hk⟩
 ·rw [if_neg h1]
  have h1' : (x.kind == 1) = false := by simpa using h1
  go_enter func154, ntmps154
  go_wp2_with (first
   | (with_reducible refine qdz rfl _ _ rfl C rfl ?_; intro B W hB hb hk)
   | (with_reducible refine qaz (by kernel_rfl) _ _ rfl B 1 rfl _ _ hb _ hki ga2 ?_)
   | (with_reducible refine qaz (by kernel_rfl) _ _ rfl B 6 rfl _ _ hb _ e6 ga4 ?_))
  all_goals go_ret
  all_goals exact ⟨rfl, hk⟩
def gtV (x : Ob) (p : Nat) : Int := if wpl x p = 0 then x.data.getD p 0 else 0
theorem xDz (x : Ob) (p : Nat) : wpl x p = 0 ∧ x.kind = 1 ∧ p < x.data.length ∨ ¬ wpl x p = 0 ∧ ¬ (x.kind = 1 ∧ p < x.data.length) := by
 unfold wpl
 by_cases h1 : x.kind = 1
 ·rw [if_pos h1]
  by_cases h2 : (x.data.length : Int) ≤ p
  ·rw [if_pos h2]; exact .inr ⟨by omega, fun q => by omega⟩
  ·rw [if_neg h2]; exact .inl ⟨rfl, h1, by omega⟩
 ·rw [if_neg h1]; exact .inr ⟨by omega, fun q => h1 q.1⟩
theorem sget_any {w : World} {C : Array Value} {x : Ob} (h : ObD (LtN w) w C x) {p : Nat} (hp : p < 18446744073709551616) : Calls prog 141 #[.agg C, .int .u64 (p : Int)] w fun e w' => e = .returned (.tuple #[.int .u64 (gtV x p), .int .i64 (wpl x p)]) ∧ Below w.heap.size w w' := by
 have ga2 := isAgg3
 have ga4 := isAgg35
 have hki := h.kind
 have hz := h.size
 obtain ⟨a6, n6, c6, e6, l6⟩ := h.data
 have hn6 : Hid (x.data.length = n6) := l6.1
 have hc6 : n6 < 9223372036854775808 := by have := l6.2.1; have := l6.2.2.1.1; omega
 obtain ⟨r, hr⟩ : ∃ r, wpl x p = r := ⟨_, rfl⟩
 unfold gtV
 rw [hr]
 rcases xDz x p with ⟨h1, h2, h3⟩ | ⟨h1, h2⟩
 ·have hp6 : p < n6 := by rw [← hn6.out]; exact h3
  obtain ⟨b, off, rfl, hbl, hcl⟩ := l6.2.2.2 (by omega)
  have hce := hcl p hp6
  have hp6' : (p : Int) < n6 := by omega
  have hpe : Hid ((p : Int).toNat = p) := by show _ = _; omega
  rw [hr] at h1
  subst h1
  rw [if_pos rfl]
  obtain ⟨u, hu⟩ : ∃ u, x.data.getD p 0 = u := ⟨_, rfl⟩
  rw [hu] at hce ⊢
  clear hcl l6
  go_enter func141, ntmps141
  go_wp2_with (first
   | (with_reducible refine qdz rfl _ _ rfl C rfl ?_; intro B W hB hb hk)
   | (with_reducible refine qfz rfl _ _ rfl B rfl _ hb _ underlying50 rfl (qhz hz) ?_)
   | (go_at_call 154; (with_reducible refine (wSz (h.next hk) hp).mono ?_); rintro e w1 ⟨rfl, hk1⟩; replace hb := hb.next hk1; replace hk := btz hk hk1; simp only [hr]; have hce1 : w1.cell? ⟨b, off + p, none⟩ = some (.int .u64 u) := (hk.cell (p := ⟨b, off + p, none⟩) hbl).trans hce)
   | (with_reducible refine qaz (by kernel_rfl) _ _ rfl B 6 rfl _ _ hb _ e6 ga4 ?_))
  exact bodyPost_ret (results_tmp2 results141 _ _ _) rfl ⟨rfl, hk⟩
 ·rw [hr] at h1
  have h1' : (r == 0) = false := by simpa using h1
  rw [if_neg h1]
  go_enter func141, ntmps141
  go_wp2_with (first
   | (with_reducible refine qdz rfl _ _ rfl C rfl ?_; intro B W hB hb hk)
   | (with_reducible refine qfz rfl _ _ rfl B rfl _ hb _ underlying50 rfl (qhz hz) ?_)
   | (go_at_call 154; (with_reducible refine (wSz (h.next hk) hp).mono ?_); rintro e w1 ⟨rfl, hk1⟩; replace hb := hb.next hk1; replace hk := btz hk hk1; simp only [hr])
   | (with_reducible refine qaz (by kernel_rfl) _ _ rfl B 6 rfl _ _ hb _ e6 ga4 ?_))
  exact bodyPost_ret (results_tmp2 results141 _ _ _) rfl ⟨rfl, hk⟩
end
section
open Go.RowKit Go.Shelf
attribute [local go_sem] Oper.semAt_some
def zP : Array Value := #[.int .u64 0, .int .u64 0, .int .u64 0, .int .u64 0, .int .u64 0, .int .u64 0, .int .u64 0, .int .u64 0, .int .u64 0, .int .u64 0, .int .u64 0, .int .u64 0, .int .u64 0, .int .u64 0, .int .u64 0, .int .u64 0]
theorem sizeU : (prog.info? 22).map (·.size) = some 1 := by kernel_rfl
def pgC (x : Ob) (n : Int) : Array Value := (qKz (pgL x n)).toArray
theorem vAz (x : Ob) (n : Int) : (pgL x n).length = 16 := by unfold pgL; split; exact ws_len _ _ _; simp
theorem pgC_size (x : Ob) (n : Int) : (pgC x n).size = 16 := by unfold pgC qKz; simp [vAz]
end
section
open Go.RowKit Go.Shelf
attribute [local go_sem] Oper.semAt_some
def PgK (x : Ob) (n : Int) (k : Nat) (A : Array Value) : Prop := A.size = 16 ∧ ∀ i, i < 16 → A[i]? = some (.int .u64 (if i < k then (pgL x n).getD i 0 else 0))
theorem PgK.zero (x : Ob) (n : Int) : PgK x n 0 zP := ⟨rfl, fun i hi => by
 rw [if_neg (by omega)]
 rcases i with _ | _ | _ | _ | _ | _ | _ | _ | _ | _ | _ | _ | _ | _ | _ | _ | i
 all_goals first | rfl | (exfalso; omega)⟩
theorem PgK.all {x : Ob} {n : Int} {A : Array Value} (h : PgK x n 16 A) : A = pgC x n := by
 apply Array.ext_getElem?
 intro i
 by_cases hi : i < 16
 ·rw [h.2 i hi, if_pos hi]
  unfold pgC qKz
  rw [List.getElem?_toArray, List.getElem?_map, List.getElem?_eq_getElem (by rw [vAz]; exact hi), List.getD_eq_getElem?_getD, List.getElem?_eq_getElem (by rw [vAz]; exact hi)]; rfl
 ·rw [Array.getElem?_eq_none (by rw [h.1]; omega), Array.getElem?_eq_none (by rw [pgC_size]; omega)]
theorem PgK.set {x : Ob} {n : Int} {k : Nat} {A : Array Value} {u : Int} (h : PgK x n k A) (hk : k < 16) (hu : (pgL x n).getD k 0 = u) : PgK x n (k + 1) (A.setIfInBounds k (.int .u64 u)) := by
 refine ⟨by simpa using h.1, fun i hi => ?_⟩
 rw [qwz (by rw [h.1]; exact hk)]
 by_cases e : k = i
 ·subst e
  rw [if_pos rfl, if_pos (by omega), hu]
 ·rw [if_neg e, h.2 i hi]
  by_cases q : i < k
  ·rw [if_pos q, if_pos (by omega)]
  ·rw [if_neg q, if_neg (by omega)]
end
section
open Go.RowKit Go.Shelf
attribute [local go_sem] Oper.semAt_some
theorem CtD.take {D : Nat → Prop} {w : World} {ao : Option Addr} {n cap m : Nat} {L : List Int} (h : CtD D w ao n cap L) (hm : m ≤ n) : CtD D w ao m cap (L.take m) := by
 refine ⟨by rw [List.length_take, h.1]; omega, Nat.le_trans hm h.2.1, h.2.2.1, fun h0 => ?_⟩
 obtain ⟨b, off, e, hb, hc⟩ := h.2.2.2 (by omega)
 refine ⟨b, off, e, hb, fun i hi => ?_⟩
 rw [hc i (by omega)]
 rw [List.getD_eq_getElem?_getD, List.getD_eq_getElem?_getD, List.getElem?_take_of_lt hi]
end
section
open Go.RowKit Go.Shelf
attribute [local go_sem] Oper.semAt_some
theorem yfz (ao : Option Addr) (n c : Nat) : prog.built 25 [(3, .slice ao n c)] = some #[.int .i64 0, .int .u64 0, .int .u64 0, .slice ao n c] := by kernel_rfl
theorem srt_one (x : Ob) : Srt [x] := by unfold Srt; simp
theorem fnd_one (x : Ob) : fnd [x] x.id = some x := by unfold fnd; simp
def Alo (w w' : World) (C' : Array Value) (x : Ob) : Prop := ObD (New w w') w' C' x ∧ ∃ M, LbV (fun b => New w w' b ∧ b < M) w' C'[2]? x.label ∧ (∃ ao n cap, C'[6]? = some (.slice ao n cap) ∧ w'.ownsRow M 22 1 (.slice ao n cap) n (qKz x.data)) ∧ w.heap.size ≤ M
variable {C' : Array Value} {x : Ob}
theorem Alo.oth {w W W' : World} {P : Nat} (h : Alo w W C' x) (o : Oth P W W') (hP : P < w.heap.size) : Alo w W' C' x := by
 obtain ⟨h1, M, h2, ⟨ao, n, cap, h3, h4⟩, h5⟩ := h
 have hn : ∀ b, New w W b → New w W' b := fun b hb => ⟨hb.1, by rw [o.size]; exact hb.2⟩
 exact ⟨(h1.laterK fun b hb => o.block b (by have := hb.1; omega)).wide hn, M, (LbV.laterK h2 fun b hb => o.block b (by have := hb.1.1; omega)).wide fun b hb => ⟨hn b hb.1, hb.2⟩, ⟨ao, n, cap, h3, wCz h4 fun b hb _ => o.block b (by omega)⟩, h5⟩
theorem Alo.next {w W W' : World} (h : Alo w W C' x) (k : Below W.heap.size W W') : Alo w W' C' x := by
 obtain ⟨h1, M, h2, ⟨ao, n, cap, h3, h4⟩, h5⟩ := h
 have hn : ∀ b, New w W b → New w W' b := fun b hb => ⟨hb.1, Nat.lt_of_lt_of_le hb.2 k.size⟩
 exact ⟨(h1.laterK fun b hb => k.block b hb.2).wide hn, M, (LbV.laterK h2 fun b hb => k.block b hb.1.2).wide fun b hb => ⟨hn b hb.1, hb.2⟩, ⟨ao, n, cap, h3, wCz h4 fun b _ hl => k.block b hl⟩, h5⟩
theorem Alo.from {w v W : World} (h : Alo v W C' x) (hs : w.heap.size ≤ v.heap.size) : Alo w W C' x := by
 obtain ⟨h1, M, h2, h3, h5⟩ := h
 have hn : ∀ b, New v W b → New w W b := fun b hb => ⟨Nat.le_trans hs hb.1, hb.2⟩
 exact ⟨h1.wide hn, M, h2.wide fun b hb => ⟨hn b hb.1, hb.2⟩, h3, Nat.le_trans hs h5⟩
theorem find_one {w : World} {t ke ro : Int} {ao : Option Addr} (h : Obs w ao 1 1 [x]) (hs : Small x) : Calls prog 16 #[.agg #[.int .i64 t, .int .u64 ke, .int .u64 ro, .slice ao 1 1], .int .u64 x.id] w fun e w' => ∃ C', e = .returned (.tuple #[.agg C', .bool true]) ∧ Alo w w' C' x ∧ Below w.heap.size w w' := by
 have hsm : wfz [x] := fun y hy => by rw [List.mem_singleton.1 hy]; exact hs
 refine (jbz (i := x.id) h (srt_one x) (by omega) hsm).mono ?_
 rintro e w' ⟨C', rfl, h1, h2, h3⟩
 rw [fnd_one] at h1 h3 ⊢
 exact ⟨C', rfl, ⟨h1, h3⟩, h2⟩
theorem vgz {w : World} {C : Array Value} (h : ObD (LtN w) w C x) (hs : Small x) : Calls prog 157 #[.agg C] w fun e w' => ∃ C', e = .returned (.agg C') ∧ Alo w w' C' x ∧ Below w.heap.size w w' := by
 have ga1 := isAgg22
 have hid := h.id
 have hz := h.size
 go_enter func157, ntmps157
 go_wp2_with (first
  | (with_reducible refine qdz rfl _ _ rfl C rfl ?_; intro B W hB hb hk)
  | ((with_reducible refine qcz rfl _ rfl zC qsz ?_); intro P W5 hB5 hP hk5; have hPl : w3.heap.size = P := hB5.out.1; have hne : R ≠ P := (by have := hR.lt; omega); replace hR := hR.next hk5; replace hk := btz hk hk5)
  | ((with_reducible refine qcz rfl _ rfl zC qsz ?_); intro R W1 hB1 hR hk1; replace hb := hb.next hk1; replace hk := btz hk hk1)
  | (with_reducible refine qfz rfl _ _ rfl B rfl _ hb _ underlying50 rfl (qhz hz) ?_)
  | ((with_reducible refine xNz rfl _ rfl C rfl hz ?_); intro Bq W2 hBq hbq hk2; have hRl := hR.lt; replace hb := hb.next hk2; replace hR := hR.next hk2; replace hk := btz hk hk2; have hO := vBz hbq (h.next hk))
  | ((with_reducible refine qvz rfl _ [(3, _)] rfl _ ?hf ?_); (case hf => exact yfz _ _ _))
  | (with_reducible refine qaz (by kernel_rfl) _ _ rfl B 0 rfl _ _ hb _ hid ga1 ?_)
  | (go_at_call 16; (with_reducible refine (find_one hO hs).mono ?_); rintro e w3 ⟨C', rfl, hA, hk3⟩; have hz' := hA.1.size; have ho' := hA.1.one; have hw2 := hk.size; replace hR := hR.next hk3; replace hk := btz hk hk3)
  | (with_reducible refine qfz rfl _ _ rfl P rfl _ hP _ underlying50 rfl (qhz hz') ?_)
  | ((with_reducible refine qbz rfl _ _ _ rfl P rfl C' rfl zC hP (qhz hz') (qmz.trans hz'.symm) ho' ?_); intro W6 hP6 o6; have hA6 := hA.next (o6.below _ _ (by omega) hk5))
  | (with_reducible refine qfz rfl _ _ rfl P rfl _ hP6 _ underlying50 rfl (qhz hz') ?_)
  | ((with_reducible refine qbz rfl _ _ _ rfl R rfl C' rfl zC (hR.other o6 hne) (qhz hz') (qmz.trans hz'.symm) ho' ?_); intro W7 hR7 o7))
 have hRw : w.heap.size ≤ R ∧ w.heap.size ≤ P := by have := hB1.out; have := hB.out; have := hk3.size; omega
 refine bodyPost_ret (v := .agg _) (kSz results157 rfl hR7 hz') rfl ?_
 have hRW : R < W2.heap.size := by have := hk2.size; omega
 exact ⟨C', rfl, (hA6.oth o7 hRW).from hw2, o7.below _ _ hRw.1 (o6.below _ _ hRw.2 hk)⟩
end
section
open Go.RowKit Go.Shelf
attribute [local go_sem] Oper.semAt_some
def sgO (i : Int) (l : Lb) (q : Int) (f : Bool) (d : List Int) : Ob := ⟨i, 1, l, q, f, [], d, [], zTh, zGt, [], []⟩
theorem sg_of {x : Ob} (h : qQz x = true) (k : x.kind = 1) : x = sgO x.id x.label x.quota x.fixed x.data := by
 unfold qQz at h
 rw [Bool.and_eq_true, Bool.and_eq_true, jRz, qUz] at h
 have e := h.2.2
 unfold aloO at e
 rw [if_pos k] at e
 unfold sgO
 rw [← k]
 exact e.symm
section
variable {D D' : Nat → Prop} {w w' : World} {v : Option Value}
theorem CtV.none (h : CtV D w v []) : CtV D' w' v [] := by
 obtain ⟨a, n, c, e, h1, h2, h3, _⟩ := h
 exact ⟨a, n, c, e, h1, h2, h3, fun h0 => absurd h0 (by have : n = 0 := h1.symm; omega)⟩
theorem LbV.none (h : LbV D w v []) : LbV D' w' v [] := by
 obtain ⟨a, n, c, e, h1, h2, h3, _⟩ := h
 exact ⟨a, n, c, e, h1, h2, h3, fun h0 => absurd h0 (by have : n = 0 := h1.symm; omega)⟩
theorem MpV.none (h : MpV D w v []) : MpV D' w' v [] := by
 obtain ⟨a, n, c, e, h1, h2, h3, _⟩ := h
 exact ⟨a, n, c, e, h1, h2, h3, fun h0 => absurd h0 (by have : n = 0 := h1.symm; omega)⟩
theorem ObD.reseg {C : Array Value} {i q : Int} {l : Lb} {f : Bool} {d d' : List Int} (h : ObD D w C (sgO i l q f d)) (hl : LbV D' w' C[2]? l) (hd : CtV D' w' C[6]? d') : ObD D' w' C (sgO i l q f d') :=
 ⟨h.size, h.one, h.id, h.kind, hl, h.quota, h.fixed, h.links.none, hd, h.maps.none,
  ⟨h.th.rlen, h.th.regs, h.th.pc, LbV.none h.th.clear, h.th.sc, h.th.si, h.th.handler, h.th.vector, h.th.state, h.th.wc, h.th.wi, h.th.wx, h.th.wv, h.th.wd, CtV.none h.th.alerts, h.th.lo, h.th.hi, LbV.none h.th.l0, LbV.none h.th.l1, LbV.none h.th.l2, LbV.none h.th.l3⟩,
  ⟨LbV.none h.gt.grant, LbV.none h.gt.clear, h.gt.sc, h.gt.si, h.gt.pc, h.gt.arg⟩, h.inn.none, h.out.none⟩
end
def putO (x : Ob) (p : Nat) (v : Int) : Ob := if wpl x p = 0 then { x with data := x.data.set p v } else x
theorem ct_set {W W' : World} {g n cap p : Nat} {cur : Array Value} {L : List Int} {v : Int} (hg : Blk W' g (cur.setIfInBounds p (.int .u64 v)) 22) (hn : L.length = n) (hnc : n ≤ cap) (hcm : cap ≤ maxLen) (hcs : cur.size = cap * 1) (ht : cur.toList.take (n * 1) = qKz L) (hp : p < n) : CtD (fun b => b = g) W' (some ⟨g, 0, none⟩) n cap (L.set p v) := by
 refine ⟨by rw [List.length_set]; exact hn, hnc, ⟨by unfold maxLen at hcm; omega, fun e => by cases e⟩, fun _ => ⟨g, 0, rfl, rfl, fun i hi => ?_⟩⟩
 rw [Nat.zero_add, hg.cell, qwz (by omega)]
 by_cases e : p = i
 ·subst e
  rw [if_pos rfl, List.getD_eq_getElem?_getD, List.getElem?_set_self (by omega)]; rfl
 ·rw [if_neg e, List.getD_eq_getElem?_getD, List.getElem?_set_ne e]
  have h1 : (cur.toList.take (n * 1))[i]? = (qKz L)[i]? := by rw [ht]
  rw [List.getElem?_take_of_lt (by omega)] at h1
  rw [← Array.getElem?_toList, h1]
  unfold qKz
  rw [List.getElem?_map, List.getElem?_eq_getElem (by omega)]; rfl
theorem sput_n {w : World} {C : Array Value} {x : Ob} (h : ObD (LtN w) w C x) (hs : Small x) (hx : x.kind = 1 → x = sgO x.id x.label x.quota x.fixed x.data) {p : Nat} (hp : p < 18446744073709551616) {v : Int} : Calls prog 143 #[.agg C, .int .u64 (p : Int), .int .u64 v] w fun e w' => ∃ C', e = .returned (.tuple #[.agg C', .int .i64 (wpl x p)]) ∧ ObD (New w w') w' C' (putO x p v) ∧ Below w.heap.size w w' := by
  have hz := h.size
  have ga4 := isAgg35
  have hws := fun (W : World) (hk : Below w.heap.size w W) => wSz (h.next hk) hp
  unfold putO
  obtain ⟨r, hr⟩ : ∃ r, wpl x p = r := ⟨_, rfl⟩
  have hcs := xDz x p
  rw [hr] at hws hcs ⊢
  clear hr
  rcases hcs with ⟨rfl, h1, h2⟩ | ⟨h1, _⟩
  · rw [if_pos rfl]
    have hxs : Hid (x = sgO x.id x.label x.quota x.fixed x.data) := hx h1
    clear hx
    go_enter func143, ntmps143
    go_wp2_with (first
      | (with_reducible refine qdz rfl _ _ rfl C rfl ?_; intro B W hB hb hk)
      | ((with_reducible refine qcz rfl _ rfl zC qsz ?_); intro R W1 hB1 hR hk1; have hBl := hb.lt; replace hb := hb.next hk1; replace hk := btz hk hk1)
      | (go_at_call 154; (with_reducible refine (hws _ hk).mono ?_); rintro e w2 ⟨rfl, hk2⟩; replace hb := hb.next hk2; have hRl := hR.lt; replace hR := hR.next hk2; replace hk := btz hk hk2)
      | (with_reducible refine qfz rfl _ _ rfl B rfl _ hb _ underlying50 rfl (qhz hz) ?_)
      | (go_at_call 157; (with_reducible refine (vgz (h.next hk) hs).mono ?_); rintro e w5 ⟨C', rfl, hA, hk5⟩; have hRl4 := hR.lt; have hBl4 := hb.lt; replace hb := hb.next hk5; replace hR := hR.next hk5; have hz' := hA.1.size; have ho' := hA.1.one; have hw4 := hk.size; replace hk := btz hk hk5)
      | ((with_reducible refine qbz rfl _ _ _ rfl B rfl C' rfl C hb (qhz hz') (hz.trans hz'.symm) ho' ?_); intro W6 hb6 o6; replace hA := hA.oth o6 hBl4; have hne : R ≠ B := (by have := hB1.out.1; omega); replace hR := hR.other o6 hne; have hBw : w.heap.size ≤ B := (by have := hB.out; omega); replace hk := o6.below _ _ hBw hk; obtain ⟨hob, M, hlb, ⟨ao, n6, c6, e6, hown⟩, hM⟩ := hA; have hn6 : n6 = x.data.length := (by have := hown.1; unfold qKz at this; rw [List.length_map] at this; omega); have hp6 : p < n6 := (by omega); have hp6' : (p : Int) < n6 := (by omega); obtain ⟨g, cur, rfl, hgM, hgb, hgc, hgm, hgs, hgt⟩ : ∃ g cur, ao = some ⟨g, 0, none⟩ ∧ M ≤ g ∧ Blk W6 g cur 22 ∧ n6 ≤ c6 ∧ c6 ≤ maxLen ∧ cur.size = c6 * 1 ∧ Hid (cur.toList.take (n6 * 1) = qKz x.data) := (by
            rcases hown.2 with ⟨_, h0⟩ | ⟨g, c, cur, e, q1, q2, q3, q4, q5, q6⟩
            · omega
            · cases e; exact ⟨g, cur, rfl, q1, q2, q3, q4, q5, q6⟩); have hpc : p < cur.size := (by omega))
      | (with_reducible refine qaz (by kernel_rfl) _ _ rfl B 6 rfl _ _ hb6 _ e6 ga4 ?_)
      | ((with_reducible refine qkz rfl _ _ _ rfl g p rfl (.int .u64 v) rfl rfl _ _ hgb sizeU hpc rfl ?_); intro W7 hg7 o7; have hgB : B ≠ g := (by omega); have hb7 := hb6.other o7 hgB; have hR7 := hR.other o7 (by omega))
      | (with_reducible refine qfz rfl _ _ rfl B rfl _ hb7 _ underlying50 rfl (qhz hz') ?_)
      | ((with_reducible refine qbz rfl _ _ _ rfl R rfl C' rfl zC hR7 (qhz hz') (qmz.trans hz'.symm) ho' ?_); intro W8 hR8 o8))
    have hRw : w.heap.size ≤ R := by have := hB1.out; have := hB.out; omega
    refine bodyPost_ret (v := .tuple #[.agg C', .int .i64 0]) (kwz results143 rfl rfl hR8 hz') rfl ?_
    have hsz : W8.heap.size = W6.heap.size := by rw [o8.size, o7.size]
    refine ⟨C', rfl, ?_, o8.below _ _ hRw (o7.below _ _ (by omega) hk)⟩
    rw [hxs.out] at hob ⊢
    refine hob.reseg ?_ ?_
    · refine (LbV.laterK hlb fun b hb => (o8.block b (by have := hb.1.1; omega)).trans (o7.block b (by have := hb.2; omega))).wide fun b hb => ?_
      have h1 := hb.1.1; have h2 := hb.1.2; exact ⟨by omega, by omega⟩
    · have hct := ct_set (W := W6) hg7 hn6.symm hgc hgm hgs hgt.out hp6
      refine ⟨_, _, _, e6, (CtD.laterK hct fun b hb => o8.block b (by omega)).wide fun b hb => ?_⟩
      rw [hb]; have h1 := hgb.lt; exact ⟨by omega, by omega⟩
  · have h1' : (r == 0) = false := by simpa using h1
    rw [if_neg h1]
    go_enter func143, ntmps143
    go_wp2_with (first
      | (with_reducible refine qdz rfl _ _ rfl C rfl ?_; intro B W hB hb hk)
      | ((with_reducible refine qcz rfl _ rfl zC qsz ?_); intro R W1 hB1 hR hk1; have hBl := hb.lt; replace hb := hb.next hk1; replace hk := btz hk hk1)
      | (go_at_call 154; (with_reducible refine (hws _ hk).mono ?_); rintro e w2 ⟨rfl, hk2⟩; replace hb := hb.next hk2; have hRl := hR.lt; replace hR := hR.next hk2; replace hk := btz hk hk2)
      | (with_reducible refine qfz rfl _ _ rfl B rfl _ hb _ underlying50 rfl (qhz hz) ?_)
      | (go_at_call 157; (with_reducible refine (vgz (h.next hk) hs).mono ?_); rintro e w5 ⟨C', rfl, hA, hk5⟩; have hRl4 := hR.lt; have hBl4 := hb.lt; replace hb := hb.next hk5; replace hR := hR.next hk5; have hz' := hA.1.size; have ho' := hA.1.one; have hw4 := hk.size; replace hk := btz hk hk5)
      | ((with_reducible refine qbz rfl _ _ _ rfl B rfl C' rfl C hb (qhz hz') (hz.trans hz'.symm) ho' ?_); intro W6 hb6 o6; replace hA := hA.oth o6 hBl4; have hne : R ≠ B := (by have := hB1.out.1; omega); replace hR := hR.other o6 hne; have hBw : w.heap.size ≤ B := (by have := hB.out; omega); replace hk := o6.below _ _ hBw hk)
      | (with_reducible refine qfz rfl _ _ rfl B rfl _ hb6 _ underlying50 rfl (qhz hz') ?_)
      | ((with_reducible refine qbz rfl _ _ _ rfl R rfl C' rfl zC hR (qhz hz') (qmz.trans hz'.symm) ho' ?_); intro W8 hR8 o8))
    have hRw : w.heap.size ≤ R := by have := hB1.out; have := hB.out; omega
    refine bodyPost_ret (v := .tuple #[.agg C', .int .i64 r]) (kwz results143 rfl rfl hR8 hz') rfl ?_
    exact ⟨C', rfl, (hA.oth o8 hRl4).1.wide fun b hb => ⟨by have := hb.1; omega, hb.2⟩, o8.below _ _ hRw hk⟩
end
section
open Go.RowKit Go.Shelf
attribute [local go_sem] Oper.semAt_some
def brP (x : Ob) : Prop := x.label.length ≤ 20 ∧ x.data.length ≤ 200 ∧ x.links.length ≤ 70 ∧ x.maps.length ≤ 20 ∧ qQz x = true
theorem brP.quota {x : Ob} (h : brP x) : 1 ≤ x.quota ∧ x.quota ≤ 4096 := by
 have hc := q9z.1 (qqz.1 h.2.2.2.2).1
 exact ⟨hc.2.1, hc.2.2.1⟩
theorem umz {x : Ob} (hs : qQz x = true) (k : x.kind = 1) {d : List Int} (hd : (d.length : Int) ≤ 16 * (x.quota - 1)) : qQz { x with data := d } = true := by
 obtain ⟨hc, ho, hw⟩ := qqz.1 hs
 refine qqz.2 ⟨hc, ?_, ?_⟩
 ·unfold ownB
  show (if x.kind = 1 then decide ((d.length : Int) ≤ 16 * (x.quota - 1)) else _) = true
  rw [if_pos k, decide_eq_true_iff]; exact hd
 ·have ha := (qUz x).1 hw
  rw [qUz]
  have e := sg_of hs k
  unfold aloO
  show (if x.kind = 1 then _ else _) = _
  rw [if_pos k]
  rw [e]
  rfl
theorem uzz {x : Ob} (hs : qQz x = true) {p : Nat} {v : Int} : qQz (putO x p v) = true := by
 unfold putO
 rcases xDz x p with ⟨h0, h1, h2⟩ | ⟨h0, _⟩
 ·rw [if_pos h0]
  refine umz hs h1 ?_
  rw [List.length_set]
  have ho := (qqz.1 hs).2.1
  unfold ownB at ho
  rw [if_pos h1, decide_eq_true_iff] at ho
  exact ho
 ·rw [if_neg h0]; exact hs
end
section
open Go.RowKit Go.Shelf
theorem wpl_zero {x : Ob} {p : Nat} (h : x.kind = 1) : wpl x p = 0 ↔ p < x.data.length := by
 rcases xDz x p with ⟨h0, _, h2⟩ | ⟨h0, h2⟩
 ·exact ⟨fun _ => h2, fun _ => h0⟩
 ·exact ⟨fun e => absurd e h0, fun e => absurd ⟨h, e⟩ h2⟩
theorem put_len (x : Ob) (p : Nat) (v : Int) : (putO x p v).data.length = x.data.length := by
 unfold putO
 split
 ·exact List.length_set ..
 ·rfl
theorem ysz {x : Ob} (h : Small x) {d : List Int} (hd : d.length < 4294967296) : Small { x with data := d } := ⟨h.c2, h.c5, hd, h.c7, h.c25, h.c36, h.c39, h.c40, h.c41, h.c42, h.c43, h.c44, h.c49, h.c50⟩
theorem uAz {x : Ob} (h : Small x) {p : Nat} {v : Int} : Small (putO x p v) := by
 unfold putO
 split
 ·exact ysz h (by rw [List.length_set]; exact h.c6)
 ·exact h
end
section
def spE (X : List Ob) (x : Ob) : Int := seeE X x.label x.th.sc x.th.si 3
def spM (X : List Ob) (x : Ob) : List PgM.Pg.Mp := (fO X x.th.si).maps
def mpB (X : List Ob) (x : Ob) (a : Int) : Bool := PgM.Pg.spB a && PgM.Pg.fF (spM X x) (PgM.Pg.spP a)
def mpM (X : List Ob) (x : Ob) (a : Int) : PgM.Pg.Mp := PgM.Pg.fM (spM X x) (PgM.Pg.spP a)
def mpE (X : List Ob) (x : Ob) (a : Int) : Int := if spE X x = 0 then (if mpB X x a = true then 0 else 13) else spE X x
def mpI (X : List Ob) (x : Ob) (a : Int) : Int := 16 * PgM.Pg.fN (spM X x) (PgM.Pg.spP a) + PgM.Pg.spW a
def mpA (X : List Ob) (x : Ob) (a : Int) : Nat := (mpI X x a).toNat
def sgE (X : List Ob) (x : Ob) (a : Int) : Int := seeE X x.label (mpM X x a).cont (mpM X x a).seg 1
def wkO (X : List Ob) (x : Ob) (a : Int) : Ob := fO X (mpM X x a).seg
def wkE (X : List Ob) (x : Ob) (a : Int) : Int := if mpE X x a = 0 then (if sgE X x a = 0 then wpl (wkO X x a) (mpA X x a : Nat) else sgE X x a) else mpE X x a
def stB (X : List Ob) (x : Ob) (a : Int) : Bool := decide (wkE X x a = 0) && ((mpM X x a).wr && leqB x.label (wkO X x a).label)
def stX (X : List Ob) (x : Ob) (a v : Int) : List Ob := if stB X x a = true then puR X (putO (wkO X x a) (mpA X x a) v) else X
def ldV (X : List Ob) (x : Ob) (a : Int) : Int := if wkE X x a = 0 then gtV (wkO X x a) (mpA X x a) else 0
theorem vXz {X : List Ob} {L : Lb} {c i kd : Int} (h : seeE X L c i kd = 0) : (fnd X i).isSome = true ∧ (kd = 0 ∨ kd = (fO X i).kind) ∧ seeB L (fO X i) = true := by
 unfold seeE at h
 rcases gBz X L c i kd (seeB L) with q | q | q
 ·rcases kBz X L c i with k | k
  ·exact ⟨k.2.2.2, q.2.2.1, q.2.2.2⟩
  ·exact absurd (q.2.1.symm.trans k) (by decide)
 ·exact absurd (h.symm.trans q.1) (by decide)
 ·rcases q with q | q
  ·exact absurd (h.symm.trans q.1) (by decide)
  ·exact absurd (h.symm.trans q.1) (by decide)
theorem kIz {X : List Ob} {i : Int} (h : (fnd X i).isSome = true) : fO X i ∈ X ∧ (fO X i).id = i := by
 obtain ⟨z, hz⟩ := Option.isSome_iff_exists.1 h
 unfold fO
 rw [hz]
 exact ⟨(xIz hz).2, (xIz hz).1⟩
section
variable {X : List Ob} {x : Ob} {a : Int} (hsd : ∀ y ∈ X, qQz y = true)
include hsd
theorem vRz (h : spE X x = 0) : PgM.Pg.Fit (spM X x) := by
 obtain ⟨h1, h2, _⟩ := vXz h
 obtain ⟨h3, _⟩ := kIz h1
 have hk : (fO X x.th.si).kind = 3 := (h2.resolve_left (by decide)).symm
 have := (qqz.1 (hsd _ h3)).2.1
 unfold ownB at this
 rw [if_neg (by rw [hk]; decide), if_neg (by rw [hk]; decide), if_pos hk] at this
 exact PgM.Pg.fit_iff.1 this
theorem xHz (h : spE X x = 0) (hb : mpB X x a = true) (ha : 0 ≤ a) : 0 ≤ PgM.Pg.fN (spM X x) (PgM.Pg.spP a) ∧ PgM.Pg.fN (spM X x) (PgM.Pg.spP a) < 1048576 ∧ 0 ≤ PgM.Pg.spW a ∧ PgM.Pg.spW a < 16 ∧ mpI X x a = (mpA X x a : Nat) ∧ mpA X x a < 16777216 := by
 have hF := vRz hsd h
 unfold mpB at hb
 rw [Bool.and_eq_true] at hb
 have hw : 0 ≤ PgM.Pg.spW a ∧ PgM.Pg.spW a < 16 := by unfold PgM.Pg.spW; split <;> omega
 obtain ⟨m, hm⟩ := Option.isSome_iff_exists.1 (show (PgM.Pg.fnd (spM X x) (PgM.Pg.spP a)).isSome = true from hb.2)
 obtain ⟨k1, k2⟩ := (PgM.Pg.fnd_some hF).1 hm
 have k3 := PgM.Pg.hasB_iff.1 k2
 have k4 := PgM.Pg.oneB_iff.1 (hF.2.1 m k1)
 have hn : PgM.Pg.fN (spM X x) (PgM.Pg.spP a) = m.off + PgM.Pg.spP a - m.va := by unfold PgM.Pg.fN; rw [hm]
 have hN : 0 ≤ PgM.Pg.fN (spM X x) (PgM.Pg.spP a) ∧ PgM.Pg.fN (spM X x) (PgM.Pg.spP a) < 1048576 := by rw [hn]; omega
 unfold mpA mpI
 generalize PgM.Pg.fN (spM X x) (PgM.Pg.spP a) = f at hN
 generalize PgM.Pg.spW a = g at hw
 omega
end
section
variable {X : List Ob} {x : Ob} {a : Int}
theorem xBz (h : mpE X x a = 0) : spE X x = 0 ∧ mpB X x a = true := by
 unfold mpE at h
 by_cases e : spE X x = 0
 ·rw [if_pos e] at h
  by_cases k : mpB X x a = true
  ·exact ⟨e, k⟩
  ·rw [if_neg k] at h; exact absurd h (by decide)
 ·rw [if_neg e] at h; exact absurd h e
theorem xwz (h : wkE X x a = 0) : mpE X x a = 0 ∧ sgE X x a = 0 ∧ wkO X x a ∈ X ∧ (wkO X x a).id = (mpM X x a).seg ∧ (wkO X x a).kind = 1 ∧ seeB x.label (wkO X x a) = true ∧ mpA X x a < (wkO X x a).data.length ∧ wpl (wkO X x a) (mpA X x a : Nat) = 0 := by
 unfold wkE at h
 by_cases e : mpE X x a = 0
 ·rw [if_pos e] at h
  by_cases k : sgE X x a = 0
  ·rw [if_pos k] at h
   obtain ⟨h1, h2, h3⟩ := vXz k
   obtain ⟨h4, h5⟩ := kIz h1
   have hk : (wkO X x a).kind = 1 := (h2.resolve_left (by decide)).symm
   exact ⟨e, k, h4, h5, hk, h3, (wpl_zero hk).1 h, h⟩
  ·rw [if_neg k] at h; exact absurd h k
 ·rw [if_neg e] at h; exact absurd h e
end
end
end Go.Proofs.YtdeddhojjolihaaGreat
