/-
 PROVED HERE: what the document's placed returns when it is called (a contract over this translation); what the document's F. What is asked stands at each.
-/
import Derived.Test.YtklnneiblmakmaaGreatZ33
import Derived.Test.YtklnneiblmakmaaGreatZ35
import Derived.Test.YtklnneiblmakmaaGreatZ36
import Derived.Test.YtklnneiblmakmaaGreatZ37
import Derived.Test.YtklnneiblmakmaaGreatZ39
import Derived.Test.YtklnneiblmakmaaGreatZ40
import Derived.Test.YtklnneiblmakmaaGreatZ41
import Derived.Test.YtklnneiblmakmaaGreatZ43
import Derived.Test.YtklnneiblmakmaaGreatZ45
namespace Go.Proofs.YtklnneiblmakmaaGreat
set_option maxRecDepth 100000
set_option maxHeartbeats 8000000
set_option linter.unusedVariables false
open Go.Proofs.Tryz
section
open Go.RowKit Go.Shelf
attribute [local go_sem] Oper.semAt_some
theorem uvz {w : World} {t ke ro : Int} {ao : Option Addr} {n cap : Nat} {X : List Ob} {C : Array Value} {o : Ob} (h : Obs w ao n cap X) (hn16 : n ≤ 4096) (ho : ObD (LtN w) w C o) : Calls prog 25 #[.agg #[.int .i64 t, .int .u64 ke, .int .u64 ro, .slice ao n cap], .agg C] w fun e w' => e = .returned (.bool (plaB X ro o)) ∧ Below w.heap.size w w' := by
 have g2 : (#[.int .i64 t, .int .u64 ke, .int .u64 ro, .slice ao n cap] : Array Value)[2]? = some (.int .u64 ro) := rfl
 have hzw : (prog.info? 25).map (·.size) = some (#[.int .i64 t, .int .u64 ke, .int .u64 ro, .slice ao n cap] : Array Value).size := by kernel_rfl
 have hho := fun (W : World) (hk : Below w.heap.size w W) => xOz (t := t) (ke := ke) (ro := ro) (i := o.id) (qzz h hk) hn16
 have hup := fun (W : World) (hk : Below w.heap.size w W) => rup_w (t := t) (ke := ke) (ro := ro) (i := o.id) (qzz h hk) hn16
 have c0 := ho.id
 have c1 := ho.kind
 have c3 := ho.quota
 have c4 := ho.fixed
 have hP : Hid (plaB X ro o = if o.id = ro then decide ((holL X o.id).length = 0) && (decide (o.kind = 2) && decide (o.quota ≤ 1024)) else (decide (1 ≤ (holL X o.id).length) && !(decide (1 < (holL X o.id).length) && (!o.fixed || (decide (o.kind = 2) || decide (o.kind = 4))))) && (!decide (o.kind = 2) || upB X ro o.id)) := rfl
 rw [hP.out]
 clear hP
 obtain ⟨G, hG⟩ : ∃ G : Array Value, G = #[.int .i64 t, .int .u64 ke, .int .u64 ro, .slice ao n cap] := ⟨_, rfl⟩
 rw [← hG] at g2 hzw hho hup
 rw [← hG]
 clear hG ho
 obtain ⟨m, hm⟩ : ∃ m, Hid ((holL X o.id).length = m) := ⟨_, rfl⟩
 rw [hm.out]
 generalize holL X o.id = L at hho hm
 generalize upB X ro o.id = ub at hup ⊢
 generalize o.id = i at c0 hho hup ⊢
 generalize o.kind = kd at c1 ⊢
 generalize o.quota = qt at c3 ⊢
 generalize o.fixed = fx at c4 ⊢
 by_cases hi : i = ro
 ·subst hi
  rw [if_pos rfl]
  go_enter func25, ntmps25
  go_wp2_with (first
   | (with_reducible refine qdz rfl 25 _ rfl G rfl ?_; intro B2 W2 hN2 hB2 hk)
   | (with_reducible refine qdz rfl 43 _ rfl C rfl ?_; intro B3 W3 hN3 hB3 hk3; replace hB2 := hB2.next hk3; replace hk := btz hk hk3)
   | (with_reducible refine qez (by with_unfolding_all rfl) _ _ rfl B2 rfl G hB2 _ underlying25 (by kernel_rfl) hzw ?_)
   | (with_reducible refine qbz (by with_unfolding_all rfl) _ _ rfl B3 _ rfl _ _ hB3 _ c0 isAgg22 ?_)
   | (with_reducible refine qbz (by with_unfolding_all rfl) _ _ rfl B3 _ rfl _ _ hB3 _ c1 isAgg3 ?_)
   | (with_reducible refine qbz (by with_unfolding_all rfl) _ _ rfl B3 _ rfl _ _ hB3 _ c3 isAgg3 ?_)
   | (with_reducible refine qbz (by with_unfolding_all rfl) _ _ rfl B3 _ rfl _ _ hB3 _ c4 isAgg4 ?_)
   | (with_reducible refine qbz (by with_unfolding_all rfl) _ _ rfl B2 _ rfl _ _ hB2 _ g2 isAgg22 ?_)
   | (go_at_call 56; (with_reducible refine (hho _ hk).mono ?_); rintro e w1 ⟨v, rfl, hown, hb1⟩; replace hB2 := hB2.next hb1; replace hB3 := hB3.next hb1; replace hk := btz hk hb1; obtain ⟨al, cl, he, hct⟩ := xPz hown; rw [hm.out] at he; subst he; clear hct hown)
   | (go_at_call 57; (with_reducible refine (hup _ hk).mono ?_); rintro e w2 ⟨rfl, hb2⟩; replace hk := btz hk hb2)
   | ((with_reducible refine qgz (by with_unfolding_all rfl) .eql 3 _ _ _ rfl (.int .i64 (m : Int)) _ rfl rfl (qvz _ _ _ _ _ _) ?_ ?_) <;> intro hq1)
   | ((with_reducible refine qgz (by with_unfolding_all rfl) .lss 3 _ _ _ rfl (.int .i64 (m : Int)) _ rfl rfl (qWz _ _ _ _ _ _) ?_ ?_) <;> intro hq4)
   | ((with_reducible refine qgz (by with_unfolding_all rfl) .gtr 3 _ _ _ rfl (.int .i64 (m : Int)) _ rfl rfl (qAz _ _ _ _ _ _) ?_ ?_) <;> intro hq5)
   | ((with_reducible refine qgz (by with_unfolding_all rfl) .eql 3 _ _ _ rfl (.int .i64 kd) (.int .i64 2) rfl rfl (qvz _ _ _ _ _ _) ?_ ?_) <;> intro hq2)
   | ((with_reducible refine qgz (by with_unfolding_all rfl) .eql 3 _ _ _ rfl (.int .i64 kd) (.int .i64 4) rfl rfl (qvz _ _ _ _ _ _) ?_ ?_) <;> intro hq6)
   | ((with_reducible refine qgz (by with_unfolding_all rfl) .neq 3 _ _ _ rfl (.int .i64 kd) (.int .i64 2) rfl rfl (wdz _ _ _ _ _ _) ?_ ?_) <;> intro hq7)
   | ((with_reducible refine qgz (by with_unfolding_all rfl) .leq 3 _ _ _ rfl _ _ rfl rfl (q1z _ _ _ _ _ _) ?_ ?_) <;> intro hq3))
  all_goals
   go_ret
   refine ⟨congrArg (fun z => Ending.returned (.bool z)) ?_, hk⟩
   clear hho hup hzw
   simp only [Hid] at *
   first
    | (refine Eq.symm ?_; simp only [Bool.and_eq_true, decide_eq_true_eq, decide_eq_false_iff_not, Bool.and_eq_false_iff]; omega)
    | (refine Eq.symm ?_; rw [Bool.eq_false_iff]; simp only [ne_eq, Bool.and_eq_true, Bool.or_eq_true, Bool.not_eq_true', decide_eq_true_eq, decide_eq_false_iff_not, Bool.and_eq_false_iff, Bool.or_eq_false_iff, reduceCtorEq, or_true, true_or, and_true, true_and, or_false, false_or, and_false, false_and, Bool.not_true, Bool.not_false]; omega)
 ·have hib : (i == ro) = false := by simpa using hi
  rw [if_neg hi]
  cases fx <;> cases ub
  all_goals
   go_enter func25, ntmps25
   go_wp2_with (first
    | (with_reducible refine qdz rfl 25 _ rfl G rfl ?_; intro B2 W2 hN2 hB2 hk)
    | (with_reducible refine qdz rfl 43 _ rfl C rfl ?_; intro B3 W3 hN3 hB3 hk3; replace hB2 := hB2.next hk3; replace hk := btz hk hk3)
    | (with_reducible refine qez (by with_unfolding_all rfl) _ _ rfl B2 rfl G hB2 _ underlying25 (by kernel_rfl) hzw ?_)
    | (with_reducible refine qbz (by with_unfolding_all rfl) _ _ rfl B3 _ rfl _ _ hB3 _ c0 isAgg22 ?_)
    | (with_reducible refine qbz (by with_unfolding_all rfl) _ _ rfl B3 _ rfl _ _ hB3 _ c1 isAgg3 ?_)
    | (with_reducible refine qbz (by with_unfolding_all rfl) _ _ rfl B3 _ rfl _ _ hB3 _ c3 isAgg3 ?_)
    | (with_reducible refine qbz (by with_unfolding_all rfl) _ _ rfl B3 _ rfl _ _ hB3 _ c4 isAgg4 ?_)
    | (with_reducible refine qbz (by with_unfolding_all rfl) _ _ rfl B2 _ rfl _ _ hB2 _ g2 isAgg22 ?_)
    | (go_at_call 56; (with_reducible refine (hho _ hk).mono ?_); rintro e w1 ⟨v, rfl, hown, hb1⟩; replace hB2 := hB2.next hb1; replace hB3 := hB3.next hb1; replace hk := btz hk hb1; obtain ⟨al, cl, he, hct⟩ := xPz hown; rw [hm.out] at he; subst he; clear hct hown)
    | (go_at_call 57; (with_reducible refine (hup _ hk).mono ?_); rintro e w2 ⟨rfl, hb2⟩; replace hk := btz hk hb2)
    | ((with_reducible refine qgz (by with_unfolding_all rfl) .eql 3 _ _ _ rfl (.int .i64 (m : Int)) _ rfl rfl (qvz _ _ _ _ _ _) ?_ ?_) <;> intro hq1)
    | ((with_reducible refine qgz (by with_unfolding_all rfl) .lss 3 _ _ _ rfl (.int .i64 (m : Int)) _ rfl rfl (qWz _ _ _ _ _ _) ?_ ?_) <;> intro hq4)
    | ((with_reducible refine qgz (by with_unfolding_all rfl) .gtr 3 _ _ _ rfl (.int .i64 (m : Int)) _ rfl rfl (qAz _ _ _ _ _ _) ?_ ?_) <;> intro hq5)
    | ((with_reducible refine qgz (by with_unfolding_all rfl) .eql 3 _ _ _ rfl (.int .i64 kd) (.int .i64 2) rfl rfl (qvz _ _ _ _ _ _) ?_ ?_) <;> intro hq2)
    | ((with_reducible refine qgz (by with_unfolding_all rfl) .eql 3 _ _ _ rfl (.int .i64 kd) (.int .i64 4) rfl rfl (qvz _ _ _ _ _ _) ?_ ?_) <;> intro hq6)
    | ((with_reducible refine qgz (by with_unfolding_all rfl) .neq 3 _ _ _ rfl (.int .i64 kd) (.int .i64 2) rfl rfl (wdz _ _ _ _ _ _) ?_ ?_) <;> intro hq7)
    | ((with_reducible refine qgz (by with_unfolding_all rfl) .leq 3 _ _ _ rfl _ _ rfl rfl (q1z _ _ _ _ _ _) ?_ ?_) <;> intro hq3))
   all_goals
    go_ret
    refine ⟨congrArg (fun z => Ending.returned (.bool z)) ?_, hk⟩
    clear hho hup hzw
    simp only [Hid] at *
    first
     | (refine Eq.symm ?_; simp only [Bool.and_eq_true, Bool.or_eq_true, Bool.not_eq_true', decide_eq_true_eq, decide_eq_false_iff_not, Bool.and_eq_false_iff, Bool.or_eq_false_iff, reduceCtorEq, or_true, and_true, true_and, or_false, and_false, false_and, Bool.not_true, Bool.not_false]; omega)
     | (refine Eq.symm ?_; rw [Bool.eq_false_iff]; simp only [ne_eq, Bool.and_eq_true, Bool.or_eq_true, Bool.not_eq_true', decide_eq_true_eq, decide_eq_false_iff_not, Bool.and_eq_false_iff, Bool.or_eq_false_iff, reduceCtorEq, true_and, or_false, false_and, Bool.not_true, Bool.not_false]; omega)
end
section
open Go.RowKit Go.Shelf
attribute [local go_sem] Oper.semAt_some
theorem ugz {x : Ob} (h : q3z x = true) : LbF x.label := by
 have hk := qxz.1 (qMz.1 (quz.1 h).1).2.2.2.1
 exact ⟨wmz hk.2.1, by have := hk.1; omega⟩
theorem rfit_v0 {w : World} {t ke ro : Int} {ao : Option Addr} {n cap : Nat} {X : List Ob} (h : Obs w ao n cap X) : Calls prog 23 #[.agg #[.int .i64 t, .int .u64 ke, .int .u64 ro, .slice ao n cap]] w fun e w' => e = .returned (.bool (fitW ⟨t, ke, ro, X⟩)) ∧ Below w.heap.size w w' :=
 (rfit_w (t := t) (ke := ke) (ro := ro) h).on (fun w' hq hb => ⟨by rw [hq.out], hb⟩) (fun w' hq hb => ⟨by rw [Bool.eq_false_iff.2 hq.out], hb⟩)
theorem rtfit_w {w : World} {t ro : Int} {key : Nat} {ao : Option Addr} {n cap : Nat} {X : List Ob} (h : Obs w ao n cap X) (hsm : fitW ⟨t, key, ro, X⟩ = true → wbz X) (hw : ∀ x ∈ X, WdO x) : Calls prog 7 #[.agg #[.int .i64 t, .int .u64 (key : Int), .int .u64 ro, .slice ao n cap]] w fun e w' => e = .returned (.bool (fitD t key ro X)) ∧ Below w.heap.size w w' := by
 have hmx : prog.follows .mixedOrders = true := by kernel_rfl
 have hn : Hid (X.length = n) := h.1
 have hnc := h.2.1
 have hcm := h.2.2.1.1
 have c2 : (#[.int .i64 t, .int .u64 (key : Int), .int .u64 ro, .slice ao n cap] : Array Value)[2]? = some (.int .u64 ro) := rfl
 have c3 : (#[.int .i64 t, .int .u64 (key : Int), .int .u64 ro, .slice ao n cap] : Array Value)[3]? = some (.slice ao n cap) := rfl
 have hzw : (prog.info? 25).map (·.size) = some (#[.int .i64 t, .int .u64 (key : Int), .int .u64 ro, .slice ao n cap] : Array Value).size := by kernel_rfl
 have hfd := fun {W : World} (hk : Below w.heap.size w W) => xXz (t := t) (ke := (key : Int)) (ro := ro) (i := ro) h hk
 have hft := fun (W : World) (hk : Below w.heap.size w W) => rfit_v0 (t := t) (ke := (key : Int)) (ro := ro) (qzz h hk)
 have hsp := fun (W : World) (hk : Below w.heap.size w W) => rspans_w (t := t) (key := key) (ro := ro) (qzz h hk) hw
 have hR : Hid (fitD t key ro X = ((fitW ⟨t, key, ro, X⟩ && (fnd X ro).isSome) && (((List.range n).all fun j => lnkB X (oat X j) && plaB X ro (oat X j)) && spaB key X))) := by show fitD t key ro X = _; unfold fitD; rw [hn.out]
 rw [hR.out]
 clear hR
 cases hf : fitW ⟨t, key, ro, X⟩ with
 | false =>
  rw [hf] at hft
  obtain ⟨G, hG⟩ : ∃ G : Array Value, G = #[.int .i64 t, .int .u64 (key : Int), .int .u64 ro, .slice ao n cap] := ⟨_, rfl⟩
  rw [← hG] at c2 c3 hzw hfd hft hsp
  rw [← hG]
  clear hG
  rw [Bool.false_and, Bool.false_and]
  generalize (fnd X ro).isSome = bf at hfd
  go_enter func7, ntmps7
  go_wp2_with (first
   | (with_reducible refine qdz rfl 25 _ rfl G rfl ?_; intro B W2 hN2 hB hk)
   | (with_reducible refine qez (by kernel_rfl) 25 _ rfl B rfl G hB _ underlying25 (by kernel_rfl) hzw ?_)
   | (with_reducible refine qbz (by kernel_rfl) _ _ rfl B _ rfl _ _ hB _ c2 isAgg22 ?_)
   | (go_at_call 19; (with_reducible refine (hfd hk).mono ?_); rintro e w3 ⟨C3, rfl, o3, hb3⟩; replace hB := hB.next hb3; replace hk := btz hk hb3)
   | ((with_reducible refine qcz rfl _ rfl zC qqz ?_); intro R W4 hN4 hR4 hk4)
   | ((with_reducible refine qaz rfl _ _ _ rfl R rfl C3 rfl zC hR4 (qfz o3.size) (qmz.trans o3.size.symm) o3.one ?_); intro W5 hR5 o5; have k5 := o5.below w3.heap.size w3 (by have := hN4.out.1; omega) hk4; replace hB := hB.next k5; replace hk := btz hk k5)
   | (go_at_call 23; (with_reducible refine (hft _ hk).mono ?_); rintro e w6 ⟨rfl, hb6⟩; replace hB := hB.next hb6; replace hk := btz hk hb6))
  go_ret
  exact ⟨rfl, hk⟩
 | true =>
  replace hsm := hsm hf
  obtain ⟨hs, hso, hlen⟩ := vFz hf
  have hn16 : n ≤ 4096 := by rw [← hn.out]; omega
  have hq : ∀ x ∈ X, 0 ≤ x.quota ∧ x.quota ≤ 4096 := fun x hx => (voz (hso x hx)).1
  have hlb : ∀ x ∈ X, LbF x.label := fun x hx => ugz (hso x hx)
  have hli := fun {W : World} {C : Array Value} {j : Nat} (hk : Below w.heap.size w W) (hj : j < n) (hC : ObD (LtN W) W C (oat X j)) => rlinks_w (t := t) (ke := (key : Int)) (ro := ro) (qzz h hk) hq hlb hC (hsm _ (qXz (by rw [hn.out]; exact hj))) (hlb _ (qXz (by rw [hn.out]; exact hj)))
  have hpl := fun {W : World} {C : Array Value} {j : Nat} (hk : Below w.heap.size w W) (hC : ObD (LtN W) W C (oat X j)) => uvz (t := t) (ke := (key : Int)) (ro := ro) (qzz h hk) hn16 hC
  obtain ⟨p, hp⟩ : ∃ p : Nat → Bool, Hid (p = fun j => lnkB X (oat X j) && plaB X ro (oat X j)) := ⟨_, rfl⟩
  rw [hf] at hft
  obtain ⟨G, hG⟩ : ∃ G : Array Value, G = #[.int .i64 t, .int .u64 (key : Int), .int .u64 ro, .slice ao n cap] := ⟨_, rfl⟩
  rw [← hG] at c2 c3 hzw hfd hft hsp hli hpl
  rw [← hG, ← hp.out]
  clear hG hf hs hso hlen hq hlb
  have hal0 : Hid (∀ (k : Nat), k ≤ n → (∀ j, j < k → p j = true) → k = n → (List.range n).all p = true) := by
   refine (?_ : ∀ (k : Nat), k ≤ n → (∀ j, j < k → p j = true) → k = n → (List.range n).all p = true)
   intro k _ hj e
   rw [List.all_eq_true]
   intro j q
   exact hj j (by rw [e]; exact List.mem_range.1 q)
  have hno0 : Hid (∀ (k : Nat), k < n → p k = false → (List.range n).all p = false) := by
   refine (?_ : ∀ (k : Nat), k < n → p k = false → (List.range n).all p = false)
   intro k q e
   rw [List.all_eq_false]
   exact ⟨k, List.mem_range.2 q, by rw [e]; decide⟩
  generalize (List.range n).all p = pa at hal0 hno0 ⊢
  generalize spaB key X = sp at hsp ⊢
  rw [Bool.true_and]
  cases hb : (fnd X ro).isSome with
  | false =>
   rw [hb] at hfd
   rw [Bool.false_and]
   go_enter func7, ntmps7
   go_wp2_with (first
    | (with_reducible refine qdz rfl 25 _ rfl G rfl ?_; intro B W2 hN2 hB hk)
    | (with_reducible refine qez (by kernel_rfl) 25 _ rfl B rfl G hB _ underlying25 (by kernel_rfl) hzw ?_)
    | (with_reducible refine qbz (by kernel_rfl) _ _ rfl B _ rfl _ _ hB _ c2 isAgg22 ?_)
    | (go_at_call 19; (with_reducible refine (hfd hk).mono ?_); rintro e w3 ⟨C3, rfl, o3, hb3⟩; replace hB := hB.next hb3; replace hk := btz hk hb3)
    | ((with_reducible refine qcz rfl _ rfl zC qqz ?_); intro R W4 hN4 hR4 hk4)
    | ((with_reducible refine qaz rfl _ _ _ rfl R rfl C3 rfl zC hR4 (qfz o3.size) (qmz.trans o3.size.symm) o3.one ?_); intro W5 hR5 o5; have k5 := o5.below w3.heap.size w3 (by have := hN4.out.1; omega) hk4; replace hB := hB.next k5; replace hk := btz hk k5)
    | (go_at_call 23; (with_reducible refine (hft _ hk).mono ?_); rintro e w6 ⟨rfl, hb6⟩; replace hB := hB.next hb6; replace hk := btz hk hb6))
   go_ret
   exact ⟨rfl, hk⟩
  | true =>
   rw [hb] at hfd
   rw [Bool.true_and]
   go_enter func7, ntmps7
   go_wp2_with (first
    | (with_reducible refine qdz rfl 25 _ rfl G rfl ?_; intro B W2 hN2 hB hk)
    | (with_reducible refine qez (by kernel_rfl) 25 _ rfl B rfl G hB _ underlying25 (by kernel_rfl) hzw ?_)
    | (with_reducible refine qbz (by kernel_rfl) _ _ rfl B _ rfl _ _ hB _ c2 isAgg22 ?_)
    | (go_at_call 19; (with_reducible refine (hfd hk).mono ?_); rintro e w3 ⟨C3, rfl, o3, hb3⟩; replace hB := hB.next hb3; replace hk := btz hk hb3)
    | ((with_reducible refine qcz rfl _ rfl zC qqz ?_); intro R W4 hN4 hR4 hk4)
    | ((with_reducible refine qaz rfl _ _ _ rfl R rfl C3 rfl zC hR4 (qfz o3.size) (qmz.trans o3.size.symm) o3.one ?_); intro W5 hR5 o5; have k5 := o5.below w3.heap.size w3 (by have := hN4.out.1; omega) hk4; replace hB := hB.next k5; replace hk := btz hk k5)
    | (go_at_call 23; (with_reducible refine (hft _ hk).mono ?_); rintro e w6 ⟨rfl, hb6⟩; replace hB := hB.next hb6; replace hk := btz hk hb6))
   clear hN2 hN4 hR4 hk4 o5 k5 hR5
   go_loopw [5] (fun j wr => ∃ k : Nat, k ≤ n ∧ j = .int .i64 k ∧ Hid (∀ j, j < k → p j = true) ∧ Blk wr B G 25 ∧ Below w.heap.size w wr) (fun j _ => n - (intOf j).toNat)
   case atStart => exact ⟨0, Nat.zero_le _, rfl, fun i hi => absurd hi (by omega), hB, hk⟩
   case round =>
    clear hB hk
    obtain ⟨k, hkn1, rfl, hal, hB, hk⟩ := hrel
    by_cases hkn : k < n
    ·obtain ⟨b, off, C, rfl, hbb, hC, hr⟩ := wrz h hkn
     have hkn' : (k : Int) < n := by omega
     have hz := hC.size
     have hpk : Hid (p k = (lnkB X (oat X k) && plaB X ro (oat X k))) := by show p k = _; rw [hp.out]
     have hnx : Hid (p k = true → ∀ j, j < k + 1 → p j = true) := by
      refine (?_ : p k = true → ∀ j, j < k + 1 → p j = true)
      intro e j hj
      rcases Nat.lt_or_ge j k with q | q
      ·exact hal.out j q
      ·obtain rfl : j = k := by omega
       exact e
     replace hli := fun {W : World} {C : Array Value} (hk : Below w.heap.size w W) (hC : ObD (LtN W) W C (oat X k)) => hli hk hkn hC
     replace hpl := fun {W : World} {C : Array Value} (hk : Below w.heap.size w W) (hC : ObD (LtN W) W C (oat X k)) => hpl hk hC
     generalize lnkB X (oat X k) = bl at hli hpk
     generalize plaB X ro (oat X k) = bp at hpl hpk
     go_wp2_with (first
      | (with_reducible refine qbz (by kernel_rfl) _ _ rfl B _ rfl _ _ hB _ c3 isAgg23 ?_))
     refine PgM.region_out (S := fun W => Blk W B G 25 ∧ Below w.heap.size w W) hmx ⟨hB.next (Below.refl _ _).drew, hk.trans ((Below.refl _ _).drew.mono hk.size)⟩ (fun hS => ?_)
     generalize wr.drew = v6 at hS ⊢
     clear hB hk
     refine qiz (by kernel_rfl) (fun _ _ _ _ _ h => h) hS [(0, some (.agg G)), (1, none), (2, some (.slice (some ⟨b, off, none⟩) n cap)), (3, none), (4, some (.pointer (some ⟨b, off + k * 51, none⟩))), (5, some (.agg C))] (l' := #[tt, tt, tt, tt, tt, tt, ff, ff, ff, ff, ff, ff, ff, ff, ff, ff, ff, ff]) (a' := { tmps := #[.agg G, .pointer (some ⟨B, 0, none⟩), u2, .pointer (some ⟨R, 0, none⟩), .bool true, .int .i64 k, .tuple #[.agg C3, .bool true], .agg G, .pointer (some ⟨B, 2, none⟩), .int .u64 ro, .tuple #[.agg C3, .bool true], .agg C3, .bool true, .agg G, .bool true, .bool false, .bool false, .bool true, .bool false, .bool false, .int .i64 k, .pointer (some ⟨B, 3, none⟩), .slice (some ⟨b, off, none⟩) n cap, .int .i64 n, .bool true, u25, u26, .agg G, .pointer (some ⟨B, 3, none⟩), .slice (some ⟨b, off, none⟩) n cap, .int .i64 k, .pointer (some ⟨b, off + k * 51, none⟩), .agg C, u33, u34, u35, u36, u37, u38, u39, u40, u41, u42, u43, u44, undef, undef], defers := [] }) (obs := [.load 25 B 0 (.agg G), .load 23 B 3 (.slice (some ⟨b, off, none⟩) n cap), .ia 23 (.slice (some ⟨b, off, none⟩) n cap) (.int .i64 k) (.pointer (some ⟨b, off + k * 51, none⟩)), .load 43 b (off + k * 51) (.agg C)]) (n := 12) (by kernel_rfl) (by kernel_rfl) ⟨qwz (fun _ h => h.1) underlying25 (by kernel_rfl) hzw, qhz (fun _ h => h.1) c3 isAgg23, xfz hkn, wiz (fun _ h => qtz hr (h.2.block b hbb)) underlying43 (by kernel_rfl) (qfz hz), trivial⟩ ?_
     cases bl with
     | false =>
      refine qnz (i := 6) (fuel := 11) (f := 24) (vs := [.agg G, .agg C]) (d := some 33) (by kernel_rfl) (by kernel_rfl) (by kernel_rfl) call24 (hli hS.2 (hC.next hS.2)) ?_
      rintro e v7 ⟨rfl, hb7⟩
      have hS7 : Blk v7 B G 25 ∧ Below w.heap.size w v7 := ⟨hS.1.next hb7, hS.2.trans (hb7.mono hS.2.size)⟩
      refine ⟨_, rfl, hS7, ?_⟩
      refine qiz (by kernel_rfl) (fun _ _ _ _ _ h => h) hS7 [(7, none), (8, none), (9, none), (10, none), (11, none), (12, none), (13, none), (14, none), (15, none), (16, none), (17, none)] (l' := #[tt, tt, tt, tt, tt, tt, tt, tt, tt, tt, tt, tt, tt, tt, tt, tt, tt, tt]) (a' := { tmps := #[.agg G, .pointer (some ⟨B, 0, none⟩), u2, .pointer (some ⟨R, 0, none⟩), .bool true, .int .i64 k, .tuple #[.agg C3, .bool true], .agg G, .pointer (some ⟨B, 2, none⟩), .int .u64 ro, .tuple #[.agg C3, .bool true], .agg C3, .bool true, .agg G, .bool true, .bool false, .bool false, .bool true, .bool false, .bool false, .int .i64 k, .pointer (some ⟨B, 3, none⟩), .slice (some ⟨b, off, none⟩) n cap, .int .i64 n, .bool true, u25, u26, .agg G, .pointer (some ⟨B, 3, none⟩), .slice (some ⟨b, off, none⟩) n cap, .int .i64 k, .pointer (some ⟨b, off + k * 51, none⟩), .agg C, .bool false, .bool true, .bool true, undef, undef, undef, undef, undef, undef, undef, undef, .bool true, undef, undef], defers := [] }) (obs := []) (n := 0) (by kernel_rfl) (by kernel_rfl) trivial ?_
      refine wpAnyH_done (by kernel_rfl) ?_ _
      have hz0 := hno0.out k hkn (by rw [hpk.out]; rfl)
      go_wp2
      go_ret
      exact ⟨by rw [hz0]; rfl, hS7.2⟩
     | true =>
      refine qnz (i := 6) (fuel := 11) (f := 24) (vs := [.agg G, .agg C]) (d := some 33) (by kernel_rfl) (by kernel_rfl) (by kernel_rfl) call24 (hli hS.2 (hC.next hS.2)) ?_
      rintro e v7 ⟨rfl, hb7⟩
      have hS7 : Blk v7 B G 25 ∧ Below w.heap.size w v7 := ⟨hS.1.next hb7, hS.2.trans (hb7.mono hS.2.size)⟩
      refine ⟨_, rfl, hS7, ?_⟩
      refine qiz (by kernel_rfl) (fun _ _ _ _ _ h => h) hS7 [(7, none), (8, none), (9, some (.agg G)), (10, none), (11, some (.slice (some ⟨b, off, none⟩) n cap)), (12, none), (13, some (.pointer (some ⟨b, off + k * 51, none⟩))), (14, some (.agg C))] (l' := #[tt, tt, tt, tt, tt, tt, tt, tt, tt, tt, tt, tt, tt, tt, tt, ff, ff, ff]) (a' := { tmps := #[.agg G, .pointer (some ⟨B, 0, none⟩), u2, .pointer (some ⟨R, 0, none⟩), .bool true, .int .i64 k, .tuple #[.agg C3, .bool true], .agg G, .pointer (some ⟨B, 2, none⟩), .int .u64 ro, .tuple #[.agg C3, .bool true], .agg C3, .bool true, .agg G, .bool true, .bool false, .bool false, .bool true, .bool false, .bool false, .int .i64 k, .pointer (some ⟨B, 3, none⟩), .slice (some ⟨b, off, none⟩) n cap, .int .i64 n, .bool true, u25, u26, .agg G, .pointer (some ⟨B, 3, none⟩), .slice (some ⟨b, off, none⟩) n cap, .int .i64 k, .pointer (some ⟨b, off + k * 51, none⟩), .agg C, .bool true, .bool false, .bool false, .agg G, .pointer (some ⟨B, 3, none⟩), .slice (some ⟨b, off, none⟩) n cap, .int .i64 k, .pointer (some ⟨b, off + k * 51, none⟩), .agg C, u42, u43, u44, undef, undef], defers := [] }) (obs := [.load 25 B 0 (.agg G), .load 23 B 3 (.slice (some ⟨b, off, none⟩) n cap), .ia 23 (.slice (some ⟨b, off, none⟩) n cap) (.int .i64 k) (.pointer (some ⟨b, off + k * 51, none⟩)), .load 43 b (off + k * 51) (.agg C)]) (n := 3) (by kernel_rfl) (by kernel_rfl) ⟨qwz (fun _ h => h.1) underlying25 (by kernel_rfl) hzw, qhz (fun _ h => h.1) c3 isAgg23, xfz hkn, wiz (fun _ h => qtz hr (h.2.block b hbb)) underlying43 (by kernel_rfl) (qfz hz), trivial⟩ ?_
      cases bp with
      | false =>
       refine qnz (i := 15) (fuel := 2) (f := 25) (vs := [.agg G, .agg C]) (d := some 42) (by kernel_rfl) (by kernel_rfl) (by kernel_rfl) call25 (hpl hS7.2 (hC.next hS7.2)) ?_
       rintro e v8 ⟨rfl, hb8⟩
       have hS8 : Blk v8 B G 25 ∧ Below w.heap.size w v8 := ⟨hS7.1.next hb8, hS7.2.trans (hb8.mono hS7.2.size)⟩
       refine ⟨_, rfl, hS8, ?_⟩
       refine qiz (by kernel_rfl) (fun _ _ _ _ _ h => h) hS8 [(16, none), (17, none)] (l' := #[tt, tt, tt, tt, tt, tt, tt, tt, tt, tt, tt, tt, tt, tt, tt, tt, tt, tt]) (a' := { tmps := #[.agg G, .pointer (some ⟨B, 0, none⟩), u2, .pointer (some ⟨R, 0, none⟩), .bool true, .int .i64 k, .tuple #[.agg C3, .bool true], .agg G, .pointer (some ⟨B, 2, none⟩), .int .u64 ro, .tuple #[.agg C3, .bool true], .agg C3, .bool true, .agg G, .bool true, .bool false, .bool false, .bool true, .bool false, .bool false, .int .i64 k, .pointer (some ⟨B, 3, none⟩), .slice (some ⟨b, off, none⟩) n cap, .int .i64 n, .bool true, u25, u26, .agg G, .pointer (some ⟨B, 3, none⟩), .slice (some ⟨b, off, none⟩) n cap, .int .i64 k, .pointer (some ⟨b, off + k * 51, none⟩), .agg C, .bool true, .bool false, .bool false, .agg G, .pointer (some ⟨B, 3, none⟩), .slice (some ⟨b, off, none⟩) n cap, .int .i64 k, .pointer (some ⟨b, off + k * 51, none⟩), .agg C, .bool false, .bool true, .bool true, undef, undef], defers := [] }) (obs := []) (n := 0) (by kernel_rfl) (by kernel_rfl) trivial ?_
       refine wpAnyH_done (by kernel_rfl) ?_ _
       have hz0 := hno0.out k hkn (by rw [hpk.out]; rfl)
       go_wp2
       go_ret
       exact ⟨by rw [hz0]; rfl, hS8.2⟩
      | true =>
       refine qnz (i := 15) (fuel := 2) (f := 25) (vs := [.agg G, .agg C]) (d := some 42) (by kernel_rfl) (by kernel_rfl) (by kernel_rfl) call25 (hpl hS7.2 (hC.next hS7.2)) ?_
       rintro e v8 ⟨rfl, hb8⟩
       have hS8 : Blk v8 B G 25 ∧ Below w.heap.size w v8 := ⟨hS7.1.next hb8, hS7.2.trans (hb8.mono hS7.2.size)⟩
       refine ⟨_, rfl, hS8, ?_⟩
       refine qiz (by kernel_rfl) (fun _ _ _ _ _ h => h) hS8 [(16, none), (17, none)] (l' := #[tt, tt, tt, tt, tt, tt, tt, tt, tt, tt, tt, tt, tt, tt, tt, tt, tt, tt]) (a' := { tmps := #[.agg G, .pointer (some ⟨B, 0, none⟩), u2, .pointer (some ⟨R, 0, none⟩), .bool true, .int .i64 k, .tuple #[.agg C3, .bool true], .agg G, .pointer (some ⟨B, 2, none⟩), .int .u64 ro, .tuple #[.agg C3, .bool true], .agg C3, .bool true, .agg G, .bool true, .bool false, .bool false, .bool true, .bool false, .bool false, .int .i64 k, .pointer (some ⟨B, 3, none⟩), .slice (some ⟨b, off, none⟩) n cap, .int .i64 n, .bool true, u25, u26, .agg G, .pointer (some ⟨B, 3, none⟩), .slice (some ⟨b, off, none⟩) n cap, .int .i64 k, .pointer (some ⟨b, off + k * 51, none⟩), .agg C, .bool true, .bool false, .bool false, .agg G, .pointer (some ⟨B, 3, none⟩), .slice (some ⟨b, off, none⟩) n cap, .int .i64 k, .pointer (some ⟨b, off + k * 51, none⟩), .agg C, .bool true, .bool false, .bool false, undef, undef], defers := [] }) (obs := []) (n := 0) (by kernel_rfl) (by kernel_rfl) trivial ?_
       refine wpAnyH_done (by kernel_rfl) ?_ _
       have hy := hnx.out (by rw [hpk.out]; rfl)
       go_wp2
       go_roundw
       case rel => exact ⟨k + 1, by omega, by go_num, hy, hS8.1, hS8.2⟩
       case measure => simp [intOf]; omega
    ·obtain rfl : k = n := by omega
     have hpa := hal0.out k (Nat.le_refl _) hal.out rfl
     go_wp2_with (first
      | (with_reducible refine qbz (by kernel_rfl) _ _ rfl B _ rfl _ _ hB _ c3 isAgg23 ?_)
      | (with_reducible refine qez (by kernel_rfl) 25 _ rfl B rfl G hB _ underlying25 (by kernel_rfl) hzw ?_)
      | (go_at_call 26; (with_reducible refine (hsp _ hk).mono ?_); rintro e w8 ⟨rfl, hb8⟩; replace hk := btz hk hb8))
     go_ret
     exact ⟨by rw [hpa]; rfl, hk⟩
end
section
open Go.RowKit Go.Shelf
attribute [local go_sem] Oper.semAt_some
theorem alo_maps {x : Ob} (h : aloO x = x) (hk : ¬ x.kind = 3) : x.maps = [] := by
 have e : (aloO x).maps = [] := by
  unfold aloO
  by_cases h1 : x.kind = 1
  ·rw [if_pos h1]
  rw [if_neg h1]
  by_cases h2 : x.kind = 2
  ·rw [if_pos h2]
  rw [if_neg h2, if_neg hk]
  by_cases h4 : x.kind = 4
  ·rw [if_pos h4]
  rw [if_neg h4]
  by_cases h5 : x.kind = 5
  ·rw [if_pos h5]
  rw [if_neg h5]
  by_cases h6 : x.kind = 6
  ·rw [if_pos h6]
  rw [if_neg h6]; rfl
 rw [h] at e; exact e
theorem wTz {x : Ob} (hs : q3z x = true) : Small x := by
 obtain ⟨hc, ho, hw⟩ := quz.1 hs
 have ha := (q8z x).1 hw
 have hq := (qMz.1 hc).2.2.1
 refine kaz hs ⟨?_, ?_, ?_⟩
 ·by_cases k2 : x.kind = 2
  ·unfold ownB at ho
   rw [if_neg (by rw [k2]; decide), if_pos k2] at ho
   simp only [Bool.and_eq_true, decide_eq_true_eq] at ho
   omega
  ·rw [jZz hs k2]; decide
 ·by_cases k1 : x.kind = 1
  ·unfold ownB at ho
   rw [if_pos k1] at ho
   simp only [decide_eq_true_eq] at ho
   omega
  ·rw [alo_data ha k1]; decide
 ·by_cases k3 : x.kind = 3
  ·unfold ownB at ho
   rw [if_neg (by rw [k3]; decide), if_neg (by rw [k3]; decide), if_pos k3] at ho
   unfold PgM.Pg.fitB at ho
   simp only [Bool.and_eq_true, decide_eq_true_eq] at ho
   omega
  ·rw [alo_maps ha k3]; decide
end
end Go.Proofs.YtklnneiblmakmaaGreat
