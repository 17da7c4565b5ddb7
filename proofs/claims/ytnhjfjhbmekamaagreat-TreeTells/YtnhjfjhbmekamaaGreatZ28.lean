/-
 PROVED HERE: what tree.Fit returns when it is called (a contract over this translation). What is asked stands at each.
-/
import Derived.Test.YtnhjfjhbmekamaaGreatZ27
namespace Go.Proofs.YtnhjfjhbmekamaaGreat
set_option maxRecDepth 100000
set_option maxHeartbeats 8000000
open Go.RowKit Go.Shelf
set_option linter.unusedVariables false
attribute [local go_sem] Oper.semAt_some

def fitT (t : Int) (key : Nat) (ro : Int) (X : List Ob) : Bool := fitW ⟨t, key, ro, X⟩ && (rotB X ro && (List.range X.length).all fun j => whoB key X ro (hldF X) (oat X j))
theorem sound_q {x : Ob} (h : soundB x = true) : (0 ≤ x.quota ∧ x.quota ≤ 4096) ∧ x.label.length < 1048576 := by
 unfold soundB comB keptB at h
 simp only [Bool.and_eq_true, decide_eq_true_eq] at h
 omega
theorem fit_v0 {w : World} {t ke ro : Int} {ao : Option Addr} {n cap : Nat} {X : List Ob} (h : Obs w ao n cap X) : Calls Tryz.prog 36 #[.agg #[.int .i64 t, .int .u64 ke, .int .u64 ro, .slice ao n cap]] w fun e w' => e = .returned (.bool (fitW ⟨t, ke, ro, X⟩)) ∧ Below w.heap.size w w' :=
 (fit_w (t := t) (ke := ke) (ro := ro) h).on (fun w' hq hb => ⟨by rw [hq.out], hb⟩) (fun w' hq hb => ⟨by rw [Bool.eq_false_iff.2 hq.out], hb⟩)
theorem tfit_v {w : World} {t ro : Int} {key : Nat} {ao : Option Addr} {n cap : Nat} {X : List Ob} {Cf : Nat → Array Value} (h : ObsF (LtN w) (LtN w) w ao n cap X Cf) (hsm : fitW ⟨t, key, ro, X⟩ = true → Smalls X) (hw : ∀ x ∈ X, WdO x) : Calls Tryz.prog 10 #[.agg #[.int .i64 t, .int .u64 (key : Int), .int .u64 ro, .slice ao n cap]] w fun e w' => e = .returned (.bool (fitT t key ro X)) ∧ Below w.heap.size w w' := by
 have hn : Hid (X.length = n) := h.1
 have hzw : (Tryz.prog.info? 25).map (·.size) = some (#[.int .i64 t, .int .u64 (key : Int), .int .u64 ro, .slice ao n cap] : Array Value).size := by kernel_rfl
 have hzv : (Tryz.prog.info? 70).map (·.size) = some (#[.int .i64 t, .int .u64 (key : Int), .int .u64 ro, .slice ao n cap] : Array Value).size := by kernel_rfl
 have hbt : Tryz.prog.built 70 [(0, .agg #[.int .i64 t, .int .u64 (key : Int), .int .u64 ro, .slice ao n cap])] = some #[.int .i64 t, .int .u64 (key : Int), .int .u64 ro, .slice ao n cap] := by kernel_rfl
 have hz4 : (#[.int .i64 0, .int .u64 0, .int .u64 0, .slice none 0 0] : Array Value).size = (#[.int .i64 t, .int .u64 (key : Int), .int .u64 ro, .slice ao n cap] : Array Value).size := rfl
 have h14 : (#[.int .i64 t, .int .u64 (key : Int), .int .u64 ro, .slice ao n cap] : Array Value).all (·.oneCell') = true := by simp [Value.oneCell']
 have hfit := fun (W : World) (hk : Below w.heap.size w W) => fit_v0 (t := t) (ke := (key : Int)) (ro := ro) (ObsF.obs (h.next hk))
 have hr : Hid (fitT t key ro X = (fitW ⟨t, key, ro, X⟩ && (rotB X ro && (List.range n).all fun j => whoB key X ro (hldF X) (oat X j)))) := by show fitT t key ro X = _; unfold fitT; rw [hn.out]
 rw [hr.out]
 obtain ⟨G, hG⟩ : ∃ G : Array Value, Hid (G = #[.int .i64 t, .int .u64 (key : Int), .int .u64 ro, .slice ao n cap]) := ⟨_, rfl⟩
 rw [← hG.out] at hzw hzv hbt hz4 h14 hfit
 cases hf : fitW ⟨t, key, ro, X⟩ with
 | false =>
  rw [hf] at hfit
  rw [← hG.out, Bool.false_and]
  go_enter Tryz.func10, Tryz.ntmps10
  go_wp2_with (first
   | (with_reducible refine wpList_box rfl 25 _ rfl G rfl ?_; intro B1 W1 hN1 hB1 hk)
   | (with_reducible refine wpList_loadb (by with_unfolding_all rfl) _ _ rfl B1 rfl G hB1 _ Tryz.underlying25 (by kernel_rfl) hzw ?_)
   | (go_at_call 36; (with_reducible refine (hfit _ hk).mono ?_); rintro e w2 ⟨rfl, hb2⟩; replace hB1 := hB1.next hb2; replace hk := hk.trans (hb2.mono hk.size)))
  all_goals (go_ret; exact ⟨rfl, hk⟩)
 | true =>
  replace hsm := hsm hf
  obtain ⟨_, _, hlen, hids, hsnd⟩ := fitW_iff.1 hf
  have hs := idsB_iff.1 hids
  have hn16 : n ≤ 4096 := by rw [← hn.out]; omega
  have hmem : ∀ x ∈ X, soundB x = true := fun x hx => by
   obtain ⟨i, hi, e⟩ := List.getElem_of_mem hx
   have := hsnd i hi
   rwa [show oat X i = x by unfold oat; rw [List.getD_eq_getElem?_getD, List.getElem?_eq_getElem hi]; exact e] at this
  have hq : ∀ x ∈ X, 0 ≤ x.quota ∧ x.quota ≤ 4096 := fun x hx => (sound_q (hmem x hx)).1
  have hlb : ∀ x ∈ X, x.label.length < 1048576 := fun x hx => (sound_q (hmem x hx)).2
  have hll : ∀ x ∈ X, x.links.length < 4294967296 := fun x hx => (hsm x hx).c5
  have hho := fun (W : World) (hk : Below w.heap.size w W) => holdings_v (t := t) (ke := (key : Int)) (ro := ro) (h.next hk) hs hn16 hll
  have hro := fun (W : World) (hk : Below w.heap.size w W) => rooted_v (t := t) (ke := (key : Int)) (ro := ro) (h.next hk) hs hn16
  rw [hf] at hfit
  rw [Bool.true_and]
  rw [← hG.out] at hho hro
  rw [← hG.out]
  clear hmem hsnd hids hlen hf
  cases hrb : rotB X ro with
  | false =>
   rw [hrb] at hro
   rw [Bool.false_and]
   go_enter Tryz.func10, Tryz.ntmps10
   go_wp2_with (first
    | (with_reducible refine wpList_box rfl 25 _ rfl G rfl ?_; intro B1 W1 hN1 hB1 hk)
    | (with_reducible refine wpList_loadb (by with_unfolding_all rfl) _ _ rfl B1 rfl G hB1 _ Tryz.underlying25 (by kernel_rfl) hzw ?_)
    | (go_at_call 36; (with_reducible refine (hfit _ hk).mono ?_); rintro e w2 ⟨rfl, hb2⟩; replace hB1 := hB1.next hb2; replace hk := hk.trans (hb2.mono hk.size))
    | ((with_reducible refine wpList_buildw (by kernel_rfl) _ [(0, .tmp 8)] rfl G ?hf ?_); (case hf => exact hbt))
    | ((with_reducible refine wpList_alloc rfl 70 rfl #[.int .i64 0, .int .u64 0, .int .u64 0, .slice none 0 0] Tryz.zeroValue70 ?_); intro B3 W3 hN3 hR3 hk3)
    | ((with_reducible refine wpList_store_blk rfl _ _ _ rfl B3 rfl G rfl _ hR3 hzv hz4 h14 ?_); intro W4 hB3 o4; have hw3 : w.heap.size ≤ B3 := (by have := hN3.out; have := hk.size; omega); replace hk := o4.below w.heap.size w hw3 (hk.trans (hk3.mono hk.size)))
    | (with_reducible refine wpList_loadb (by with_unfolding_all rfl) _ _ rfl B3 rfl G hB3 _ Tryz.underlying70 (by kernel_rfl) hzv ?_)
    | (go_at_call 37; (with_reducible refine (hho _ hk).mono ?_); rintro e w5 ⟨M, rfl, hM, hwM, hb5⟩; replace hB3 := hB3.next hb5; replace hk := hk.trans (hb5.mono hk.size); have hka := (Below.refl w5.heap.size w5).alloc (Nat.le_refl _) (.cells #[.map (some M)] 71); have hU := Boxed.new w5 71 (.map (some M)); replace hB3 := hB3.next hka; replace hM := hM.next hka; replace hk := hk.trans (hka.mono hk.size))
    | (go_at_call 38; (with_reducible refine (hro _ hk).mono ?_); rintro e w6 ⟨rfl, hb6⟩; replace hB3 := hB3.next hb6; replace hM := hM.next hb6; replace hU : Boxed w6 w5.heap.size 71 (.map (some M)) := (hb6.block _ hU.lt).trans hU; replace hk := hk.trans (hb6.mono hk.size)))
   all_goals (go_ret; exact ⟨rfl, hk⟩)
  | true =>
   rw [hrb] at hro
   rw [Bool.true_and]
   go_enter Tryz.func10, Tryz.ntmps10
   go_wp2_with (first
    | (with_reducible refine wpList_box rfl 25 _ rfl G rfl ?_; intro B1 W1 hN1 hB1 hk)
    | (with_reducible refine wpList_loadb (by with_unfolding_all rfl) _ _ rfl B1 rfl G hB1 _ Tryz.underlying25 (by kernel_rfl) hzw ?_)
    | (go_at_call 36; (with_reducible refine (hfit _ hk).mono ?_); rintro e w2 ⟨rfl, hb2⟩; replace hB1 := hB1.next hb2; replace hk := hk.trans (hb2.mono hk.size))
    | ((with_reducible refine wpList_buildw (by kernel_rfl) _ [(0, .tmp 8)] rfl G ?hf ?_); (case hf => exact hbt))
    | ((with_reducible refine wpList_alloc rfl 70 rfl #[.int .i64 0, .int .u64 0, .int .u64 0, .slice none 0 0] Tryz.zeroValue70 ?_); intro B3 W3 hN3 hR3 hk3)
    | ((with_reducible refine wpList_store_blk rfl _ _ _ rfl B3 rfl G rfl _ hR3 hzv hz4 h14 ?_); intro W4 hB3 o4; have hw3 : w.heap.size ≤ B3 := (by have := hN3.out; have := hk.size; omega); replace hk := o4.below w.heap.size w hw3 (hk.trans (hk3.mono hk.size)))
    | (with_reducible refine wpList_loadb (by with_unfolding_all rfl) _ _ rfl B3 rfl G hB3 _ Tryz.underlying70 (by kernel_rfl) hzv ?_)
    | (go_at_call 37; (with_reducible refine (hho _ hk).mono ?_); rintro e w5 ⟨M, rfl, hM, hwM, hb5⟩; replace hB3 := hB3.next hb5; replace hk := hk.trans (hb5.mono hk.size); have hka := (Below.refl w5.heap.size w5).alloc (Nat.le_refl _) (.cells #[.map (some M)] 71); have hU := Boxed.new w5 71 (.map (some M)); replace hB3 := hB3.next hka; replace hM := hM.next hka; replace hk := hk.trans (hka.mono hk.size))
    | (go_at_call 38; (with_reducible refine (hro _ hk).mono ?_); rintro e w6 ⟨rfl, hb6⟩; replace hB3 := hB3.next hb6; replace hM := hM.next hb6; replace hU : Boxed w6 w5.heap.size 71 (.map (some M)) := (hb6.block _ hU.lt).trans hU; replace hk := hk.trans (hb6.mono hk.size)))
   have hm := fun (j : Nat) (hj : j < n) => oat_mem (l := X) (show j < X.length by rw [hn.out]; exact hj)
   have hV6 : Blk w6 B3 #[.int .i64 t, .int .u64 (key : Int), .int .u64 ro, .slice ao n cap] 70 := (by rw [← hG.out]; exact hB3)
   have hP := fun (j : Nat) (W : World) (hj : j < n) (q : Below w6.heap.size w6 W) => fit1_v (t := t) (key := key) (ro := ro) (h.next (hk.trans (q.mono hk.size))) hs hn16 hq hlb hw ((h.2.2.2.2 j hj).next (hk.trans (q.mono hk.size))) (hsm _ (hm j hj)) (hq _ (hm j hj)) (hlb _ (hm j hj)) (hw _ (hm j hj)) (hM.next q) (hV6.next q) (Bh := w5.heap.size) ((q.block _ hU.lt).trans hU)
   have hcall := every_v (t := t) (ke := (key : Int)) (ro := ro) (g := 40) (lb := #[.pointer (some ⟨B3, 0, none⟩), .pointer (some ⟨w5.heap.size, 0, none⟩)]) (P := fun j => whoB key X ro (hldF X) (oat X j)) (h.next hk) (enters_of Tryz.func40 (by kernel_rfl) rfl) (fun j W hj q => hP j W hj q)
   rw [← hG.out] at hcall
   refine hcall.mono ?_
   rintro e w7 ⟨rfl, hb7⟩
   replace hk := hk.trans (hb7.mono hk.size)
   go_wp2
   go_ret
   exact ⟨rfl, hk⟩
end Go.Proofs.YtnhjfjhbmekamaaGreat
