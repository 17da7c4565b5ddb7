/-
 PROVED HERE: what the document's rising and alone return when they are called (contracts over this translation); what the d. What is asked stands at each.
-/
import Derived.Deep.DeepCutAuto
import Derived.Test.YtiiaohejldchdaaGreatZ16
namespace Go.Proofs.YtiiaohejldchdaaGreat
set_option maxRecDepth 100000
set_option maxHeartbeats 8000000
open Go.RowKit Go.Shelf
set_option linter.unusedVariables false
attribute [local go_sem] Oper.semAt_some
theorem rid_q (n : Int) (w : World) : Calls Tryz.prog 46 #[.int .u64 n] w fun e w' => e = .returned (.bool (idB n)) ∧ w' = w := by
 have hr : Hid (idB n = (decide (1 ≤ n) && decide (n ≤ 2305843009213693952))) := rfl
 go_enter Tryz.func46, Tryz.ntmps46
 go_wp2
 all_goals (go_ret; refine ⟨?_, rfl⟩; rw [hr.out]; first | (refine congrArg (fun z => Ending.returned (.bool z)) (?_ : decide (n ≤ 2305843009213693952) = _); rw [Bool.eq_iff_iff]; simp; omega) | (refine congrArg (fun z => Ending.returned (.bool z)) (?_ : false = _); rw [Bool.eq_iff_iff]; simp; omega) | (refine congrArg (fun z => Ending.returned (.bool z)) (?_ : true = _); rw [Bool.eq_iff_iff]; simp; omega))
theorem rrising_any {w0 w : World} {ao : Option Addr} {n cap : Nat} {L : List Int} (h0 : CtD (LtN w0) w0 ao n cap L) (hk0 : Below w0.heap.size w0 w) : Asks 50 #[.slice ao n cap] (allI L = true ∧ risB L = true) w := by
 have hL := h0.ct' hk0
 clear h0 hk0
 have hn : Hid (L.length = n) := hL.1
 have hnc := hL.2.1
 have hcm := hL.2.2.1.1
 unfold Asks
 go_enter Tryz.func50, Tryz.ntmps50
 go_wp2
 go_loopw [3] (fun i wr => ∃ k : Nat, k ≤ n ∧ i = .int .i64 k ∧ Hid ((∀ j, j < k → idB (L.getD j 0) = true) ∧ ∀ j, j + 1 < k → L.getD j 0 < L.getD (j + 1) 0) ∧ Below w.heap.size w wr) (fun i _ => n - (intOf i).toNat)
 case atStart => exact ⟨0, Nat.zero_le _, rfl, ⟨fun j hj => absurd hj (by omega), fun j hj => absurd hj (by omega)⟩, Below.refl _ _⟩
 case round =>
  obtain ⟨k, hk, rfl, hal, hb⟩ := hrel
  by_cases hkn : k < n
  ·have hLw := hL.laterK fun b hb' => hb.block b hb'
   obtain ⟨b, off, y, rfl, hbb, hy, d1⟩ := hLw.at hkn
   have hkn' : (k : Int) < n := by omega
   cases hid : idB y with
   | false =>
    have hq : Hid (¬ allI L = true) := by
     refine (?_ : ¬ allI L = true)
     intro e; have := allI_iff.1 e k (by rw [hn.out]; exact hkn); rw [hy.out, hid] at this; cases this
    have hc := fun w => rid_q y w
    rw [hid] at hc
    clear hLw hid
    go_wp2
    go_quiet (first | (go_at_call 46; refine Calls.quiet_of_same (hc _)))
    go_wp2
    go_ret
    exact askP_no hq (PgM.below_drewN hb _) (fun e => e.1)
   | true =>
    have hc := fun w => rid_q y w
    rw [hid] at hc
    by_cases hk0 : k = 0
    ·have hal2 : Hid ((∀ j, j < k + 1 → idB (L.getD j 0) = true) ∧ ∀ j, j + 1 < k + 1 → L.getD j 0 < L.getD (j + 1) 0) := ⟨fn_succ hal.out.1 (by rw [hy.out]; exact hid), fun j hj => absurd hj (by omega)⟩
     have hk0' : ¬ 0 < k := by omega
     have hk0d : decide ((0 : Int) < (k : Int)) = false := decide_eq_false (by omega)
     clear hLw hid hk0
     go_wp2
     go_quiet (first | (go_at_call 46; refine Calls.quiet_of_same (hc _)))
     go_wp2
     go_roundw
     case rel => exact ⟨k + 1, by omega, by go_num, hal2, PgM.below_drewN hb _⟩
     case measure => simp [intOf]; omega
    ·obtain ⟨j, hj⟩ : ∃ j, Hid (k = j + 1) := ⟨k - 1, by show _ = _; omega⟩
     have hw : IntKind.i64.wrap ((k : Int) - 1) = (j : Int) := by have := hj.out; rw [IntKind.wrap_i64]; omega
     have hjn : j < n := by have := hj.out; omega
     have hjn' : (j : Int) < n := by omega
     have hkp : 0 < k := by omega
     have hk0d : decide ((0 : Int) < (k : Int)) = true := decide_eq_true (by omega)
     obtain ⟨b', off', x, e', hbb', hx, d0⟩ := hLw.at hjn
     cases e'
     clear hLw
     by_cases hxy : x < y
     ·have hal2 : Hid ((∀ j, j < k + 1 → idB (L.getD j 0) = true) ∧ ∀ j, j + 1 < k + 1 → L.getD j 0 < L.getD (j + 1) 0) := by
       refine ⟨fn_succ hal.out.1 (by rw [hy.out]; exact hid), ?_⟩
       intro i hi
       rcases Nat.lt_or_ge (i + 1) k with h | h
       ·exact hal.out.2 i h
       ·have hij : i = j := by have := hj.out; omega
        rw [hij, hx.out, ← hj.out, hy.out]; exact hxy
      have hd : ¬ (y ≤ x) := by omega
      have hd' : decide (y ≤ x) = false := decide_eq_false hd
      clear hid hk0
      go_wp2
      go_quiet (first | (go_at_call 46; refine Calls.quiet_of_same (hc _)))
      go_wp2
      go_roundw
      case rel => exact ⟨k + 1, by omega, by go_num, hal2, PgM.below_drewN hb _⟩
      case measure => simp [intOf]; omega
     ·have hq : Hid (¬ risB L = true) := by
       refine (?_ : ¬ risB L = true)
       intro e
       have := ris_iff.1 e j (by rw [hn.out, ← hj.out]; exact hkn)
       rw [hx.out, ← hj.out, hy.out] at this
       exact hxy this
      have hd : y ≤ x := by omega
      have hd' : decide (y ≤ x) = true := decide_eq_true hd
      clear hid hk0
      go_wp2
      go_quiet (first | (go_at_call 46; refine Calls.quiet_of_same (hc _)))
      go_wp2
      go_ret
      exact askP_no hq (PgM.below_drewN hb _) (fun e => e.2)
  ·obtain rfl : k = n := by omega
   go_wp2
   go_ret
   exact askP_yes ⟨allI_iff.2 fun i hi => hal.out.1 i (by rw [hn.out] at hi; exact hi), ris_iff.2 fun i hi => hal.out.2 i (by rw [hn.out] at hi; exact hi)⟩ hb
theorem ralone_any {w : World} {C : Array Value} {x : Ob} (h : ObD (LtN w) w C x) : Asks 48 #[.agg C] (aloO x = x) w := by
 have hz := h.size
 have c0 := h.id
 have c1 := h.kind
 obtain ⟨a2, n2, k2, c2, l2⟩ := h.label
 have hn2 : Hid (x.label.length = n2) := l2.1
 have c3 := h.quota
 have c4 := h.fixed
 obtain ⟨a5, n5, k5, c5, l5⟩ := h.links
 have hn5 : Hid (x.links.length = n5) := l5.1
 obtain ⟨a6, n6, k6, c6, l6⟩ := h.data
 have hn6 : Hid (x.data.length = n6) := l6.1
 obtain ⟨a7, n7, k7, c7, l7⟩ := h.maps
 have hn7 : Hid (x.maps.length = n7) := l7.1
 obtain ⟨a49, n49, k49, c49, l49⟩ := h.inn
 have hn49 : Hid (x.inn.length = n49) := l49.1
 obtain ⟨a50, n50, k50, c50, l50⟩ := h.out
 have hn50 : Hid (x.out.length = n50) := l50.1
 obtain ⟨a25, n25, k25, c25, l25⟩ := h.th.clear
 obtain ⟨a43, n43, k43, c43, l43⟩ := h.gt.grant
 obtain ⟨a44, n44, k44, c44, l44⟩ := h.gt.clear
 replace c25 : C[25]? = some (.slice a25 n25 k25) := c25
 replace c43 : C[43]? = some (.slice a43 n43 k43) := c43
 replace c44 : C[44]? = some (.slice a44 n44 k44) := c44
 have ga0 := Tryz.isAgg27
 have ga1 := Tryz.isAgg22
 have ga2 := Tryz.isAgg3
 have ga3 := Tryz.isAgg4
 have ga4 := Tryz.isAgg28
 have ga5 := Tryz.isAgg29
 unfold Asks
 by_cases h1 : x.kind = 1
 ·replace c1 : C[1]? = some (.int .i64 1) := c1.trans (by rw [h1])
  have halo : aloO x = { (⟨x.id, 1, x.label, x.quota, x.fixed, [], [], [], zTh, zGt, [], []⟩ : Ob) with data := x.data } := by rw [alo1 h1, ← h1]; rfl
  clear h1
  have hcm := comC_d (i := x.id) (k := 1) (q := x.quota) (f := x.fixed) l2
  have hcz := hcm.size
  have hd := hcm.set6 ⟨_, _, _, rfl, l6⟩ rfl
  go_enter Tryz.func48, Tryz.ntmps48
  go_wp2_with (first
   | go_skip
   | (with_reducible refine wpList_box rfl _ _ rfl C rfl ?_; intro B W hB hb hk)
   | (with_reducible refine wpList_load1 (by kernel_rfl) _ _ rfl B _ rfl _ _ hb _ (by assumption) (by assumption) ?_)
   | (with_reducible refine wpList_load1 (by kernel_rfl) _ _ rfl B _ rfl _ _ e2 _ (by assumption) (by assumption) ?_)
   | (with_reducible refine wpList_load1 (by kernel_rfl) _ _ rfl B _ rfl _ _ e3 _ (by assumption) (by assumption) ?_)
   | ((with_reducible refine wpList_build rfl _ _ rfl (comC (.int .u64 x.id) (.int .i64 1) (.slice a2 n2 k2) (.int .i64 x.quota) (.bool x.fixed)) ?hf ?_); (case hf => exact built_com _ _ _ _ _ _ _))
   | (with_reducible refine wpList_alloc rfl _ rfl zC zero40 ?_; intro B' W' hB' hb' hk'; have hne : B ≠ B' := (by have := hB'.out.1; have := hb.lt; omega); have b1 := hk.trans (hk'.mono hk.size); have hl' : w.heap.size ≤ B' := (by have := hB'.out.1; have := hk.size; omega))
   | ((with_reducible refine wpList_store_blk rfl _ _ _ rfl B' rfl (comC (.int .u64 x.id) (.int .i64 1) (.slice a2 n2 k2) (.int .i64 x.quota) (.bool x.fixed)) rfl zC hb' (size40C hcz) (zC_size.trans hcz.symm) hcm.one ?_); intro W2 b2 o2; have e2 := (hb.next hk').other o2 hne; have kb2 := o2.below w.heap.size w hl' b1)
   | ((with_reducible refine wpList_store_cell rfl _ _ _ rfl B' 6 rfl (.slice a6 n6 k6) rfl rfl _ _ b2 size25 (by first | (rw [hcz]; omega) | (rw [Array.size_setIfInBounds, hcz]; omega)) rfl ?_); intro W3 b3 o3; have e3 := e2.other o3 hne; have kb3 := o3.below w.heap.size w hl' kb2)
   | ((with_reducible refine wpList_load_blk rfl _ _ rfl B' rfl _ b3 _ Tryz.underlying43 rfl (size40C hd.size) ?_))
   | ((with_reducible refine wpList_load_blk rfl _ _ rfl B rfl _ e3 _ Tryz.underlying43 rfl (size40C hz) ?_))
   | (go_at_call 16; (with_reducible refine (rsameOne_any (hd.next kb3) (h.next kb3)).on ?_ ?_) <;> intro w9 hq hb9))
  ·go_ret
   exact askP_yes ((show aloO x = x by rw [halo]; exact hq.out)) (kb3.trans (hb9.mono kb3.size))
  ·go_ret
   exact askP_no hq (kb3.trans (hb9.mono kb3.size)) (fun e => (by rw [halo] at e; exact e))
 by_cases h2 : x.kind = 2
 ·replace c1 : C[1]? = some (.int .i64 2) := c1.trans (by rw [h2])
  have halo : aloO x = { (⟨x.id, 2, x.label, x.quota, x.fixed, [], [], [], zTh, zGt, [], []⟩ : Ob) with links := x.links } := by rw [alo2 h2, ← h2]; rfl
  clear h1 h2
  have hcm := comC_d (i := x.id) (k := 2) (q := x.quota) (f := x.fixed) l2
  have hcz := hcm.size
  have hd := hcm.set5 ⟨_, _, _, rfl, l5⟩ rfl
  go_enter Tryz.func48, Tryz.ntmps48
  go_wp2_with (first
   | go_skip
   | (with_reducible refine wpList_box rfl _ _ rfl C rfl ?_; intro B W hB hb hk)
   | (with_reducible refine wpList_load1 (by kernel_rfl) _ _ rfl B _ rfl _ _ hb _ (by assumption) (by assumption) ?_)
   | (with_reducible refine wpList_load1 (by kernel_rfl) _ _ rfl B _ rfl _ _ e2 _ (by assumption) (by assumption) ?_)
   | (with_reducible refine wpList_load1 (by kernel_rfl) _ _ rfl B _ rfl _ _ e3 _ (by assumption) (by assumption) ?_)
   | ((with_reducible refine wpList_build rfl _ _ rfl (comC (.int .u64 x.id) (.int .i64 2) (.slice a2 n2 k2) (.int .i64 x.quota) (.bool x.fixed)) ?hf ?_); (case hf => exact built_com _ _ _ _ _ _ _))
   | (with_reducible refine wpList_alloc rfl _ rfl zC zero40 ?_; intro B' W' hB' hb' hk'; have hne : B ≠ B' := (by have := hB'.out.1; have := hb.lt; omega); have b1 := hk.trans (hk'.mono hk.size); have hl' : w.heap.size ≤ B' := (by have := hB'.out.1; have := hk.size; omega))
   | ((with_reducible refine wpList_store_blk rfl _ _ _ rfl B' rfl (comC (.int .u64 x.id) (.int .i64 2) (.slice a2 n2 k2) (.int .i64 x.quota) (.bool x.fixed)) rfl zC hb' (size40C hcz) (zC_size.trans hcz.symm) hcm.one ?_); intro W2 b2 o2; have e2 := (hb.next hk').other o2 hne; have kb2 := o2.below w.heap.size w hl' b1)
   | ((with_reducible refine wpList_store_cell rfl _ _ _ rfl B' 5 rfl (.slice a5 n5 k5) rfl rfl _ _ b2 size25 (by first | (rw [hcz]; omega) | (rw [Array.size_setIfInBounds, hcz]; omega)) rfl ?_); intro W3 b3 o3; have e3 := e2.other o3 hne; have kb3 := o3.below w.heap.size w hl' kb2)
   | ((with_reducible refine wpList_load_blk rfl _ _ rfl B' rfl _ b3 _ Tryz.underlying43 rfl (size40C hd.size) ?_))
   | ((with_reducible refine wpList_load_blk rfl _ _ rfl B rfl _ e3 _ Tryz.underlying43 rfl (size40C hz) ?_))
   | (go_at_call 16; (with_reducible refine (rsameOne_any (hd.next kb3) (h.next kb3)).on ?_ ?_) <;> intro w9 hq hb9))
  ·go_ret
   exact askP_yes ((show aloO x = x by rw [halo]; exact hq.out)) (kb3.trans (hb9.mono kb3.size))
  ·go_ret
   exact askP_no hq (kb3.trans (hb9.mono kb3.size)) (fun e => (by rw [halo] at e; exact e))
 by_cases h3 : x.kind = 3
 ·replace c1 : C[1]? = some (.int .i64 3) := c1.trans (by rw [h3])
  have halo : aloO x = { (⟨x.id, 3, x.label, x.quota, x.fixed, [], [], [], zTh, zGt, [], []⟩ : Ob) with maps := x.maps } := by rw [alo3 h3, ← h3]; rfl
  clear h1 h2 h3
  have hcm := comC_d (i := x.id) (k := 3) (q := x.quota) (f := x.fixed) l2
  have hcz := hcm.size
  have hd := hcm.set7 ⟨_, _, _, rfl, l7⟩ rfl
  go_enter Tryz.func48, Tryz.ntmps48
  go_wp2_with (first
   | go_skip
   | (with_reducible refine wpList_box rfl _ _ rfl C rfl ?_; intro B W hB hb hk)
   | (with_reducible refine wpList_load1 (by kernel_rfl) _ _ rfl B _ rfl _ _ hb _ (by assumption) (by assumption) ?_)
   | (with_reducible refine wpList_load1 (by kernel_rfl) _ _ rfl B _ rfl _ _ e2 _ (by assumption) (by assumption) ?_)
   | (with_reducible refine wpList_load1 (by kernel_rfl) _ _ rfl B _ rfl _ _ e3 _ (by assumption) (by assumption) ?_)
   | ((with_reducible refine wpList_build rfl _ _ rfl (comC (.int .u64 x.id) (.int .i64 3) (.slice a2 n2 k2) (.int .i64 x.quota) (.bool x.fixed)) ?hf ?_); (case hf => exact built_com _ _ _ _ _ _ _))
   | (with_reducible refine wpList_alloc rfl _ rfl zC zero40 ?_; intro B' W' hB' hb' hk'; have hne : B ≠ B' := (by have := hB'.out.1; have := hb.lt; omega); have b1 := hk.trans (hk'.mono hk.size); have hl' : w.heap.size ≤ B' := (by have := hB'.out.1; have := hk.size; omega))
   | ((with_reducible refine wpList_store_blk rfl _ _ _ rfl B' rfl (comC (.int .u64 x.id) (.int .i64 3) (.slice a2 n2 k2) (.int .i64 x.quota) (.bool x.fixed)) rfl zC hb' (size40C hcz) (zC_size.trans hcz.symm) hcm.one ?_); intro W2 b2 o2; have e2 := (hb.next hk').other o2 hne; have kb2 := o2.below w.heap.size w hl' b1)
   | ((with_reducible refine wpList_store_cell rfl _ _ _ rfl B' 7 rfl (.slice a7 n7 k7) rfl rfl _ _ b2 size26 (by first | (rw [hcz]; omega) | (rw [Array.size_setIfInBounds, hcz]; omega)) rfl ?_); intro W3 b3 o3; have e3 := e2.other o3 hne; have kb3 := o3.below w.heap.size w hl' kb2)
   | ((with_reducible refine wpList_load_blk rfl _ _ rfl B' rfl _ b3 _ Tryz.underlying43 rfl (size40C hd.size) ?_))
   | ((with_reducible refine wpList_load_blk rfl _ _ rfl B rfl _ e3 _ Tryz.underlying43 rfl (size40C hz) ?_))
   | (go_at_call 16; (with_reducible refine (rsameOne_any (hd.next kb3) (h.next kb3)).on ?_ ?_) <;> intro w9 hq hb9))
  ·go_ret
   exact askP_yes ((show aloO x = x by rw [halo]; exact hq.out)) (kb3.trans (hb9.mono kb3.size))
  ·go_ret
   exact askP_no hq (kb3.trans (hb9.mono kb3.size)) (fun e => (by rw [halo] at e; exact e))
 by_cases h4 : x.kind = 4
 ·replace c1 : C[1]? = some (.int .i64 4) := c1.trans (by rw [h4])
  have halo : aloO x = { (⟨x.id, 4, x.label, x.quota, x.fixed, [], [], [], zTh, zGt, [], []⟩ : Ob) with th := x.th } := by rw [alo4 h4, ← h4]; rfl
  clear h1 h2 h3 h4
  have hcm := comC_d (i := x.id) (k := 4) (q := x.quota) (f := x.fixed) l2
  have hcz := hcm.size
  have hd := hcm.setT h.thd
  obtain ⟨CT, hCT⟩ : ∃ CT, ((comC (.int .u64 x.id) (.int .i64 4) (.slice a2 n2 k2) (.int .i64 x.quota) (.bool x.fixed)).extract 0 8 ++ C.extract 8 (8 + 35) ++ (comC (.int .u64 x.id) (.int .i64 4) (.slice a2 n2 k2) (.int .i64 x.quota) (.bool x.fixed)).extract (8 + (C.extract 8 (8 + 35)).size) (comC (.int .u64 x.id) (.int .i64 4) (.slice a2 n2 k2) (.int .i64 x.quota) (.bool x.fixed)).size) = CT := ⟨_, rfl⟩
  rw [hCT] at hd
  go_enter Tryz.func48, Tryz.ntmps48
  go_wp2_with (first
   | go_skip
   | (with_reducible refine wpList_box rfl _ _ rfl C rfl ?_; intro B W hB hb hk)
   | (with_reducible refine wpList_load1 (by kernel_rfl) _ _ rfl B _ rfl _ _ hb _ (by assumption) (by assumption) ?_)
   | (with_reducible refine wpList_load1 (by kernel_rfl) _ _ rfl B _ rfl _ _ e2 _ (by assumption) (by assumption) ?_)
   | (with_reducible refine wpList_load1 (by kernel_rfl) _ _ rfl B _ rfl _ _ e3 _ (by assumption) (by assumption) ?_)
   | ((with_reducible refine wpList_build rfl _ _ rfl (comC (.int .u64 x.id) (.int .i64 4) (.slice a2 n2 k2) (.int .i64 x.quota) (.bool x.fixed)) ?hf ?_); (case hf => exact built_com _ _ _ _ _ _ _))
   | (with_reducible refine wpList_alloc rfl _ rfl zC zero40 ?_; intro B' W' hB' hb' hk'; have hne : B ≠ B' := (by have := hB'.out.1; have := hb.lt; omega); have b1 := hk.trans (hk'.mono hk.size); have hl' : w.heap.size ≤ B' := (by have := hB'.out.1; have := hk.size; omega))
   | ((with_reducible refine wpList_store_blk rfl _ _ _ rfl B' rfl (comC (.int .u64 x.id) (.int .i64 4) (.slice a2 n2 k2) (.int .i64 x.quota) (.bool x.fixed)) rfl zC hb' (size40C hcz) (zC_size.trans hcz.symm) hcm.one ?_); intro W2 b2 o2; have e2 := (hb.next hk').other o2 hne; have kb2 := o2.below w.heap.size w hl' b1)
   | (with_reducible refine wpList_loadp (by kernel_rfl) 39 _ rfl B _ rfl 35 _ _ e2 _ rfl (by rw [hz]; omega) _ Tryz.underlying39 (by kernel_rfl) size36 ?_)
   | ((with_reducible refine wpList_store_part rfl _ _ _ rfl B' 8 rfl (C.extract 8 (8 + 35)) rfl _ _ b2 (by rw [h.thd.size]; exact size36) (by rw [h.thd.size, hcz]; omega) h.thd.one ?_); intro W3 b3 o3; rw [hCT] at b3; have e3 := e2.other o3 hne; have kb3 := o3.below w.heap.size w hl' kb2)
   | ((with_reducible refine wpList_load_blk rfl _ _ rfl B' rfl _ b3 _ Tryz.underlying43 rfl (size40C hd.size) ?_))
   | ((with_reducible refine wpList_load_blk rfl _ _ rfl B rfl _ e3 _ Tryz.underlying43 rfl (size40C hz) ?_))
   | (go_at_call 16; (with_reducible refine (rsameOne_any (hd.next kb3) (h.next kb3)).on ?_ ?_) <;> intro w9 hq hb9))
  ·go_ret
   exact askP_yes ((show aloO x = x by rw [halo]; exact hq.out)) (kb3.trans (hb9.mono kb3.size))
  ·go_ret
   exact askP_no hq (kb3.trans (hb9.mono kb3.size)) (fun e => (by rw [halo] at e; exact e))
 by_cases h5 : x.kind = 5
 ·replace c1 : C[1]? = some (.int .i64 5) := c1.trans (by rw [h5])
  have halo : aloO x = { (⟨x.id, 5, x.label, x.quota, x.fixed, [], [], [], zTh, zGt, [], []⟩ : Ob) with gt := x.gt } := by rw [alo5 h5, ← h5]; rfl
  clear h1 h2 h3 h4 h5
  have hcm := comC_d (i := x.id) (k := 5) (q := x.quota) (f := x.fixed) l2
  have hcz := hcm.size
  have hd := hcm.setG h.gtd
  obtain ⟨CT, hCT⟩ : ∃ CT, ((comC (.int .u64 x.id) (.int .i64 5) (.slice a2 n2 k2) (.int .i64 x.quota) (.bool x.fixed)).extract 0 43 ++ C.extract 43 (43 + 6) ++ (comC (.int .u64 x.id) (.int .i64 5) (.slice a2 n2 k2) (.int .i64 x.quota) (.bool x.fixed)).extract (43 + (C.extract 43 (43 + 6)).size) (comC (.int .u64 x.id) (.int .i64 5) (.slice a2 n2 k2) (.int .i64 x.quota) (.bool x.fixed)).size) = CT := ⟨_, rfl⟩
  rw [hCT] at hd
  go_enter Tryz.func48, Tryz.ntmps48
  go_wp2_with (first
   | go_skip
   | (with_reducible refine wpList_box rfl _ _ rfl C rfl ?_; intro B W hB hb hk)
   | (with_reducible refine wpList_load1 (by kernel_rfl) _ _ rfl B _ rfl _ _ hb _ (by assumption) (by assumption) ?_)
   | (with_reducible refine wpList_load1 (by kernel_rfl) _ _ rfl B _ rfl _ _ e2 _ (by assumption) (by assumption) ?_)
   | (with_reducible refine wpList_load1 (by kernel_rfl) _ _ rfl B _ rfl _ _ e3 _ (by assumption) (by assumption) ?_)
   | ((with_reducible refine wpList_build rfl _ _ rfl (comC (.int .u64 x.id) (.int .i64 5) (.slice a2 n2 k2) (.int .i64 x.quota) (.bool x.fixed)) ?hf ?_); (case hf => exact built_com _ _ _ _ _ _ _))
   | (with_reducible refine wpList_alloc rfl _ rfl zC zero40 ?_; intro B' W' hB' hb' hk'; have hne : B ≠ B' := (by have := hB'.out.1; have := hb.lt; omega); have b1 := hk.trans (hk'.mono hk.size); have hl' : w.heap.size ≤ B' := (by have := hB'.out.1; have := hk.size; omega))
   | ((with_reducible refine wpList_store_blk rfl _ _ _ rfl B' rfl (comC (.int .u64 x.id) (.int .i64 5) (.slice a2 n2 k2) (.int .i64 x.quota) (.bool x.fixed)) rfl zC hb' (size40C hcz) (zC_size.trans hcz.symm) hcm.one ?_); intro W2 b2 o2; have e2 := (hb.next hk').other o2 hne; have kb2 := o2.below w.heap.size w hl' b1)
   | (with_reducible refine wpList_loadp (by kernel_rfl) 41 _ rfl B _ rfl 6 _ _ e2 _ rfl (by rw [hz]; omega) _ Tryz.underlying41 (by kernel_rfl) size38 ?_)
   | ((with_reducible refine wpList_store_part rfl _ _ _ rfl B' 43 rfl (C.extract 43 (43 + 6)) rfl _ _ b2 (by rw [h.gtd.size]; exact size38) (by rw [h.gtd.size, hcz]; omega) h.gtd.one ?_); intro W3 b3 o3; rw [hCT] at b3; have e3 := e2.other o3 hne; have kb3 := o3.below w.heap.size w hl' kb2)
   | ((with_reducible refine wpList_load_blk rfl _ _ rfl B' rfl _ b3 _ Tryz.underlying43 rfl (size40C hd.size) ?_))
   | ((with_reducible refine wpList_load_blk rfl _ _ rfl B rfl _ e3 _ Tryz.underlying43 rfl (size40C hz) ?_))
   | (go_at_call 16; (with_reducible refine (rsameOne_any (hd.next kb3) (h.next kb3)).on ?_ ?_) <;> intro w9 hq hb9))
  ·go_ret
   exact askP_yes ((show aloO x = x by rw [halo]; exact hq.out)) (kb3.trans (hb9.mono kb3.size))
  ·go_ret
   exact askP_no hq (kb3.trans (hb9.mono kb3.size)) (fun e => (by rw [halo] at e; exact e))
 by_cases h6 : x.kind = 6
 ·replace c1 : C[1]? = some (.int .i64 6) := c1.trans (by rw [h6])
  have halo : aloO x = { (⟨x.id, 6, x.label, x.quota, x.fixed, [], [], [], zTh, zGt, [], []⟩ : Ob) with inn := x.inn, out := x.out } := by rw [alo6 h6, ← h6]; rfl
  clear h1 h2 h3 h4 h5 h6
  have hcm := comC_d (i := x.id) (k := 6) (q := x.quota) (f := x.fixed) l2
  have hcz := hcm.size
  have hd := (hcm.set49 ⟨_, _, _, rfl, l49⟩ rfl).set50 ⟨_, _, _, rfl, l50⟩ rfl
  go_enter Tryz.func48, Tryz.ntmps48
  go_wp2_with (first
   | go_skip
   | (with_reducible refine wpList_box rfl _ _ rfl C rfl ?_; intro B W hB hb hk)
   | (with_reducible refine wpList_load1 (by kernel_rfl) _ _ rfl B _ rfl _ _ hb _ (by assumption) (by assumption) ?_)
   | (with_reducible refine wpList_load1 (by kernel_rfl) _ _ rfl B _ rfl _ _ e2 _ (by assumption) (by assumption) ?_)
   | (with_reducible refine wpList_load1 (by kernel_rfl) _ _ rfl B _ rfl _ _ e3 _ (by assumption) (by assumption) ?_)
   | ((with_reducible refine wpList_build rfl _ _ rfl (comC (.int .u64 x.id) (.int .i64 6) (.slice a2 n2 k2) (.int .i64 x.quota) (.bool x.fixed)) ?hf ?_); (case hf => exact built_com _ _ _ _ _ _ _))
   | (with_reducible refine wpList_alloc rfl _ rfl zC zero40 ?_; intro B' W' hB' hb' hk'; have hne : B ≠ B' := (by have := hB'.out.1; have := hb.lt; omega); have b1 := hk.trans (hk'.mono hk.size); have hl' : w.heap.size ≤ B' := (by have := hB'.out.1; have := hk.size; omega))
   | ((with_reducible refine wpList_store_blk rfl _ _ _ rfl B' rfl (comC (.int .u64 x.id) (.int .i64 6) (.slice a2 n2 k2) (.int .i64 x.quota) (.bool x.fixed)) rfl zC hb' (size40C hcz) (zC_size.trans hcz.symm) hcm.one ?_); intro W2 b2 o2; have e2 := (hb.next hk').other o2 hne; have kb2 := o2.below w.heap.size w hl' b1)
   | ((with_reducible refine wpList_store_cell rfl _ _ _ rfl B' 49 rfl (.slice a49 n49 k49) rfl rfl _ _ b2 size25 (by first | (rw [hcz]; omega) | (rw [Array.size_setIfInBounds, hcz]; omega)) rfl ?_); intro W3 b3 o3; have e3 := e2.other o3 hne; have kb3 := o3.below w.heap.size w hl' kb2)
   | ((with_reducible refine wpList_store_cell rfl _ _ _ rfl B' 50 rfl (.slice a50 n50 k50) rfl rfl _ _ b3 size25 (by first | (rw [hcz]; omega) | (rw [Array.size_setIfInBounds, hcz]; omega)) rfl ?_); intro W4 b4 o4; have e4 := e3.other o4 hne; have kb4 := o4.below w.heap.size w hl' kb3)
   | ((with_reducible refine wpList_load_blk rfl _ _ rfl B' rfl _ b4 _ Tryz.underlying43 rfl (size40C hd.size) ?_))
   | ((with_reducible refine wpList_load_blk rfl _ _ rfl B rfl _ e4 _ Tryz.underlying43 rfl (size40C hz) ?_))
   | (go_at_call 16; (with_reducible refine (rsameOne_any (hd.next kb4) (h.next kb4)).on ?_ ?_) <;> intro w9 hq hb9))
  ·go_ret
   exact askP_yes ((show aloO x = x by rw [halo]; exact hq.out)) (kb4.trans (hb9.mono kb4.size))
  ·go_ret
   exact askP_no hq (kb4.trans (hb9.mono kb4.size)) (fun e => (by rw [halo] at e; exact e))
 ·have halo : aloO x = comO x := alo7 (by omega)
  have g1 : (x.kind == 1) = false := by rw [beq_eq_false_iff_ne]; exact h1
  have g2 : (x.kind == 2) = false := by rw [beq_eq_false_iff_ne]; exact h2
  have g3 : (x.kind == 3) = false := by rw [beq_eq_false_iff_ne]; exact h3
  have g4 : (x.kind == 4) = false := by rw [beq_eq_false_iff_ne]; exact h4
  have g5 : (x.kind == 5) = false := by rw [beq_eq_false_iff_ne]; exact h5
  have g6 : (x.kind == 6) = false := by rw [beq_eq_false_iff_ne]; exact h6
  clear h1 h2 h3 h4 h5 h6
  have hcm := comC_d (i := x.id) (k := x.kind) (q := x.quota) (f := x.fixed) l2
  have hcz := hcm.size
  have hd := hcm
  go_enter Tryz.func48, Tryz.ntmps48
  go_wp2_with (first
   | go_skip
   | (with_reducible refine wpList_box rfl _ _ rfl C rfl ?_; intro B W hB hb hk)
   | (with_reducible refine wpList_load1 (by kernel_rfl) _ _ rfl B _ rfl _ _ hb _ (by assumption) (by assumption) ?_)
   | (with_reducible refine wpList_load1 (by kernel_rfl) _ _ rfl B _ rfl _ _ e2 _ (by assumption) (by assumption) ?_)
   | (with_reducible refine wpList_load1 (by kernel_rfl) _ _ rfl B _ rfl _ _ e3 _ (by assumption) (by assumption) ?_)
   | ((with_reducible refine wpList_build rfl _ _ rfl (comC (.int .u64 x.id) (.int .i64 x.kind) (.slice a2 n2 k2) (.int .i64 x.quota) (.bool x.fixed)) ?hf ?_); (case hf => exact built_com _ _ _ _ _ _ _))
   | (with_reducible refine wpList_alloc rfl _ rfl zC zero40 ?_; intro B' W' hB' hb' hk'; have hne : B ≠ B' := (by have := hB'.out.1; have := hb.lt; omega); have b1 := hk.trans (hk'.mono hk.size); have hl' : w.heap.size ≤ B' := (by have := hB'.out.1; have := hk.size; omega))
   | ((with_reducible refine wpList_store_blk rfl _ _ _ rfl B' rfl (comC (.int .u64 x.id) (.int .i64 x.kind) (.slice a2 n2 k2) (.int .i64 x.quota) (.bool x.fixed)) rfl zC hb' (size40C hcz) (zC_size.trans hcz.symm) hcm.one ?_); intro W2 b2 o2; have e2 := (hb.next hk').other o2 hne; have kb2 := o2.below w.heap.size w hl' b1)
   | ((with_reducible refine wpList_load_blk rfl _ _ rfl B' rfl _ b2 _ Tryz.underlying43 rfl (size40C hd.size) ?_))
   | ((with_reducible refine wpList_load_blk rfl _ _ rfl B rfl _ e2 _ Tryz.underlying43 rfl (size40C hz) ?_))
   | (go_at_call 16; (with_reducible refine (rsameOne_any (hd.next kb2) (h.next kb2)).on ?_ ?_) <;> intro w9 hq hb9))
  ·go_ret
   exact askP_yes ((show aloO x = x by rw [halo]; exact hq.out)) (kb2.trans (hb9.mono kb2.size))
  ·go_ret
   exact askP_no hq (kb2.trans (hb9.mono kb2.size)) (fun e => (by rw [halo] at e; exact e))
end Go.Proofs.YtiiaohejldchdaaGreat
namespace Go.Proofs.YtiiaohejldchdaaGreat
set_option maxRecDepth 100000
set_option maxHeartbeats 8000000
open Go.RowKit Go.Shelf
set_option linter.unusedVariables false
attribute [local go_sem] Oper.semAt_some
theorem rowned_ask {w0 w : World} {ao : Option Addr} {n cap : Nat} {L : Lb} (h : LabD (LtN w0) w0 ao n cap L) (hk : Below w0.heap.size w0 w) (hn : n < 274877906944) : Calls Tryz.prog 49 #[.slice ao n cap] w fun e w' => ∃ ao1 cap1, e = .returned (.slice ao1 (owned L).length cap1) ∧ Below w.heap.size w w' := by
 refine (rowned_any (h.lab' hk) hn).mono ?_
 rintro e w' ⟨ao1, n1, cap1, rfl, hc, hb⟩
 have e1 := hc.1
 subst e1
 exact ⟨ao1, cap1, rfl, hb⟩
theorem own_pos {x : Ob} (hk : ¬ x.kind = 4) (hl : 0 < ((owned x.label).length : Int)) (e : soundB x = true) : False := by
 rcases (com_iff.1 (sound_iff.1 e).1).2.2.2.2 with e1 | e1
 ·exact hk e1
 ·rw [e1] at hl; simp at hl
theorem own_none {L : Lb} (h : ((owned L).length : Int) ≤ 0) : owned L = [] := List.eq_nil_of_length_eq_zero (by omega)
theorem rsound_any {w : World} {C : Array Value} {x : Ob} (h : ObD (LtN w) w C x) : Asks 21 #[.agg C] (soundB x = true) w := by
 have hz := h.size
 have c0 := h.id
 have c1 := h.kind
 obtain ⟨a2, n2, k2, c2, l2⟩ := h.label
 have hn2 : Hid (x.label.length = n2) := l2.1
 have c3 := h.quota
 have c4 := h.fixed
 obtain ⟨a5, n5, k5, c5, l5⟩ := h.links
 have hn5 : Hid (x.links.length = n5) := l5.1
 obtain ⟨a6, n6, k6, c6, l6⟩ := h.data
 have hn6 : Hid (x.data.length = n6) := l6.1
 obtain ⟨a7, n7, k7, c7, l7⟩ := h.maps
 have hn7 : Hid (x.maps.length = n7) := l7.1
 obtain ⟨a49, n49, k49, c49, l49⟩ := h.inn
 have hn49 : Hid (x.inn.length = n49) := l49.1
 obtain ⟨a50, n50, k50, c50, l50⟩ := h.out
 have hn50 : Hid (x.out.length = n50) := l50.1
 obtain ⟨a25, n25, k25, c25, l25⟩ := h.th.clear
 obtain ⟨a43, n43, k43, c43, l43⟩ := h.gt.grant
 obtain ⟨a44, n44, k44, c44, l44⟩ := h.gt.clear
 replace c25 : C[25]? = some (.slice a25 n25 k25) := c25
 replace c43 : C[43]? = some (.slice a43 n43 k43) := c43
 replace c44 : C[44]? = some (.slice a44 n44 k44) := c44
 have ga0 := Tryz.isAgg27
 have ga1 := Tryz.isAgg22
 have ga2 := Tryz.isAgg3
 have ga3 := Tryz.isAgg4
 have ga4 := Tryz.isAgg28
 have ga5 := Tryz.isAgg29
 unfold Asks
 go_enter Tryz.func21, Tryz.ntmps21
 try simp only [List.append]
 go_upto_region 1 with (first
  | (with_reducible refine wpList_box rfl _ _ rfl C rfl ?_; intro B W hB hb hk))
 refine wpT_region ?_
 refine wpT_sym [none, some (.int .u64 x.id)] 0 (a' := { tmps := #[.agg C, pt B 0, .bool false, pt B 0, .int .u64 x.id, ud, ud, ud, ud, ud, ud, ud, ud, ud, ud, ud, ud, ud, ud, ud, ud, ud, ud, ud, ud, ud, ud, ud, ud, ud, ud, ud, ud, ud, ud, ud, ud, ud, ud, ud, ud, ud, ud, ud, ud, ud, ud, ud, ud, ud, ud, ud, ud, ud, ud, ud, ud, ud, ud, ud, ud, ud, ud, ud, ud, ud, ud, ud, ud, ud, ud, ud, ud, ud, ud, ud, ud, ud, ud, ud, ud, ud, ud, ud, ud, ud, ud, ud, ud, ud, ud, ud, ud, ud, ud, ud, ud, ud, ud, ud, ud, ud, ud, ud, ud, ud, ud, ud, ud, ud, ud, ud, ud, ud, ud, ud, ud, ud, ud], defers := [] }) (obs := [.load 22 (B) (0) (.int .u64 x.id)]) (by kernel_rfl) ⟨ob_load1 (fun _ e => by rw [e]; exact hb) c0 ga1, trivial⟩ ?_
 refine wpT_ask (i := 2) (f := 46) (vs := [.int .u64 x.id]) (d := some 5) (by kernel_rfl) Tryz.call46 (rid_any x.id _) ?_ ?_
 ·intro w0 q0 hb1; replace hb := hb.next hb1; replace hk := hk.trans (hb1.mono hk.size); clear hb1
  refine wpT_sym [none, none, none, some (.int .i64 x.kind)] 3 (a' := { tmps := #[.agg C, pt B 0, .bool false, pt B 0, .int .u64 x.id, .bool true, .bool false, .bool false, pt B 1, .int .i64 x.kind, ud, ud, ud, ud, ud, ud, ud, ud, ud, ud, ud, ud, ud, ud, ud, ud, ud, ud, ud, ud, ud, ud, ud, ud, ud, ud, ud, ud, ud, ud, ud, ud, ud, ud, ud, ud, ud, ud, ud, ud, ud, ud, ud, ud, ud, ud, ud, ud, ud, ud, ud, ud, ud, ud, ud, ud, ud, ud, ud, ud, ud, ud, ud, ud, ud, ud, ud, ud, ud, ud, ud, ud, ud, ud, ud, ud, ud, ud, ud, ud, ud, ud, ud, ud, ud, ud, ud, ud, ud, ud, ud, ud, ud, ud, ud, ud, ud, ud, ud, ud, ud, ud, ud, ud, ud, ud, ud, ud, ud], defers := [] }) (obs := [.load 3 (B) (1) (.int .i64 x.kind)]) (by kernel_rfl) ⟨ob_load1 (fun _ e => by rw [e]; exact hb) c1 ga2, trivial⟩ ?_
  by_cases q1 : x.kind < 1
  ·replace q1 : Hid (x.kind < 1) := q1
   refine wpT_sym [some (.bool true), none, none, none, none, none, none, none, none, none, none, none, none, none, none, none, none, none, none, none, none, none, none, none, none, none, none, none] 7 (a' := { tmps := #[.agg C, pt B 0, .bool false, pt B 0, .int .u64 x.id, .bool true, .bool false, .bool false, pt B 1, .int .i64 x.kind, .bool true, .bool true, .bool true, ud, ud, ud, .bool true, .bool true, ud, ud, ud, ud, .bool true, .bool true, ud, ud, ud, .bool true, .bool true, ud, ud, ud, .bool true, .bool true, ud, ud, ud, .bool true, ud, ud, ud, ud, ud, ud, ud, ud, ud, ud, ud, ud, ud, ud, ud, ud, ud, ud, ud, ud, ud, ud, ud, ud, ud, ud, ud, ud, ud, ud, ud, ud, ud, ud, ud, ud, ud, ud, ud, ud, ud, ud, ud, ud, ud, ud, ud, ud, ud, ud, ud, ud, ud, ud, ud, ud, ud, ud, ud, ud, ud, ud, ud, ud, ud, ud, ud, ud, ud, ud, ud, ud, ud, ud, ud, ud, ud, ud, ud, ud, ud], defers := [] }) (obs := [.test .lss 3 (.tmp 9) (.const (.int .i64 1)) (.int .i64 x.kind) (.int .i64 1) (.bool true)]) (by kernel_rfl) ⟨ob_yes (fun _ => tlt_int _ _ _ _ _ _) q1, trivial⟩ ?_
   refine wpT_end (by kernel_rfl) ?_
   go_wp2
   go_ret
   refine ⟨false, rfl, ⟨fun e => absurd e Bool.false_ne_true, fun e => ?_⟩, hk⟩; exfalso; exact (own7 (by have := q1.out; omega)).1 (sound_iff.1 e).2.1
  ·replace q1 : Hid (¬ (x.kind < 1)) := q1
   refine wpT_sym [some (.bool false), none, none, none, some (.int .i64 x.kind)] 7 (a' := { tmps := #[.agg C, pt B 0, .bool false, pt B 0, .int .u64 x.id, .bool true, .bool false, .bool false, pt B 1, .int .i64 x.kind, .bool false, .bool false, .bool false, pt B 1, .int .i64 x.kind, ud, ud, ud, ud, ud, ud, ud, ud, ud, ud, ud, ud, ud, ud, ud, ud, ud, ud, ud, ud, ud, ud, ud, ud, ud, ud, ud, ud, ud, ud, ud, ud, ud, ud, ud, ud, ud, ud, ud, ud, ud, ud, ud, ud, ud, ud, ud, ud, ud, ud, ud, ud, ud, ud, ud, ud, ud, ud, ud, ud, ud, ud, ud, ud, ud, ud, ud, ud, ud, ud, ud, ud, ud, ud, ud, ud, ud, ud, ud, ud, ud, ud, ud, ud, ud, ud, ud, ud, ud, ud, ud, ud, ud, ud, ud, ud, ud, ud, ud, ud, ud, ud, ud, ud], defers := [] }) (obs := [.test .lss 3 (.tmp 9) (.const (.int .i64 1)) (.int .i64 x.kind) (.int .i64 1) (.bool false), .load 3 (B) (1) (.int .i64 x.kind)]) (by kernel_rfl) ⟨ob_no (fun _ => tlt_int _ _ _ _ _ _) q1, ob_load1 (fun _ e => by rw [e]; exact hb) c1 ga2, trivial⟩ ?_
   by_cases q2 : 6 < x.kind
   ·replace q2 : Hid (6 < x.kind) := q2
    refine wpT_sym [some (.bool true), none, none, none, none, none, none, none, none, none, none, none, none, none, none, none, none, none, none, none, none, none, none] 12 (a' := { tmps := #[.agg C, pt B 0, .bool false, pt B 0, .int .u64 x.id, .bool true, .bool false, .bool false, pt B 1, .int .i64 x.kind, .bool false, .bool false, .bool false, pt B 1, .int .i64 x.kind, .bool true, .bool true, .bool true, ud, ud, ud, ud, .bool true, .bool true, ud, ud, ud, .bool true, .bool true, ud, ud, ud, .bool true, .bool true, ud, ud, ud, .bool true, ud, ud, ud, ud, ud, ud, ud, ud, ud, ud, ud, ud, ud, ud, ud, ud, ud, ud, ud, ud, ud, ud, ud, ud, ud, ud, ud, ud, ud, ud, ud, ud, ud, ud, ud, ud, ud, ud, ud, ud, ud, ud, ud, ud, ud, ud, ud, ud, ud, ud, ud, ud, ud, ud, ud, ud, ud, ud, ud, ud, ud, ud, ud, ud, ud, ud, ud, ud, ud, ud, ud, ud, ud, ud, ud, ud, ud, ud, ud, ud, ud], defers := [] }) (obs := [.test .gtr 3 (.tmp 14) (.const (.int .i64 6)) (.int .i64 x.kind) (.int .i64 6) (.bool true)]) (by kernel_rfl) ⟨ob_yes (fun _ => tgt_int _ _ _ _ _ _) q2, trivial⟩ ?_
    refine wpT_end (by kernel_rfl) ?_
    go_wp2
    go_ret
    refine ⟨false, rfl, ⟨fun e => absurd e Bool.false_ne_true, fun e => ?_⟩, hk⟩; exfalso; exact (own7 (by have := q2.out; omega)).1 (sound_iff.1 e).2.1
   ·replace q2 : Hid (¬ (6 < x.kind)) := q2
    refine wpT_sym [some (.bool false), none, none, none, some (.slice a2 n2 k2)] 12 (a' := { tmps := #[.agg C, pt B 0, .bool false, pt B 0, .int .u64 x.id, .bool true, .bool false, .bool false, pt B 1, .int .i64 x.kind, .bool false, .bool false, .bool false, pt B 1, .int .i64 x.kind, .bool false, .bool false, .bool false, pt B 2, .slice a2 n2 k2, ud, ud, ud, ud, ud, ud, ud, ud, ud, ud, ud, ud, ud, ud, ud, ud, ud, ud, ud, ud, ud, ud, ud, ud, ud, ud, ud, ud, ud, ud, ud, ud, ud, ud, ud, ud, ud, ud, ud, ud, ud, ud, ud, ud, ud, ud, ud, ud, ud, ud, ud, ud, ud, ud, ud, ud, ud, ud, ud, ud, ud, ud, ud, ud, ud, ud, ud, ud, ud, ud, ud, ud, ud, ud, ud, ud, ud, ud, ud, ud, ud, ud, ud, ud, ud, ud, ud, ud, ud, ud, ud, ud, ud, ud, ud, ud, ud, ud, ud], defers := [] }) (obs := [.test .gtr 3 (.tmp 14) (.const (.int .i64 6)) (.int .i64 x.kind) (.int .i64 6) (.bool false), .load 27 (B) (2) (.slice a2 n2 k2)]) (by kernel_rfl) ⟨ob_no (fun _ => tgt_int _ _ _ _ _ _) q2, ob_load1 (fun _ e => by rw [e]; exact hb) c2 ga0, trivial⟩ ?_
    refine wpT_ask (i := 17) (f := 47) (vs := [.slice a2 n2 k2]) (d := some 20) (by kernel_rfl) Tryz.call47 (rkept_any l2 hk) ?_ ?_
    ·intro w3 q3 hb1; replace hb := hb.next hb1; replace hk := hk.trans (hb1.mono hk.size); clear hb1
     refine wpT_sym [none, none, none, none, some (.int .i64 x.quota)] 18 (a' := { tmps := #[.agg C, pt B 0, .bool false, pt B 0, .int .u64 x.id, .bool true, .bool false, .bool false, pt B 1, .int .i64 x.kind, .bool false, .bool false, .bool false, pt B 1, .int .i64 x.kind, .bool false, .bool false, .bool false, pt B 2, .slice a2 n2 k2, .bool true, .bool false, .bool false, .bool false, pt B 3, .int .i64 x.quota, ud, ud, ud, ud, ud, ud, ud, ud, ud, ud, ud, ud, ud, ud, ud, ud, ud, ud, ud, ud, ud, ud, ud, ud, ud, ud, ud, ud, ud, ud, ud, ud, ud, ud, ud, ud, ud, ud, ud, ud, ud, ud, ud, ud, ud, ud, ud, ud, ud, ud, ud, ud, ud, ud, ud, ud, ud, ud, ud, ud, ud, ud, ud, ud, ud, ud, ud, ud, ud, ud, ud, ud, ud, ud, ud, ud, ud, ud, ud, ud, ud, ud, ud, ud, ud, ud, ud, ud, ud, ud, ud, ud, ud], defers := [] }) (obs := [.load 3 (B) (3) (.int .i64 x.quota)]) (by kernel_rfl) ⟨ob_load1 (fun _ e => by rw [e]; exact hb) c3 ga2, trivial⟩ ?_
     by_cases q4 : x.quota < 1
     ·replace q4 : Hid (x.quota < 1) := q4
      refine wpT_sym [some (.bool true), none, none, none, none, none, none, none, none, none, none, none] 23 (a' := { tmps := #[.agg C, pt B 0, .bool false, pt B 0, .int .u64 x.id, .bool true, .bool false, .bool false, pt B 1, .int .i64 x.kind, .bool false, .bool false, .bool false, pt B 1, .int .i64 x.kind, .bool false, .bool false, .bool false, pt B 2, .slice a2 n2 k2, .bool true, .bool false, .bool false, .bool false, pt B 3, .int .i64 x.quota, .bool true, .bool true, .bool true, ud, ud, ud, .bool true, .bool true, ud, ud, ud, .bool true, ud, ud, ud, ud, ud, ud, ud, ud, ud, ud, ud, ud, ud, ud, ud, ud, ud, ud, ud, ud, ud, ud, ud, ud, ud, ud, ud, ud, ud, ud, ud, ud, ud, ud, ud, ud, ud, ud, ud, ud, ud, ud, ud, ud, ud, ud, ud, ud, ud, ud, ud, ud, ud, ud, ud, ud, ud, ud, ud, ud, ud, ud, ud, ud, ud, ud, ud, ud, ud, ud, ud, ud, ud, ud, ud, ud, ud, ud, ud, ud, ud], defers := [] }) (obs := [.test .lss 3 (.tmp 25) (.const (.int .i64 1)) (.int .i64 x.quota) (.int .i64 1) (.bool true)]) (by kernel_rfl) ⟨ob_yes (fun _ => tlt_int _ _ _ _ _ _) q4, trivial⟩ ?_
      refine wpT_end (by kernel_rfl) ?_
      go_wp2
      go_ret
      refine ⟨false, rfl, ⟨fun e => absurd e Bool.false_ne_true, fun e => ?_⟩, hk⟩; exfalso; have := com_iff.1 (sound_iff.1 e).1; have := q4.out; omega
     ·replace q4 : Hid (¬ (x.quota < 1)) := q4
      refine wpT_sym [some (.bool false), none, none, none, some (.int .i64 x.quota)] 23 (a' := { tmps := #[.agg C, pt B 0, .bool false, pt B 0, .int .u64 x.id, .bool true, .bool false, .bool false, pt B 1, .int .i64 x.kind, .bool false, .bool false, .bool false, pt B 1, .int .i64 x.kind, .bool false, .bool false, .bool false, pt B 2, .slice a2 n2 k2, .bool true, .bool false, .bool false, .bool false, pt B 3, .int .i64 x.quota, .bool false, .bool false, .bool false, pt B 3, .int .i64 x.quota, ud, ud, ud, ud, ud, ud, ud, ud, ud, ud, ud, ud, ud, ud, ud, ud, ud, ud, ud, ud, ud, ud, ud, ud, ud, ud, ud, ud, ud, ud, ud, ud, ud, ud, ud, ud, ud, ud, ud, ud, ud, ud, ud, ud, ud, ud, ud, ud, ud, ud, ud, ud, ud, ud, ud, ud, ud, ud, ud, ud, ud, ud, ud, ud, ud, ud, ud, ud, ud, ud, ud, ud, ud, ud, ud, ud, ud, ud, ud, ud, ud, ud, ud, ud, ud, ud, ud, ud], defers := [] }) (obs := [.test .lss 3 (.tmp 25) (.const (.int .i64 1)) (.int .i64 x.quota) (.int .i64 1) (.bool false), .load 3 (B) (3) (.int .i64 x.quota)]) (by kernel_rfl) ⟨ob_no (fun _ => tlt_int _ _ _ _ _ _) q4, ob_load1 (fun _ e => by rw [e]; exact hb) c3 ga2, trivial⟩ ?_
      by_cases q5 : 4096 < x.quota
      ·replace q5 : Hid (4096 < x.quota) := q5
       refine wpT_sym [some (.bool true), none, none, none, none, none, none] 28 (a' := { tmps := #[.agg C, pt B 0, .bool false, pt B 0, .int .u64 x.id, .bool true, .bool false, .bool false, pt B 1, .int .i64 x.kind, .bool false, .bool false, .bool false, pt B 1, .int .i64 x.kind, .bool false, .bool false, .bool false, pt B 2, .slice a2 n2 k2, .bool true, .bool false, .bool false, .bool false, pt B 3, .int .i64 x.quota, .bool false, .bool false, .bool false, pt B 3, .int .i64 x.quota, .bool true, .bool true, .bool true, ud, ud, ud, .bool true, ud, ud, ud, ud, ud, ud, ud, ud, ud, ud, ud, ud, ud, ud, ud, ud, ud, ud, ud, ud, ud, ud, ud, ud, ud, ud, ud, ud, ud, ud, ud, ud, ud, ud, ud, ud, ud, ud, ud, ud, ud, ud, ud, ud, ud, ud, ud, ud, ud, ud, ud, ud, ud, ud, ud, ud, ud, ud, ud, ud, ud, ud, ud, ud, ud, ud, ud, ud, ud, ud, ud, ud, ud, ud, ud, ud, ud, ud, ud, ud, ud], defers := [] }) (obs := [.test .gtr 3 (.tmp 30) (.const (.int .i64 4096)) (.int .i64 x.quota) (.int .i64 4096) (.bool true)]) (by kernel_rfl) ⟨ob_yes (fun _ => tgt_int _ _ _ _ _ _) q5, trivial⟩ ?_
       refine wpT_end (by kernel_rfl) ?_
       go_wp2
       go_ret
       refine ⟨false, rfl, ⟨fun e => absurd e Bool.false_ne_true, fun e => ?_⟩, hk⟩; exfalso; have := com_iff.1 (sound_iff.1 e).1; have := q5.out; omega
      ·replace q5 : Hid (¬ (4096 < x.quota)) := q5
       refine wpT_sym [some (.bool false), none, none, some (.agg C)] 28 (a' := { tmps := #[.agg C, pt B 0, .bool false, pt B 0, .int .u64 x.id, .bool true, .bool false, .bool false, pt B 1, .int .i64 x.kind, .bool false, .bool false, .bool false, pt B 1, .int .i64 x.kind, .bool false, .bool false, .bool false, pt B 2, .slice a2 n2 k2, .bool true, .bool false, .bool false, .bool false, pt B 3, .int .i64 x.quota, .bool false, .bool false, .bool false, pt B 3, .int .i64 x.quota, .bool false, .bool false, .bool false, .agg C, ud, ud, ud, ud, ud, ud, ud, ud, ud, ud, ud, ud, ud, ud, ud, ud, ud, ud, ud, ud, ud, ud, ud, ud, ud, ud, ud, ud, ud, ud, ud, ud, ud, ud, ud, ud, ud, ud, ud, ud, ud, ud, ud, ud, ud, ud, ud, ud, ud, ud, ud, ud, ud, ud, ud, ud, ud, ud, ud, ud, ud, ud, ud, ud, ud, ud, ud, ud, ud, ud, ud, ud, ud, ud, ud, ud, ud, ud, ud, ud, ud, ud, ud, ud], defers := [] }) (obs := [.test .gtr 3 (.tmp 30) (.const (.int .i64 4096)) (.int .i64 x.quota) (.int .i64 4096) (.bool false), .load 43 (B) (0) (.agg C)]) (by kernel_rfl) ⟨ob_no (fun _ => tgt_int _ _ _ _ _ _) q5, ob_loadb (fun _ e => by rw [e]; exact hb) Tryz.underlying43 (by kernel_rfl) (size40C hz), trivial⟩ ?_
       refine wpT_ask (i := 32) (f := 48) (vs := [.agg C]) (d := some 35) (by kernel_rfl) Tryz.call48 (ralone_any (h.next hk)) ?_ ?_
       ·intro w6 q6 hb1; replace hb := hb.next hb1; replace hk := hk.trans (hb1.mono hk.size); clear hb1
        refine wpT_sym [none, none] 33 (a' := { tmps := #[.agg C, pt B 0, .bool false, pt B 0, .int .u64 x.id, .bool true, .bool false, .bool false, pt B 1, .int .i64 x.kind, .bool false, .bool false, .bool false, pt B 1, .int .i64 x.kind, .bool false, .bool false, .bool false, pt B 2, .slice a2 n2 k2, .bool true, .bool false, .bool false, .bool false, pt B 3, .int .i64 x.quota, .bool false, .bool false, .bool false, pt B 3, .int .i64 x.quota, .bool false, .bool false, .bool false, .agg C, .bool true, .bool false, .bool false, ud, ud, ud, ud, ud, ud, ud, ud, ud, ud, ud, ud, ud, ud, ud, ud, ud, ud, ud, ud, ud, ud, ud, ud, ud, ud, ud, ud, ud, ud, ud, ud, ud, ud, ud, ud, ud, ud, ud, ud, ud, ud, ud, ud, ud, ud, ud, ud, ud, ud, ud, ud, ud, ud, ud, ud, ud, ud, ud, ud, ud, ud, ud, ud, ud, ud, ud, ud, ud, ud, ud, ud, ud, ud, ud, ud, ud, ud, ud, ud, ud], defers := [] }) (obs := []) (by kernel_rfl) trivial ?_
        refine wpT_end (by kernel_rfl) ?_
        have hqa : 1 ≤ x.quota := by have := q4.out; omega
        have hqb : x.quota ≤ 4096 := by have := q5.out; omega
        have hka : 1 ≤ x.kind := by have := q1.out; omega
        have hkb : x.kind ≤ 6 := by have := q2.out; omega
        have hkl : n2 < 274877906944 := by have := (kept_iff.1 q3.out).1; rw [hn2.out] at this; omega
        have hw1 : IntKind.i64.wrap (x.quota - 1) = x.quota - 1 := by rw [IntKind.wrap_i64]; omega
        have hw2 : IntKind.i64.wrap (16 * (x.quota - 1)) = 16 * (x.quota - 1) := by rw [IntKind.wrap_i64]; omega
        by_cases hk1 : x.kind = 1
        ·have hkd0 := hk1
         replace c1 : C[1]? = some (.int .i64 1) := c1.trans (by rw [hkd0])
         have hkd : x.kind = 1 := hkd0
         have hkH : Hid (x.kind = 1) := hkd
         clear hkd hkd0 hka hkb hk1
         go_wp2_with (first
          | go_skip
          | (with_reducible refine wpList_load1 (by kernel_rfl) _ _ rfl B _ rfl _ _ hb _ (by assumption) (by assumption) ?_)
          | ((with_reducible refine wpList_test (by kernel_rfl) .leq _ _ _ _ rfl _ _ rfl rfl (tle_int _ _ _ _ _ _) ?_ ?_) <;> intro hq)
          | (go_at_call 49; (with_reducible refine (rowned_ask l2 hk hkl).mono ?_); rintro e w1 ⟨ao1, cap1, rfl, hb1⟩; replace hb := hb.next hb1; replace hk := hk.trans (hb1.mono hk.size); clear hb1)
          | ((with_reducible refine wpList_test (by kernel_rfl) .gtr _ _ _ _ rfl _ _ rfl rfl (tgt_int _ _ _ _ _ _) ?_ ?_) <;> intro hq))
         all_goals go_ret
         all_goals first
          | (refine askP_yes (sound_iff.2 ⟨com_iff.2 ⟨q0.out, hqa, hqb, q3.out, .inr (own_none (Hid.out (by assumption)))⟩, (own1 hkH.out).2 ?_, (alone_iff x).2 q6.out⟩) hk; rw [hn6.out]; exact Hid.out (by assumption))
          | (have hl : 16 * (x.quota - 1) < (n6 : Int) := Hid.out (by assumption); refine ⟨false, rfl, ⟨fun e => absurd e Bool.false_ne_true, fun e => ?_⟩, hk⟩; exfalso; replace e := ((own1 hkH.out).1 (sound_iff.1 e).2.1); rw [hn6.out] at e; omega)
          | (have hl : 0 < ((owned x.label).length : Int) := Hid.out (by assumption); refine ⟨false, rfl, ⟨fun e => absurd e Bool.false_ne_true, fun e => ?_⟩, hk⟩; exact (own_pos (by have := hkH.out; omega) hl e).elim)
          | fail
        by_cases hk2 : x.kind = 2
        ·have hkd0 := hk2
         replace c1 : C[1]? = some (.int .i64 2) := c1.trans (by rw [hkd0])
         have hkd : x.kind = 2 := hkd0
         have hkH : Hid (x.kind = 2) := hkd
         clear hkd hkd0 hka hkb hk1 hk2
         go_wp2_with (first
          | go_skip
          | (with_reducible refine wpList_load1 (by kernel_rfl) _ _ rfl B _ rfl _ _ hb _ (by assumption) (by assumption) ?_)
          | ((with_reducible refine wpList_test (by kernel_rfl) .leq _ _ _ _ rfl _ _ rfl rfl (tle_int _ _ _ _ _ _) ?_ ?_) <;> intro hq)
          | (go_at_call 50; (with_reducible refine (rrising_any l5 hk).on ?_ ?_) <;> (intro w1 hq hb1; replace hb := hb.next hb1; replace hk := hk.trans (hb1.mono hk.size); clear hb1))
          | (go_at_call 49; (with_reducible refine (rowned_ask l2 hk hkl).mono ?_); rintro e w1 ⟨ao1, cap1, rfl, hb1⟩; replace hb := hb.next hb1; replace hk := hk.trans (hb1.mono hk.size); clear hb1)
          | ((with_reducible refine wpList_test (by kernel_rfl) .gtr _ _ _ _ rfl _ _ rfl rfl (tgt_int _ _ _ _ _ _) ?_ ?_) <;> intro hq))
         all_goals go_ret
         all_goals first
          | (refine askP_yes (sound_iff.2 ⟨com_iff.2 ⟨q0.out, hqa, hqb, q3.out, .inr (own_none (Hid.out (by assumption)))⟩, (own2 hkH.out).2 ⟨?_, (Hid.out (by assumption) : allI x.links = true ∧ risB x.links = true).1, (Hid.out (by assumption) : allI x.links = true ∧ risB x.links = true).2⟩, (alone_iff x).2 q6.out⟩) hk; (have hl : (n5 : Int) ≤ 64 := Hid.out (by assumption)); rw [hn5.out]; omega)
          | (refine askP_no (Y := allI x.links = true ∧ risB x.links = true) (by assumption) hk (fun e => ((own2 hkH.out).1 (sound_iff.1 e).2.1).2))
          | (have hl : 64 < (n5 : Int) := Hid.out (by assumption); refine ⟨false, rfl, ⟨fun e => absurd e Bool.false_ne_true, fun e => ?_⟩, hk⟩; exfalso; replace e := ((own2 hkH.out).1 (sound_iff.1 e).2.1); have := e.1; rw [hn5.out] at this; omega)
          | (have hl : 0 < ((owned x.label).length : Int) := Hid.out (by assumption); refine ⟨false, rfl, ⟨fun e => absurd e Bool.false_ne_true, fun e => ?_⟩, hk⟩; exact (own_pos (by have := hkH.out; omega) hl e).elim)
          | fail
        by_cases hk3 : x.kind = 3
        ·have hkd0 := hk3
         replace c1 : C[1]? = some (.int .i64 3) := c1.trans (by rw [hkd0])
         have hkd : x.kind = 3 := hkd0
         have hkH : Hid (x.kind = 3) := hkd
         clear hkd hkd0 hka hkb hk1 hk2 hk3
         go_wp2_with (first
          | go_skip
          | (with_reducible refine wpList_load1 (by kernel_rfl) _ _ rfl B _ rfl _ _ hb _ (by assumption) (by assumption) ?_)
          | (go_at_call 51; (with_reducible refine (Asks.of (PgM.rfit_any (MpD.mp' l7 hk))).on ?_ ?_) <;> (intro w1 hq hb1; replace hb := hb.next hb1; replace hk := hk.trans (hb1.mono hk.size); clear hb1))
          | (go_at_call 49; (with_reducible refine (rowned_ask l2 hk hkl).mono ?_); rintro e w1 ⟨ao1, cap1, rfl, hb1⟩; replace hb := hb.next hb1; replace hk := hk.trans (hb1.mono hk.size); clear hb1)
          | ((with_reducible refine wpList_test (by kernel_rfl) .gtr _ _ _ _ rfl _ _ rfl rfl (tgt_int _ _ _ _ _ _) ?_ ?_) <;> intro hq))
         all_goals go_ret
         all_goals first
          | (refine askP_yes (sound_iff.2 ⟨com_iff.2 ⟨q0.out, hqa, hqb, q3.out, .inr (own_none (Hid.out (by assumption)))⟩, (own3 hkH.out).2 (Hid.out (by assumption)), (alone_iff x).2 q6.out⟩) hk)
          | (refine askP_no (Y := PgM.Pg.fitB x.maps = true) (by assumption) hk (fun e => (own3 hkH.out).1 (sound_iff.1 e).2.1))
          | (have hl : 0 < ((owned x.label).length : Int) := Hid.out (by assumption); refine ⟨false, rfl, ⟨fun e => absurd e Bool.false_ne_true, fun e => ?_⟩, hk⟩; exact (own_pos (by have := hkH.out; omega) hl e).elim)
          | fail
        by_cases hk4 : x.kind = 4
        ·have hkd0 := hk4
         replace c1 : C[1]? = some (.int .i64 4) := c1.trans (by rw [hkd0])
         have hkd : x.kind = 4 := hkd0
         have hkH : Hid (x.kind = 4) := hkd
         clear hkd hkd0 hka hkb hk1 hk2 hk3 hk4
         cases hfx : x.fixed with
         | false =>
          rw [hfx] at c4
          go_wp2_with (first
           | go_skip
           | (with_reducible refine wpList_load1 (by kernel_rfl) _ _ rfl B _ rfl _ _ hb _ (by assumption) (by assumption) ?_)
           | (with_reducible refine wpList_loadp (by kernel_rfl) 39 _ rfl B _ rfl 35 _ _ hb _ rfl (by rw [hz]; omega) _ Tryz.underlying39 (by kernel_rfl) size36 ?_)
           | (go_at_call 52; (with_reducible refine (rthread_any (lab_eq l2 hk) (h.thd.next hk)).on ?_ ?_) <;> (intro w1 hq hb1; replace hb := hb.next hb1; replace hk := hk.trans (hb1.mono hk.size); clear hb1)))
          all_goals go_ret
          all_goals first
           | (refine askP_yes (sound_iff.2 ⟨com_iff.2 ⟨q0.out, hqa, hqb, q3.out, .inl hkH.out⟩, (own4 hkH.out).2 ⟨hfx, boun_iff.2 ⟨q3.out, (Hid.out (by assumption) : (keptB x.th.clear = true ∧ rleqB x.label x.th.clear = true ∧ thrB x.th = true)).1, by rw [← rleq_eq (fit_iff (kept_iff.1 q3.out).2.1) (fit_iff (kept_iff.1 (Hid.out (by assumption) : (keptB x.th.clear = true ∧ rleqB x.label x.th.clear = true ∧ thrB x.th = true)).1).2.1)]; exact (Hid.out (by assumption) : (keptB x.th.clear = true ∧ rleqB x.label x.th.clear = true ∧ thrB x.th = true)).2.1⟩, (Hid.out (by assumption) : (keptB x.th.clear = true ∧ rleqB x.label x.th.clear = true ∧ thrB x.th = true)).2.2⟩, (alone_iff x).2 q6.out⟩) hk)
           | (refine askP_no (Y := (keptB x.th.clear = true ∧ rleqB x.label x.th.clear = true ∧ thrB x.th = true)) (by assumption) hk (fun e => ?_); have e4 := (own4 hkH.out).1 (sound_iff.1 e).2.1; have e5 := boun_iff.1 e4.2.1; exact ⟨e5.2.1, (by rw [rleq_eq (fit_iff (kept_iff.1 e5.1).2.1) (fit_iff (kept_iff.1 e5.2.1).2.1)]; exact e5.2.2), e4.2.2⟩)
           | (refine ⟨false, rfl, ⟨fun e => absurd e Bool.false_ne_true, fun e => ?_⟩, hk⟩; exfalso; replace e := ((own4 hkH.out).1 (sound_iff.1 e).2.1); rw [hfx] at e; cases e.1)
           | fail
         | true =>
          rw [hfx] at c4
          go_wp2_with (first
           | go_skip
           | (with_reducible refine wpList_load1 (by kernel_rfl) _ _ rfl B _ rfl _ _ hb _ (by assumption) (by assumption) ?_)
           | (with_reducible refine wpList_loadp (by kernel_rfl) 39 _ rfl B _ rfl 35 _ _ hb _ rfl (by rw [hz]; omega) _ Tryz.underlying39 (by kernel_rfl) size36 ?_)
           | (go_at_call 52; (with_reducible refine (rthread_any (lab_eq l2 hk) (h.thd.next hk)).on ?_ ?_) <;> (intro w1 hq hb1; replace hb := hb.next hb1; replace hk := hk.trans (hb1.mono hk.size); clear hb1)))
          all_goals go_ret
          all_goals first
           | (refine askP_yes (sound_iff.2 ⟨com_iff.2 ⟨q0.out, hqa, hqb, q3.out, .inl hkH.out⟩, (own4 hkH.out).2 ⟨hfx, boun_iff.2 ⟨q3.out, (Hid.out (by assumption) : (keptB x.th.clear = true ∧ rleqB x.label x.th.clear = true ∧ thrB x.th = true)).1, by rw [← rleq_eq (fit_iff (kept_iff.1 q3.out).2.1) (fit_iff (kept_iff.1 (Hid.out (by assumption) : (keptB x.th.clear = true ∧ rleqB x.label x.th.clear = true ∧ thrB x.th = true)).1).2.1)]; exact (Hid.out (by assumption) : (keptB x.th.clear = true ∧ rleqB x.label x.th.clear = true ∧ thrB x.th = true)).2.1⟩, (Hid.out (by assumption) : (keptB x.th.clear = true ∧ rleqB x.label x.th.clear = true ∧ thrB x.th = true)).2.2⟩, (alone_iff x).2 q6.out⟩) hk)
           | (refine askP_no (Y := (keptB x.th.clear = true ∧ rleqB x.label x.th.clear = true ∧ thrB x.th = true)) (by assumption) hk (fun e => ?_); have e4 := (own4 hkH.out).1 (sound_iff.1 e).2.1; have e5 := boun_iff.1 e4.2.1; exact ⟨e5.2.1, (by rw [rleq_eq (fit_iff (kept_iff.1 e5.1).2.1) (fit_iff (kept_iff.1 e5.2.1).2.1)]; exact e5.2.2), e4.2.2⟩)
           | (refine ⟨false, rfl, ⟨fun e => absurd e Bool.false_ne_true, fun e => ?_⟩, hk⟩; exfalso; replace e := ((own4 hkH.out).1 (sound_iff.1 e).2.1); rw [hfx] at e; cases e.1)
           | fail
        by_cases hk5 : x.kind = 5
        ·have hkd0 := hk5
         replace c1 : C[1]? = some (.int .i64 5) := c1.trans (by rw [hkd0])
         have hkd : x.kind = 5 := hkd0
         have hkH : Hid (x.kind = 5) := hkd
         clear hkd hkd0 hka hkb hk1 hk2 hk3 hk4 hk5
         go_wp2_with (first
          | go_skip
          | (with_reducible refine wpList_load1 (by kernel_rfl) _ _ rfl B _ rfl _ _ hb _ (by assumption) (by assumption) ?_)
          | (go_at_call 47; (with_reducible refine (rkept_any l43 hk).on ?_ ?_) <;> (intro w1 hq hb1; replace hb := hb.next hb1; replace hk := hk.trans (hb1.mono hk.size); clear hb1))
          | (go_at_call 47; (with_reducible refine (rkept_any l44 hk).on ?_ ?_) <;> (intro w1 hq hb1; replace hb := hb.next hb1; replace hk := hk.trans (hb1.mono hk.size); clear hb1))
          | (go_at_call 20; (with_reducible refine (Asks.of (rlleq_any (l43.lab' hk) (l44.lab' hk))).on ?_ ?_) <;> (intro w1 hq hb1; replace hb := hb.next hb1; replace hk := hk.trans (hb1.mono hk.size); clear hb1))
          | (go_at_call 49; (with_reducible refine (rowned_ask l2 hk hkl).mono ?_); rintro e w1 ⟨ao1, cap1, rfl, hb1⟩; replace hb := hb.next hb1; replace hk := hk.trans (hb1.mono hk.size); clear hb1)
          | ((with_reducible refine wpList_test (by kernel_rfl) .gtr _ _ _ _ rfl _ _ rfl rfl (tgt_int _ _ _ _ _ _) ?_ ?_) <;> intro hq))
         all_goals go_ret
         all_goals first
          | (refine askP_yes (sound_iff.2 ⟨com_iff.2 ⟨q0.out, hqa, hqb, q3.out, .inr (own_none (Hid.out (by assumption)))⟩, (own5 hkH.out).2 (boun_iff.2 ⟨Hid.out (by assumption), Hid.out (by assumption), by rw [← rleq_eq (fit_iff (kept_iff.1 (Hid.out (by assumption) : keptB x.gt.grant = true)).2.1) (fit_iff (kept_iff.1 (Hid.out (by assumption) : keptB x.gt.clear = true)).2.1)]; exact Hid.out (by assumption)⟩), (alone_iff x).2 q6.out⟩) hk)
          | (refine askP_no (Y := rleqB x.gt.grant x.gt.clear = true) (by assumption) hk (fun e => ?_); have e5 := boun_iff.1 ((own5 hkH.out).1 (sound_iff.1 e).2.1); rw [rleq_eq (fit_iff (kept_iff.1 e5.1).2.1) (fit_iff (kept_iff.1 e5.2.1).2.1)]; exact e5.2.2)
          | (refine askP_no (Y := keptB x.gt.clear = true) (by assumption) hk (fun e => (boun_iff.1 ((own5 hkH.out).1 (sound_iff.1 e).2.1)).2.1))
          | (refine askP_no (Y := keptB x.gt.grant = true) (by assumption) hk (fun e => (boun_iff.1 ((own5 hkH.out).1 (sound_iff.1 e).2.1)).1))
          | (have hl : 0 < ((owned x.label).length : Int) := Hid.out (by assumption); refine ⟨false, rfl, ⟨fun e => absurd e Bool.false_ne_true, fun e => ?_⟩, hk⟩; exact (own_pos (by have := hkH.out; omega) hl e).elim)
          | fail
        ·have hkd0 : x.kind = 6 := by omega
         replace c1 : C[1]? = some (.int .i64 6) := c1.trans (by rw [hkd0])
         have hkd : x.kind = 6 := hkd0
         have hkH : Hid (x.kind = 6) := hkd
         clear hkd hkd0 hka hkb hk1 hk2 hk3 hk4 hk5
         go_wp2_with (first
          | go_skip
          | (with_reducible refine wpList_load1 (by kernel_rfl) _ _ rfl B _ rfl _ _ hb _ (by assumption) (by assumption) ?_)
          | ((with_reducible refine wpList_test (by kernel_rfl) .leq _ _ _ _ rfl _ _ rfl rfl (tle_int _ _ _ _ _ _) ?_ ?_) <;> intro hq)
          | (go_at_call 49; (with_reducible refine (rowned_ask l2 hk hkl).mono ?_); rintro e w1 ⟨ao1, cap1, rfl, hb1⟩; replace hb := hb.next hb1; replace hk := hk.trans (hb1.mono hk.size); clear hb1)
          | ((with_reducible refine wpList_test (by kernel_rfl) .gtr _ _ _ _ rfl _ _ rfl rfl (tgt_int _ _ _ _ _ _) ?_ ?_) <;> intro hq))
         all_goals go_ret
         all_goals first
          | (have h1 : (n49 : Int) ≤ 64 := Hid.out (by assumption); have h2 : (n50 : Int) ≤ 1024 := Hid.out (by assumption); exact askP_yes (sound_iff.2 ⟨com_iff.2 ⟨q0.out, hqa, hqb, q3.out, .inr (own_none (Hid.out (by assumption)))⟩, (own6 hkH.out).2 ⟨by rw [hn49.out]; omega, by rw [hn50.out]; omega⟩, (alone_iff x).2 q6.out⟩) hk)
          | (have hl : 1024 < (n50 : Int) := Hid.out (by assumption); refine ⟨false, rfl, ⟨fun e => absurd e Bool.false_ne_true, fun e => ?_⟩, hk⟩; exfalso; replace e := ((own6 hkH.out).1 (sound_iff.1 e).2.1); have := e.2; rw [hn50.out] at this; omega)
          | (have hl : 64 < (n49 : Int) := Hid.out (by assumption); refine ⟨false, rfl, ⟨fun e => absurd e Bool.false_ne_true, fun e => ?_⟩, hk⟩; exfalso; replace e := ((own6 hkH.out).1 (sound_iff.1 e).2.1); have := e.1; rw [hn49.out] at this; omega)
          | (have hl : 0 < ((owned x.label).length : Int) := Hid.out (by assumption); refine ⟨false, rfl, ⟨fun e => absurd e Bool.false_ne_true, fun e => ?_⟩, hk⟩; exact (own_pos (by have := hkH.out; omega) hl e).elim)
          | fail
       ·intro w6 q6 hb1; replace hb := hb.next hb1; replace hk := hk.trans (hb1.mono hk.size); clear hb1
        refine wpT_sym [none, none] 33 (a' := { tmps := #[.agg C, pt B 0, .bool false, pt B 0, .int .u64 x.id, .bool true, .bool false, .bool false, pt B 1, .int .i64 x.kind, .bool false, .bool false, .bool false, pt B 1, .int .i64 x.kind, .bool false, .bool false, .bool false, pt B 2, .slice a2 n2 k2, .bool true, .bool false, .bool false, .bool false, pt B 3, .int .i64 x.quota, .bool false, .bool false, .bool false, pt B 3, .int .i64 x.quota, .bool false, .bool false, .bool false, .agg C, .bool false, .bool true, .bool true, ud, ud, ud, ud, ud, ud, ud, ud, ud, ud, ud, ud, ud, ud, ud, ud, ud, ud, ud, ud, ud, ud, ud, ud, ud, ud, ud, ud, ud, ud, ud, ud, ud, ud, ud, ud, ud, ud, ud, ud, ud, ud, ud, ud, ud, ud, ud, ud, ud, ud, ud, ud, ud, ud, ud, ud, ud, ud, ud, ud, ud, ud, ud, ud, ud, ud, ud, ud, ud, ud, ud, ud, ud, ud, ud, ud, ud, ud, ud, ud, ud], defers := [] }) (obs := []) (by kernel_rfl) trivial ?_
        refine wpT_end (by kernel_rfl) ?_
        go_wp2
        go_ret
        exact askP_no q6 hk (fun e => (alone_iff x).1 (sound_iff.1 e).2.2)
    ·intro w3 q3 hb1; replace hb := hb.next hb1; replace hk := hk.trans (hb1.mono hk.size); clear hb1
     refine wpT_sym [none, none, none, none, none, none, none, none, none, none, none, none, none, none, none, none, none] 18 (a' := { tmps := #[.agg C, pt B 0, .bool false, pt B 0, .int .u64 x.id, .bool true, .bool false, .bool false, pt B 1, .int .i64 x.kind, .bool false, .bool false, .bool false, pt B 1, .int .i64 x.kind, .bool false, .bool false, .bool false, pt B 2, .slice a2 n2 k2, .bool false, .bool true, .bool true, .bool true, ud, ud, ud, .bool true, .bool true, ud, ud, ud, .bool true, .bool true, ud, ud, ud, .bool true, ud, ud, ud, ud, ud, ud, ud, ud, ud, ud, ud, ud, ud, ud, ud, ud, ud, ud, ud, ud, ud, ud, ud, ud, ud, ud, ud, ud, ud, ud, ud, ud, ud, ud, ud, ud, ud, ud, ud, ud, ud, ud, ud, ud, ud, ud, ud, ud, ud, ud, ud, ud, ud, ud, ud, ud, ud, ud, ud, ud, ud, ud, ud, ud, ud, ud, ud, ud, ud, ud, ud, ud, ud, ud, ud, ud, ud, ud, ud, ud, ud], defers := [] }) (obs := []) (by kernel_rfl) trivial ?_
     refine wpT_end (by kernel_rfl) ?_
     go_wp2
     go_ret
     exact askP_no q3 hk (fun e => (com_iff.1 (sound_iff.1 e).1).2.2.2.1)
 ·intro w0 q0 hb1; replace hb := hb.next hb1; replace hk := hk.trans (hb1.mono hk.size); clear hb1
  refine wpT_sym [none, none, none, none, none, none, none, none, none, none, none, none, none, none, none, none, none, none, none, none, none, none, none, none, none, none, none, none, none, none, none, none] 3 (a' := { tmps := #[.agg C, pt B 0, .bool false, pt B 0, .int .u64 x.id, .bool false, .bool true, .bool true, ud, ud, ud, .bool true, .bool true, ud, ud, ud, .bool true, .bool true, ud, ud, ud, ud, .bool true, .bool true, ud, ud, ud, .bool true, .bool true, ud, ud, ud, .bool true, .bool true, ud, ud, ud, .bool true, ud, ud, ud, ud, ud, ud, ud, ud, ud, ud, ud, ud, ud, ud, ud, ud, ud, ud, ud, ud, ud, ud, ud, ud, ud, ud, ud, ud, ud, ud, ud, ud, ud, ud, ud, ud, ud, ud, ud, ud, ud, ud, ud, ud, ud, ud, ud, ud, ud, ud, ud, ud, ud, ud, ud, ud, ud, ud, ud, ud, ud, ud, ud, ud, ud, ud, ud, ud, ud, ud, ud, ud, ud, ud, ud, ud, ud, ud, ud, ud, ud], defers := [] }) (obs := []) (by kernel_rfl) trivial ?_
  refine wpT_end (by kernel_rfl) ?_
  go_wp2
  go_ret
  exact askP_no q0 hk (fun e => (com_iff.1 (sound_iff.1 e).1).1)
end Go.Proofs.YtiiaohejldchdaaGreat
