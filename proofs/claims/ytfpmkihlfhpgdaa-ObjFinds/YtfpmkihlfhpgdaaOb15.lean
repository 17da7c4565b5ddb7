/-
  PROVED HERE: what the document's rising and alone return when they are called (contracts over this translation). No condition.
-/
import Derived.Test.YtfpmkihlfhpgdaaObU
namespace Go.Proofs.Ytfpmkihlfhpgdaa
open Go.RowKit Go.Shelf
set_option linter.unusedVariables false
attribute [local go_sem] Oper.semAt_some
theorem rid_q (n : Int) (w : World) : Calls Try.prog 35 #[.int .u64 n] w fun e w' => e = .returned (.bool (idB n)) ∧ w' = w := by
  have hr : Hid (idB n = (decide (1 ≤ n) && decide (n ≤ 2305843009213693952))) := rfl
  go_enter Try.func35, Try.ntmps35
  go_wp2
  all_goals (go_ret; refine ⟨?_, rfl⟩; rw [hr.out]; first | (refine congrArg (fun z => Ending.returned (.bool z)) (?_ : decide (n ≤ 2305843009213693952) = _); rw [Bool.eq_iff_iff]; simp; omega) | (refine congrArg (fun z => Ending.returned (.bool z)) (?_ : false = _); rw [Bool.eq_iff_iff]; simp; omega) | (refine congrArg (fun z => Ending.returned (.bool z)) (?_ : true = _); rw [Bool.eq_iff_iff]; simp; omega))
set_option maxRecDepth 100000 in
set_option maxHeartbeats 4000000 in
theorem rrising_any {w0 w : World} {ao : Option Addr} {n cap : Nat} {L : List Int} (h0 : CtD (LtN w0) w0 ao n cap L) (hk0 : Below w0.heap.size w0 w) : Asks 39 #[.slice ao n cap] (allI L = true ∧ risB L = true) w := by
  have hL := h0.ct' hk0
  clear h0 hk0
  have hn : Hid (L.length = n) := hL.1
  have hnc := hL.2.1
  have hcm := hL.2.2.1.1
  unfold Asks
  go_enter Try.func39, Try.ntmps39
  go_wp2
  go_loopw [3] (fun i wr => ∃ k : Nat, k ≤ n ∧ i = .int .i64 k ∧ Hid ((∀ j, j < k → idB (L.getD j 0) = true) ∧ ∀ j, j + 1 < k → L.getD j 0 < L.getD (j + 1) 0) ∧ Below w.heap.size w wr) (fun i _ => n - (intOf i).toNat)
  case atStart => exact ⟨0, Nat.zero_le _, rfl, ⟨fun j hj => absurd hj (by omega), fun j hj => absurd hj (by omega)⟩, Below.refl _ _⟩
  case round =>
    obtain ⟨k, hk, rfl, hal, hb⟩ := hrel
    by_cases hkn : k < n
    · have hLw := hL.laterK fun b hb' => hb.block b hb'
      obtain ⟨b, off, y, rfl, hbb, hy, d1⟩ := hLw.at hkn
      have hkn' : (k : Int) < n := by omega
      cases hid : idB y with
      | false =>
        have hq : Hid (¬ allI L = true) := by
          refine (?_ : ¬ allI L = true)
          intro e; have := allI_iff.1 e k (by rw [hn.out]; exact hkn); rw [hy.out, hid] at this; cases this
        have hc := fun w => rid_q y w
        rw [hid] at hc
        clear hLw hid
        go_wp2
        go_quiet (first | (go_at_call 35; refine Calls.quiet_of_same (hc _)))
        go_wp2
        go_ret
        exact askP_no hq (PgM.below_drewN hb _) (fun e => e.1)
      | true =>
        have hc := fun w => rid_q y w
        rw [hid] at hc
        by_cases hk0 : k = 0
        · have hal2 : Hid ((∀ j, j < k + 1 → idB (L.getD j 0) = true) ∧ ∀ j, j + 1 < k + 1 → L.getD j 0 < L.getD (j + 1) 0) := ⟨fn_succ hal.out.1 (by rw [hy.out]; exact hid), fun j hj => absurd hj (by omega)⟩
          have hk0' : ¬ 0 < k := by omega
          have hk0d : decide ((0 : Int) < (k : Int)) = false := decide_eq_false (by omega)
          clear hLw hid hk0
          go_wp2
          go_quiet (first | (go_at_call 35; refine Calls.quiet_of_same (hc _)))
          go_wp2
          go_roundw
          case rel => exact ⟨k + 1, by omega, by go_num, hal2, PgM.below_drewN hb _⟩
          case measure => simp [intOf]; omega
        · obtain ⟨j, hj⟩ : ∃ j, Hid (k = j + 1) := ⟨k - 1, by show _ = _; omega⟩
          have hw : IntKind.i64.wrap ((k : Int) - 1) = (j : Int) := by have := hj.out; rw [IntKind.wrap_i64]; omega
          have hjn : j < n := by have := hj.out; omega
          have hjn' : (j : Int) < n := by omega
          have hkp : 0 < k := by omega
          have hk0d : decide ((0 : Int) < (k : Int)) = true := decide_eq_true (by omega)
          obtain ⟨b', off', x, e', hbb', hx, d0⟩ := hLw.at hjn
          cases e'
          clear hLw
          by_cases hxy : x < y
          · have hal2 : Hid ((∀ j, j < k + 1 → idB (L.getD j 0) = true) ∧ ∀ j, j + 1 < k + 1 → L.getD j 0 < L.getD (j + 1) 0) := by
              refine ⟨fn_succ hal.out.1 (by rw [hy.out]; exact hid), ?_⟩
              intro i hi
              rcases Nat.lt_or_ge (i + 1) k with h | h
              · exact hal.out.2 i h
              · have hij : i = j := by have := hj.out; omega
                rw [hij, hx.out, ← hj.out, hy.out]; exact hxy
            have hd : ¬ (y ≤ x) := by omega
            have hd' : decide (y ≤ x) = false := decide_eq_false hd
            clear hid hk0
            go_wp2
            go_quiet (first | (go_at_call 35; refine Calls.quiet_of_same (hc _)))
            go_wp2
            go_roundw
            case rel => exact ⟨k + 1, by omega, by go_num, hal2, PgM.below_drewN hb _⟩
            case measure => simp [intOf]; omega
          · have hq : Hid (¬ risB L = true) := by
              refine (?_ : ¬ risB L = true)
              intro e
              have := ris_iff.1 e j (by rw [hn.out, ← hj.out]; exact hkn)
              rw [hx.out, ← hj.out, hy.out] at this
              exact hxy this
            have hd : y ≤ x := by omega
            have hd' : decide (y ≤ x) = true := decide_eq_true hd
            clear hid hk0
            go_wp2
            go_quiet (first | (go_at_call 35; refine Calls.quiet_of_same (hc _)))
            go_wp2
            go_ret
            exact askP_no hq (PgM.below_drewN hb _) (fun e => e.2)
    · obtain rfl : k = n := by omega
      go_wp2
      go_ret
      exact askP_yes ⟨allI_iff.2 fun i hi => hal.out.1 i (by rw [hn.out] at hi; exact hi), ris_iff.2 fun i hi => hal.out.2 i (by rw [hn.out] at hi; exact hi)⟩ hb
set_option maxRecDepth 100000 in
set_option maxHeartbeats 4000000 in
theorem ralone_any {w : World} {C : Array Value} {x : Ob} (h : ObD (LtN w) w C x) : Asks 37 #[.agg C] (aloO x = x) w := by
  have hz := h.size
  have c0 := h.id
  have c1 := h.kind
  obtain ⟨a2, n2, k2, c2, l2⟩ := h.label
  have hn2 : Hid (x.label.length = n2) := l2.1
  have c3 := h.quota
  have c4 := h.fixed
  obtain ⟨a5, n5, k5, c5, l5⟩ := h.links
  have hn5 : Hid (x.links.length = n5) := l5.1
  obtain ⟨a6, n6, k6, c6, l6⟩ := h.data
  have hn6 : Hid (x.data.length = n6) := l6.1
  obtain ⟨a7, n7, k7, c7, l7⟩ := h.maps
  have hn7 : Hid (x.maps.length = n7) := l7.1
  obtain ⟨a49, n49, k49, c49, l49⟩ := h.inn
  have hn49 : Hid (x.inn.length = n49) := l49.1
  obtain ⟨a50, n50, k50, c50, l50⟩ := h.out
  have hn50 : Hid (x.out.length = n50) := l50.1
  obtain ⟨a25, n25, k25, c25, l25⟩ := h.th.clear
  obtain ⟨a43, n43, k43, c43, l43⟩ := h.gt.grant
  obtain ⟨a44, n44, k44, c44, l44⟩ := h.gt.clear
  replace c25 : C[25]? = some (.slice a25 n25 k25) := c25
  replace c43 : C[43]? = some (.slice a43 n43 k43) := c43
  replace c44 : C[44]? = some (.slice a44 n44 k44) := c44
  have ga0 := Try.isAgg24
  have ga1 := Try.isAgg22
  have ga2 := Try.isAgg3
  have ga3 := Try.isAgg4
  have ga4 := Try.isAgg25
  have ga5 := Try.isAgg26
  unfold Asks
  by_cases h1 : x.kind = 1
  · replace c1 : C[1]? = some (.int .i64 1) := c1.trans (by rw [h1])
    have halo : aloO x = { (⟨x.id, 1, x.label, x.quota, x.fixed, [], [], [], zTh, zGt, [], []⟩ : Ob) with data := x.data } := by rw [alo1 h1, ← h1]; rfl
    clear h1
    have hcm := comC_d (i := x.id) (k := 1) (q := x.quota) (f := x.fixed) l2
    have hcz := hcm.size
    have hd := hcm.set6 ⟨_, _, _, rfl, l6⟩ rfl
    go_enter Try.func37, Try.ntmps37
    go_wp2_with (first
      | go_skip
      | (with_reducible refine wpList_box rfl _ _ rfl C rfl ?_; intro B W hB hb hk)
      | (with_reducible refine wpList_load1 (by kernel_rfl) _ _ rfl B _ rfl _ _ hb _ (by assumption) (by assumption) ?_)
      | (with_reducible refine wpList_load1 (by kernel_rfl) _ _ rfl B _ rfl _ _ e2 _ (by assumption) (by assumption) ?_)
      | (with_reducible refine wpList_load1 (by kernel_rfl) _ _ rfl B _ rfl _ _ e3 _ (by assumption) (by assumption) ?_)
      | ((with_reducible refine wpList_build rfl _ _ rfl (comC (.int .u64 x.id) (.int .i64 1) (.slice a2 n2 k2) (.int .i64 x.quota) (.bool x.fixed)) ?hf ?_); (case hf => exact built_com _ _ _ _ _ _ _))
      | (with_reducible refine wpList_alloc rfl _ rfl zC zero40 ?_; intro B' W' hB' hb' hk'; have hne : B ≠ B' := (by have := hB'.out.1; have := hb.lt; omega); have b1 := hk.trans (hk'.mono hk.size); have hl' : w.heap.size ≤ B' := (by have := hB'.out.1; have := hk.size; omega))
      | ((with_reducible refine wpList_store_blk rfl _ _ _ rfl B' rfl (comC (.int .u64 x.id) (.int .i64 1) (.slice a2 n2 k2) (.int .i64 x.quota) (.bool x.fixed)) rfl zC hb' (size40C hcz) (zC_size.trans hcz.symm) hcm.one ?_); intro W2 b2 o2; have e2 := (hb.next hk').other o2 hne; have kb2 := o2.below w.heap.size w hl' b1)
      | ((with_reducible refine wpList_store_cell rfl _ _ _ rfl B' 6 rfl (.slice a6 n6 k6) rfl rfl _ _ b2 size25 (by first | (rw [hcz]; omega) | (rw [Array.size_setIfInBounds, hcz]; omega)) rfl ?_); intro W3 b3 o3; have e3 := e2.other o3 hne; have kb3 := o3.below w.heap.size w hl' kb2)
      | ((with_reducible refine wpList_load_blk rfl _ _ rfl B' rfl _ b3 _ Try.underlying40 rfl (size40C hd.size) ?_))
      | ((with_reducible refine wpList_load_blk rfl _ _ rfl B rfl _ e3 _ Try.underlying40 rfl (size40C hz) ?_))
      | (go_at_call 15; (with_reducible refine (rsameOne_any (hd.next kb3) (h.next kb3)).on ?_ ?_) <;> intro w9 hq hb9))
    · go_ret
      exact askP_yes ((show aloO x = x by rw [halo]; exact hq.out)) (kb3.trans (hb9.mono kb3.size))
    · go_ret
      exact askP_no hq (kb3.trans (hb9.mono kb3.size)) (fun e => (by rw [halo] at e; exact e))
  by_cases h2 : x.kind = 2
  · replace c1 : C[1]? = some (.int .i64 2) := c1.trans (by rw [h2])
    have halo : aloO x = { (⟨x.id, 2, x.label, x.quota, x.fixed, [], [], [], zTh, zGt, [], []⟩ : Ob) with links := x.links } := by rw [alo2 h2, ← h2]; rfl
    clear h1 h2
    have hcm := comC_d (i := x.id) (k := 2) (q := x.quota) (f := x.fixed) l2
    have hcz := hcm.size
    have hd := hcm.set5 ⟨_, _, _, rfl, l5⟩ rfl
    go_enter Try.func37, Try.ntmps37
    go_wp2_with (first
      | go_skip
      | (with_reducible refine wpList_box rfl _ _ rfl C rfl ?_; intro B W hB hb hk)
      | (with_reducible refine wpList_load1 (by kernel_rfl) _ _ rfl B _ rfl _ _ hb _ (by assumption) (by assumption) ?_)
      | (with_reducible refine wpList_load1 (by kernel_rfl) _ _ rfl B _ rfl _ _ e2 _ (by assumption) (by assumption) ?_)
      | (with_reducible refine wpList_load1 (by kernel_rfl) _ _ rfl B _ rfl _ _ e3 _ (by assumption) (by assumption) ?_)
      | ((with_reducible refine wpList_build rfl _ _ rfl (comC (.int .u64 x.id) (.int .i64 2) (.slice a2 n2 k2) (.int .i64 x.quota) (.bool x.fixed)) ?hf ?_); (case hf => exact built_com _ _ _ _ _ _ _))
      | (with_reducible refine wpList_alloc rfl _ rfl zC zero40 ?_; intro B' W' hB' hb' hk'; have hne : B ≠ B' := (by have := hB'.out.1; have := hb.lt; omega); have b1 := hk.trans (hk'.mono hk.size); have hl' : w.heap.size ≤ B' := (by have := hB'.out.1; have := hk.size; omega))
      | ((with_reducible refine wpList_store_blk rfl _ _ _ rfl B' rfl (comC (.int .u64 x.id) (.int .i64 2) (.slice a2 n2 k2) (.int .i64 x.quota) (.bool x.fixed)) rfl zC hb' (size40C hcz) (zC_size.trans hcz.symm) hcm.one ?_); intro W2 b2 o2; have e2 := (hb.next hk').other o2 hne; have kb2 := o2.below w.heap.size w hl' b1)
      | ((with_reducible refine wpList_store_cell rfl _ _ _ rfl B' 5 rfl (.slice a5 n5 k5) rfl rfl _ _ b2 size25 (by first | (rw [hcz]; omega) | (rw [Array.size_setIfInBounds, hcz]; omega)) rfl ?_); intro W3 b3 o3; have e3 := e2.other o3 hne; have kb3 := o3.below w.heap.size w hl' kb2)
      | ((with_reducible refine wpList_load_blk rfl _ _ rfl B' rfl _ b3 _ Try.underlying40 rfl (size40C hd.size) ?_))
      | ((with_reducible refine wpList_load_blk rfl _ _ rfl B rfl _ e3 _ Try.underlying40 rfl (size40C hz) ?_))
      | (go_at_call 15; (with_reducible refine (rsameOne_any (hd.next kb3) (h.next kb3)).on ?_ ?_) <;> intro w9 hq hb9))
    · go_ret
      exact askP_yes ((show aloO x = x by rw [halo]; exact hq.out)) (kb3.trans (hb9.mono kb3.size))
    · go_ret
      exact askP_no hq (kb3.trans (hb9.mono kb3.size)) (fun e => (by rw [halo] at e; exact e))
  by_cases h3 : x.kind = 3
  · replace c1 : C[1]? = some (.int .i64 3) := c1.trans (by rw [h3])
    have halo : aloO x = { (⟨x.id, 3, x.label, x.quota, x.fixed, [], [], [], zTh, zGt, [], []⟩ : Ob) with maps := x.maps } := by rw [alo3 h3, ← h3]; rfl
    clear h1 h2 h3
    have hcm := comC_d (i := x.id) (k := 3) (q := x.quota) (f := x.fixed) l2
    have hcz := hcm.size
    have hd := hcm.set7 ⟨_, _, _, rfl, l7⟩ rfl
    go_enter Try.func37, Try.ntmps37
    go_wp2_with (first
      | go_skip
      | (with_reducible refine wpList_box rfl _ _ rfl C rfl ?_; intro B W hB hb hk)
      | (with_reducible refine wpList_load1 (by kernel_rfl) _ _ rfl B _ rfl _ _ hb _ (by assumption) (by assumption) ?_)
      | (with_reducible refine wpList_load1 (by kernel_rfl) _ _ rfl B _ rfl _ _ e2 _ (by assumption) (by assumption) ?_)
      | (with_reducible refine wpList_load1 (by kernel_rfl) _ _ rfl B _ rfl _ _ e3 _ (by assumption) (by assumption) ?_)
      | ((with_reducible refine wpList_build rfl _ _ rfl (comC (.int .u64 x.id) (.int .i64 3) (.slice a2 n2 k2) (.int .i64 x.quota) (.bool x.fixed)) ?hf ?_); (case hf => exact built_com _ _ _ _ _ _ _))
      | (with_reducible refine wpList_alloc rfl _ rfl zC zero40 ?_; intro B' W' hB' hb' hk'; have hne : B ≠ B' := (by have := hB'.out.1; have := hb.lt; omega); have b1 := hk.trans (hk'.mono hk.size); have hl' : w.heap.size ≤ B' := (by have := hB'.out.1; have := hk.size; omega))
      | ((with_reducible refine wpList_store_blk rfl _ _ _ rfl B' rfl (comC (.int .u64 x.id) (.int .i64 3) (.slice a2 n2 k2) (.int .i64 x.quota) (.bool x.fixed)) rfl zC hb' (size40C hcz) (zC_size.trans hcz.symm) hcm.one ?_); intro W2 b2 o2; have e2 := (hb.next hk').other o2 hne; have kb2 := o2.below w.heap.size w hl' b1)
      | ((with_reducible refine wpList_store_cell rfl _ _ _ rfl B' 7 rfl (.slice a7 n7 k7) rfl rfl _ _ b2 size26 (by first | (rw [hcz]; omega) | (rw [Array.size_setIfInBounds, hcz]; omega)) rfl ?_); intro W3 b3 o3; have e3 := e2.other o3 hne; have kb3 := o3.below w.heap.size w hl' kb2)
      | ((with_reducible refine wpList_load_blk rfl _ _ rfl B' rfl _ b3 _ Try.underlying40 rfl (size40C hd.size) ?_))
      | ((with_reducible refine wpList_load_blk rfl _ _ rfl B rfl _ e3 _ Try.underlying40 rfl (size40C hz) ?_))
      | (go_at_call 15; (with_reducible refine (rsameOne_any (hd.next kb3) (h.next kb3)).on ?_ ?_) <;> intro w9 hq hb9))
    · go_ret
      exact askP_yes ((show aloO x = x by rw [halo]; exact hq.out)) (kb3.trans (hb9.mono kb3.size))
    · go_ret
      exact askP_no hq (kb3.trans (hb9.mono kb3.size)) (fun e => (by rw [halo] at e; exact e))
  by_cases h4 : x.kind = 4
  · replace c1 : C[1]? = some (.int .i64 4) := c1.trans (by rw [h4])
    have halo : aloO x = { (⟨x.id, 4, x.label, x.quota, x.fixed, [], [], [], zTh, zGt, [], []⟩ : Ob) with th := x.th } := by rw [alo4 h4, ← h4]; rfl
    clear h1 h2 h3 h4
    have hcm := comC_d (i := x.id) (k := 4) (q := x.quota) (f := x.fixed) l2
    have hcz := hcm.size
    have hd := hcm.setT h.thd
    obtain ⟨CT, hCT⟩ : ∃ CT, ((comC (.int .u64 x.id) (.int .i64 4) (.slice a2 n2 k2) (.int .i64 x.quota) (.bool x.fixed)).extract 0 8 ++ C.extract 8 (8 + 35) ++ (comC (.int .u64 x.id) (.int .i64 4) (.slice a2 n2 k2) (.int .i64 x.quota) (.bool x.fixed)).extract (8 + (C.extract 8 (8 + 35)).size) (comC (.int .u64 x.id) (.int .i64 4) (.slice a2 n2 k2) (.int .i64 x.quota) (.bool x.fixed)).size) = CT := ⟨_, rfl⟩
    rw [hCT] at hd
    go_enter Try.func37, Try.ntmps37
    go_wp2_with (first
      | go_skip
      | (with_reducible refine wpList_box rfl _ _ rfl C rfl ?_; intro B W hB hb hk)
      | (with_reducible refine wpList_load1 (by kernel_rfl) _ _ rfl B _ rfl _ _ hb _ (by assumption) (by assumption) ?_)
      | (with_reducible refine wpList_load1 (by kernel_rfl) _ _ rfl B _ rfl _ _ e2 _ (by assumption) (by assumption) ?_)
      | (with_reducible refine wpList_load1 (by kernel_rfl) _ _ rfl B _ rfl _ _ e3 _ (by assumption) (by assumption) ?_)
      | ((with_reducible refine wpList_build rfl _ _ rfl (comC (.int .u64 x.id) (.int .i64 4) (.slice a2 n2 k2) (.int .i64 x.quota) (.bool x.fixed)) ?hf ?_); (case hf => exact built_com _ _ _ _ _ _ _))
      | (with_reducible refine wpList_alloc rfl _ rfl zC zero40 ?_; intro B' W' hB' hb' hk'; have hne : B ≠ B' := (by have := hB'.out.1; have := hb.lt; omega); have b1 := hk.trans (hk'.mono hk.size); have hl' : w.heap.size ≤ B' := (by have := hB'.out.1; have := hk.size; omega))
      | ((with_reducible refine wpList_store_blk rfl _ _ _ rfl B' rfl (comC (.int .u64 x.id) (.int .i64 4) (.slice a2 n2 k2) (.int .i64 x.quota) (.bool x.fixed)) rfl zC hb' (size40C hcz) (zC_size.trans hcz.symm) hcm.one ?_); intro W2 b2 o2; have e2 := (hb.next hk').other o2 hne; have kb2 := o2.below w.heap.size w hl' b1)
      | (with_reducible refine wpList_loadp (by kernel_rfl) 36 _ rfl B _ rfl 35 _ _ e2 _ rfl (by rw [hz]; omega) _ Try.underlying36 (by kernel_rfl) size36 ?_)
      | ((with_reducible refine wpList_store_part rfl _ _ _ rfl B' 8 rfl (C.extract 8 (8 + 35)) rfl _ _ b2 (by rw [h.thd.size]; exact size36) (by rw [h.thd.size, hcz]; omega) h.thd.one ?_); intro W3 b3 o3; rw [hCT] at b3; have e3 := e2.other o3 hne; have kb3 := o3.below w.heap.size w hl' kb2)
      | ((with_reducible refine wpList_load_blk rfl _ _ rfl B' rfl _ b3 _ Try.underlying40 rfl (size40C hd.size) ?_))
      | ((with_reducible refine wpList_load_blk rfl _ _ rfl B rfl _ e3 _ Try.underlying40 rfl (size40C hz) ?_))
      | (go_at_call 15; (with_reducible refine (rsameOne_any (hd.next kb3) (h.next kb3)).on ?_ ?_) <;> intro w9 hq hb9))
    · go_ret
      exact askP_yes ((show aloO x = x by rw [halo]; exact hq.out)) (kb3.trans (hb9.mono kb3.size))
    · go_ret
      exact askP_no hq (kb3.trans (hb9.mono kb3.size)) (fun e => (by rw [halo] at e; exact e))
  by_cases h5 : x.kind = 5
  · replace c1 : C[1]? = some (.int .i64 5) := c1.trans (by rw [h5])
    have halo : aloO x = { (⟨x.id, 5, x.label, x.quota, x.fixed, [], [], [], zTh, zGt, [], []⟩ : Ob) with gt := x.gt } := by rw [alo5 h5, ← h5]; rfl
    clear h1 h2 h3 h4 h5
    have hcm := comC_d (i := x.id) (k := 5) (q := x.quota) (f := x.fixed) l2
    have hcz := hcm.size
    have hd := hcm.setG h.gtd
    obtain ⟨CT, hCT⟩ : ∃ CT, ((comC (.int .u64 x.id) (.int .i64 5) (.slice a2 n2 k2) (.int .i64 x.quota) (.bool x.fixed)).extract 0 43 ++ C.extract 43 (43 + 6) ++ (comC (.int .u64 x.id) (.int .i64 5) (.slice a2 n2 k2) (.int .i64 x.quota) (.bool x.fixed)).extract (43 + (C.extract 43 (43 + 6)).size) (comC (.int .u64 x.id) (.int .i64 5) (.slice a2 n2 k2) (.int .i64 x.quota) (.bool x.fixed)).size) = CT := ⟨_, rfl⟩
    rw [hCT] at hd
    go_enter Try.func37, Try.ntmps37
    go_wp2_with (first
      | go_skip
      | (with_reducible refine wpList_box rfl _ _ rfl C rfl ?_; intro B W hB hb hk)
      | (with_reducible refine wpList_load1 (by kernel_rfl) _ _ rfl B _ rfl _ _ hb _ (by assumption) (by assumption) ?_)
      | (with_reducible refine wpList_load1 (by kernel_rfl) _ _ rfl B _ rfl _ _ e2 _ (by assumption) (by assumption) ?_)
      | (with_reducible refine wpList_load1 (by kernel_rfl) _ _ rfl B _ rfl _ _ e3 _ (by assumption) (by assumption) ?_)
      | ((with_reducible refine wpList_build rfl _ _ rfl (comC (.int .u64 x.id) (.int .i64 5) (.slice a2 n2 k2) (.int .i64 x.quota) (.bool x.fixed)) ?hf ?_); (case hf => exact built_com _ _ _ _ _ _ _))
      | (with_reducible refine wpList_alloc rfl _ rfl zC zero40 ?_; intro B' W' hB' hb' hk'; have hne : B ≠ B' := (by have := hB'.out.1; have := hb.lt; omega); have b1 := hk.trans (hk'.mono hk.size); have hl' : w.heap.size ≤ B' := (by have := hB'.out.1; have := hk.size; omega))
      | ((with_reducible refine wpList_store_blk rfl _ _ _ rfl B' rfl (comC (.int .u64 x.id) (.int .i64 5) (.slice a2 n2 k2) (.int .i64 x.quota) (.bool x.fixed)) rfl zC hb' (size40C hcz) (zC_size.trans hcz.symm) hcm.one ?_); intro W2 b2 o2; have e2 := (hb.next hk').other o2 hne; have kb2 := o2.below w.heap.size w hl' b1)
      | (with_reducible refine wpList_loadp (by kernel_rfl) 38 _ rfl B _ rfl 6 _ _ e2 _ rfl (by rw [hz]; omega) _ Try.underlying38 (by kernel_rfl) size38 ?_)
      | ((with_reducible refine wpList_store_part rfl _ _ _ rfl B' 43 rfl (C.extract 43 (43 + 6)) rfl _ _ b2 (by rw [h.gtd.size]; exact size38) (by rw [h.gtd.size, hcz]; omega) h.gtd.one ?_); intro W3 b3 o3; rw [hCT] at b3; have e3 := e2.other o3 hne; have kb3 := o3.below w.heap.size w hl' kb2)
      | ((with_reducible refine wpList_load_blk rfl _ _ rfl B' rfl _ b3 _ Try.underlying40 rfl (size40C hd.size) ?_))
      | ((with_reducible refine wpList_load_blk rfl _ _ rfl B rfl _ e3 _ Try.underlying40 rfl (size40C hz) ?_))
      | (go_at_call 15; (with_reducible refine (rsameOne_any (hd.next kb3) (h.next kb3)).on ?_ ?_) <;> intro w9 hq hb9))
    · go_ret
      exact askP_yes ((show aloO x = x by rw [halo]; exact hq.out)) (kb3.trans (hb9.mono kb3.size))
    · go_ret
      exact askP_no hq (kb3.trans (hb9.mono kb3.size)) (fun e => (by rw [halo] at e; exact e))
  by_cases h6 : x.kind = 6
  · replace c1 : C[1]? = some (.int .i64 6) := c1.trans (by rw [h6])
    have halo : aloO x = { (⟨x.id, 6, x.label, x.quota, x.fixed, [], [], [], zTh, zGt, [], []⟩ : Ob) with inn := x.inn, out := x.out } := by rw [alo6 h6, ← h6]; rfl
    clear h1 h2 h3 h4 h5 h6
    have hcm := comC_d (i := x.id) (k := 6) (q := x.quota) (f := x.fixed) l2
    have hcz := hcm.size
    have hd := (hcm.set49 ⟨_, _, _, rfl, l49⟩ rfl).set50 ⟨_, _, _, rfl, l50⟩ rfl
    go_enter Try.func37, Try.ntmps37
    go_wp2_with (first
      | go_skip
      | (with_reducible refine wpList_box rfl _ _ rfl C rfl ?_; intro B W hB hb hk)
      | (with_reducible refine wpList_load1 (by kernel_rfl) _ _ rfl B _ rfl _ _ hb _ (by assumption) (by assumption) ?_)
      | (with_reducible refine wpList_load1 (by kernel_rfl) _ _ rfl B _ rfl _ _ e2 _ (by assumption) (by assumption) ?_)
      | (with_reducible refine wpList_load1 (by kernel_rfl) _ _ rfl B _ rfl _ _ e3 _ (by assumption) (by assumption) ?_)
      | ((with_reducible refine wpList_build rfl _ _ rfl (comC (.int .u64 x.id) (.int .i64 6) (.slice a2 n2 k2) (.int .i64 x.quota) (.bool x.fixed)) ?hf ?_); (case hf => exact built_com _ _ _ _ _ _ _))
      | (with_reducible refine wpList_alloc rfl _ rfl zC zero40 ?_; intro B' W' hB' hb' hk'; have hne : B ≠ B' := (by have := hB'.out.1; have := hb.lt; omega); have b1 := hk.trans (hk'.mono hk.size); have hl' : w.heap.size ≤ B' := (by have := hB'.out.1; have := hk.size; omega))
      | ((with_reducible refine wpList_store_blk rfl _ _ _ rfl B' rfl (comC (.int .u64 x.id) (.int .i64 6) (.slice a2 n2 k2) (.int .i64 x.quota) (.bool x.fixed)) rfl zC hb' (size40C hcz) (zC_size.trans hcz.symm) hcm.one ?_); intro W2 b2 o2; have e2 := (hb.next hk').other o2 hne; have kb2 := o2.below w.heap.size w hl' b1)
      | ((with_reducible refine wpList_store_cell rfl _ _ _ rfl B' 49 rfl (.slice a49 n49 k49) rfl rfl _ _ b2 size25 (by first | (rw [hcz]; omega) | (rw [Array.size_setIfInBounds, hcz]; omega)) rfl ?_); intro W3 b3 o3; have e3 := e2.other o3 hne; have kb3 := o3.below w.heap.size w hl' kb2)
      | ((with_reducible refine wpList_store_cell rfl _ _ _ rfl B' 50 rfl (.slice a50 n50 k50) rfl rfl _ _ b3 size25 (by first | (rw [hcz]; omega) | (rw [Array.size_setIfInBounds, hcz]; omega)) rfl ?_); intro W4 b4 o4; have e4 := e3.other o4 hne; have kb4 := o4.below w.heap.size w hl' kb3)
      | ((with_reducible refine wpList_load_blk rfl _ _ rfl B' rfl _ b4 _ Try.underlying40 rfl (size40C hd.size) ?_))
      | ((with_reducible refine wpList_load_blk rfl _ _ rfl B rfl _ e4 _ Try.underlying40 rfl (size40C hz) ?_))
      | (go_at_call 15; (with_reducible refine (rsameOne_any (hd.next kb4) (h.next kb4)).on ?_ ?_) <;> intro w9 hq hb9))
    · go_ret
      exact askP_yes ((show aloO x = x by rw [halo]; exact hq.out)) (kb4.trans (hb9.mono kb4.size))
    · go_ret
      exact askP_no hq (kb4.trans (hb9.mono kb4.size)) (fun e => (by rw [halo] at e; exact e))
  · have halo : aloO x = comO x := alo7 (by omega)
    have g1 : (x.kind == 1) = false := by rw [beq_eq_false_iff_ne]; exact h1
    have g2 : (x.kind == 2) = false := by rw [beq_eq_false_iff_ne]; exact h2
    have g3 : (x.kind == 3) = false := by rw [beq_eq_false_iff_ne]; exact h3
    have g4 : (x.kind == 4) = false := by rw [beq_eq_false_iff_ne]; exact h4
    have g5 : (x.kind == 5) = false := by rw [beq_eq_false_iff_ne]; exact h5
    have g6 : (x.kind == 6) = false := by rw [beq_eq_false_iff_ne]; exact h6
    clear h1 h2 h3 h4 h5 h6
    have hcm := comC_d (i := x.id) (k := x.kind) (q := x.quota) (f := x.fixed) l2
    have hcz := hcm.size
    have hd := hcm
    go_enter Try.func37, Try.ntmps37
    go_wp2_with (first
      | go_skip
      | (with_reducible refine wpList_box rfl _ _ rfl C rfl ?_; intro B W hB hb hk)
      | (with_reducible refine wpList_load1 (by kernel_rfl) _ _ rfl B _ rfl _ _ hb _ (by assumption) (by assumption) ?_)
      | (with_reducible refine wpList_load1 (by kernel_rfl) _ _ rfl B _ rfl _ _ e2 _ (by assumption) (by assumption) ?_)
      | (with_reducible refine wpList_load1 (by kernel_rfl) _ _ rfl B _ rfl _ _ e3 _ (by assumption) (by assumption) ?_)
      | ((with_reducible refine wpList_build rfl _ _ rfl (comC (.int .u64 x.id) (.int .i64 x.kind) (.slice a2 n2 k2) (.int .i64 x.quota) (.bool x.fixed)) ?hf ?_); (case hf => exact built_com _ _ _ _ _ _ _))
      | (with_reducible refine wpList_alloc rfl _ rfl zC zero40 ?_; intro B' W' hB' hb' hk'; have hne : B ≠ B' := (by have := hB'.out.1; have := hb.lt; omega); have b1 := hk.trans (hk'.mono hk.size); have hl' : w.heap.size ≤ B' := (by have := hB'.out.1; have := hk.size; omega))
      | ((with_reducible refine wpList_store_blk rfl _ _ _ rfl B' rfl (comC (.int .u64 x.id) (.int .i64 x.kind) (.slice a2 n2 k2) (.int .i64 x.quota) (.bool x.fixed)) rfl zC hb' (size40C hcz) (zC_size.trans hcz.symm) hcm.one ?_); intro W2 b2 o2; have e2 := (hb.next hk').other o2 hne; have kb2 := o2.below w.heap.size w hl' b1)
      | ((with_reducible refine wpList_load_blk rfl _ _ rfl B' rfl _ b2 _ Try.underlying40 rfl (size40C hd.size) ?_))
      | ((with_reducible refine wpList_load_blk rfl _ _ rfl B rfl _ e2 _ Try.underlying40 rfl (size40C hz) ?_))
      | (go_at_call 15; (with_reducible refine (rsameOne_any (hd.next kb2) (h.next kb2)).on ?_ ?_) <;> intro w9 hq hb9))
    · go_ret
      exact askP_yes ((show aloO x = x by rw [halo]; exact hq.out)) (kb2.trans (hb9.mono kb2.size))
    · go_ret
      exact askP_no hq (kb2.trans (hb9.mono kb2.size)) (fun e => (by rw [halo] at e; exact e))
end Go.Proofs.Ytfpmkihlfhpgdaa
