/-
  PROVED HERE: what package obj's Pages, Shown and Head, the document's, and the law's brief return when they are called (contracts over this translation). The object's lists are short where it is written.
-/
import Derived.Test.YtfpmkihlfhpgdaaOb18
namespace Go.Proofs.Ytfpmkihlfhpgdaa
open Go.RowKit Go.Shelf
set_option linter.unusedVariables false
attribute [local go_sem] Oper.semAt_some
def pagO (x : Ob) : Int := if x.kind = 1 then pagN x else 1
theorem pages_any {w : World} {C : Array Value} {x : Ob} (h : ObD (LtN w) w C x) (hs : Small x) : Calls Try.prog 18 #[.agg C] w fun e w' => e = .returned (.int .i64 (pagO x)) ∧ Below w.heap.size w w' := by
  have hz := h.size
  have c0 := h.id
  have c1 := h.kind
  obtain ⟨a2, n2, k2, c2, l2⟩ := h.label
  have hn2 : Hid (x.label.length = n2) := l2.1
  have c3 := h.quota
  have c4 := h.fixed
  obtain ⟨a5, n5, k5, c5, l5⟩ := h.links
  have hn5 : Hid (x.links.length = n5) := l5.1
  obtain ⟨a6, n6, k6, c6, l6⟩ := h.data
  have hn6 : Hid (x.data.length = n6) := l6.1
  obtain ⟨a7, n7, k7, c7, l7⟩ := h.maps
  have hn7 : Hid (x.maps.length = n7) := l7.1
  obtain ⟨a49, n49, k49, c49, l49⟩ := h.inn
  have hn49 : Hid (x.inn.length = n49) := l49.1
  obtain ⟨a50, n50, k50, c50, l50⟩ := h.out
  have hn50 : Hid (x.out.length = n50) := l50.1
  obtain ⟨a25, n25, k25, c25, l25⟩ := h.th.clear
  obtain ⟨a43, n43, k43, c43, l43⟩ := h.gt.grant
  obtain ⟨a44, n44, k44, c44, l44⟩ := h.gt.clear
  replace c25 : C[25]? = some (.slice a25 n25 k25) := c25
  replace c43 : C[43]? = some (.slice a43 n43 k43) := c43
  replace c44 : C[44]? = some (.slice a44 n44 k44) := c44
  have ga0 := Try.isAgg24
  have ga1 := Try.isAgg22
  have ga2 := Try.isAgg3
  have ga3 := Try.isAgg4
  have ga4 := Try.isAgg25
  have ga5 := Try.isAgg26
  have hs6 := hs.c6
  rw [hn6.out] at hs6
  have hq : ((n6 : Int) + 16 - 1) / 16 = (((n6 + 15) / 16 : Nat) : Int) := by omega
  by_cases hk1 : x.kind = 1
  · have hr : Hid (pagO x = 1 + ((n6 : Int) + 15) / 16) := by show _ = _; unfold pagO pagN; rw [if_pos hk1, hn6.out]
    replace c1 : C[1]? = some (.int .i64 1) := c1.trans (by rw [hk1])
    clear hk1
    go_enter Try.func18, Try.ntmps18
    go_wp2_with (first
      | go_skip
      | (with_reducible refine wpList_box rfl _ _ rfl C rfl ?_; intro B W hB hb hk)
      | (with_reducible refine wpList_load1 (by kernel_rfl) _ _ rfl B _ rfl _ _ hb _ (by assumption) (by assumption) ?_))
    go_ret
    refine ⟨?_, hk⟩
    rw [hr.out]
    refine congrArg (fun z => Ending.returned (.int .i64 z)) ?_
    omega
  · have hr : Hid (pagO x = 1) := by show _ = _; unfold pagO; rw [if_neg hk1]
    have g1 : (x.kind == 1) = false := by rw [beq_eq_false_iff_ne]; exact hk1
    clear hk1
    go_enter Try.func18, Try.ntmps18
    go_wp2_with (first
      | go_skip
      | (with_reducible refine wpList_box rfl _ _ rfl C rfl ?_; intro B W hB hb hk)
      | (with_reducible refine wpList_load1 (by kernel_rfl) _ _ rfl B _ rfl _ _ hb _ (by assumption) (by assumption) ?_))
    go_ret
    exact ⟨by rw [hr.out]; rfl, hk⟩
theorem rpages_any {w : World} {C : Array Value} {x : Ob} (h : ObD (LtN w) w C x) (hs : Small x) : Calls Try.prog 19 #[.agg C] w fun e w' => e = .returned (.int .i64 (pagN x)) ∧ Below w.heap.size w w' := by
  have hz := h.size
  have c0 := h.id
  have c1 := h.kind
  obtain ⟨a2, n2, k2, c2, l2⟩ := h.label
  have hn2 : Hid (x.label.length = n2) := l2.1
  have c3 := h.quota
  have c4 := h.fixed
  obtain ⟨a5, n5, k5, c5, l5⟩ := h.links
  have hn5 : Hid (x.links.length = n5) := l5.1
  obtain ⟨a6, n6, k6, c6, l6⟩ := h.data
  have hn6 : Hid (x.data.length = n6) := l6.1
  obtain ⟨a7, n7, k7, c7, l7⟩ := h.maps
  have hn7 : Hid (x.maps.length = n7) := l7.1
  obtain ⟨a49, n49, k49, c49, l49⟩ := h.inn
  have hn49 : Hid (x.inn.length = n49) := l49.1
  obtain ⟨a50, n50, k50, c50, l50⟩ := h.out
  have hn50 : Hid (x.out.length = n50) := l50.1
  obtain ⟨a25, n25, k25, c25, l25⟩ := h.th.clear
  obtain ⟨a43, n43, k43, c43, l43⟩ := h.gt.grant
  obtain ⟨a44, n44, k44, c44, l44⟩ := h.gt.clear
  replace c25 : C[25]? = some (.slice a25 n25 k25) := c25
  replace c43 : C[43]? = some (.slice a43 n43 k43) := c43
  replace c44 : C[44]? = some (.slice a44 n44 k44) := c44
  have ga0 := Try.isAgg24
  have ga1 := Try.isAgg22
  have ga2 := Try.isAgg3
  have ga3 := Try.isAgg4
  have ga4 := Try.isAgg25
  have ga5 := Try.isAgg26
  have hs6 := hs.c6
  rw [hn6.out] at hs6
  have hr : Hid (pagN x = 1 + ((n6 : Int) + 15) / 16) := by show _ = _; unfold pagN; rw [hn6.out]
  go_enter Try.func19, Try.ntmps19
  go_wp2_with (first
    | go_skip
    | (with_reducible refine wpList_box rfl _ _ rfl C rfl ?_; intro B W hB hb hk)
    | (with_reducible refine wpList_load1 (by kernel_rfl) _ _ rfl B _ rfl _ _ hb _ (by assumption) (by assumption) ?_))
  go_ret
  refine ⟨?_, hk⟩
  rw [hr.out]
  refine congrArg (fun z => Ending.returned (.int .i64 z)) ?_
  omega
theorem sameLabel_any {w0 W : World} {ao ao' : Option Addr} {n n' cap cap' : Nat} {L L' : Lb} (h : LabD (LtN w0) w0 ao n cap L) (h' : LabD (LtN w0) w0 ao' n' cap' L') (k : Below w0.heap.size w0 W) : Asks 20 #[.slice ao n cap, .slice ao' n' cap'] (L = L') W := by
  unfold Asks
  go_enter Try.func20, Try.ntmps20
  go_wp2_with (go_at_call 51; (with_reducible refine (reqL h h' k).on ?_ ?_) <;> intro w1 hq hk1)
  · go_ret
    exact askP_yes hq.out hk1
  · go_ret
    exact askP_no hq hk1 id
def shoC (x : Ob) : Lb := if x.kind = 4 then raiseL x.label else x.label
theorem shown_any {w : World} {C : Array Value} {x : Ob} (h : ObD (LtN w) w C x) (hs : Small x) : Calls Try.prog 21 #[.agg C] w fun e w' => ∃ ao n cap, e = .returned (.slice ao n cap) ∧ LabD (New w w') w' ao n cap (shoC x) ∧ Below w.heap.size w w' := by
  have hz := h.size
  have c0 := h.id
  have c1 := h.kind
  obtain ⟨a2, n2, k2, c2, l2⟩ := h.label
  have hn2 : Hid (x.label.length = n2) := l2.1
  have c3 := h.quota
  have c4 := h.fixed
  obtain ⟨a5, n5, k5, c5, l5⟩ := h.links
  have hn5 : Hid (x.links.length = n5) := l5.1
  obtain ⟨a6, n6, k6, c6, l6⟩ := h.data
  have hn6 : Hid (x.data.length = n6) := l6.1
  obtain ⟨a7, n7, k7, c7, l7⟩ := h.maps
  have hn7 : Hid (x.maps.length = n7) := l7.1
  obtain ⟨a49, n49, k49, c49, l49⟩ := h.inn
  have hn49 : Hid (x.inn.length = n49) := l49.1
  obtain ⟨a50, n50, k50, c50, l50⟩ := h.out
  have hn50 : Hid (x.out.length = n50) := l50.1
  obtain ⟨a25, n25, k25, c25, l25⟩ := h.th.clear
  obtain ⟨a43, n43, k43, c43, l43⟩ := h.gt.grant
  obtain ⟨a44, n44, k44, c44, l44⟩ := h.gt.clear
  replace c25 : C[25]? = some (.slice a25 n25 k25) := c25
  replace c43 : C[43]? = some (.slice a43 n43 k43) := c43
  replace c44 : C[44]? = some (.slice a44 n44 k44) := c44
  have ga0 := Try.isAgg24
  have ga1 := Try.isAgg22
  have ga2 := Try.isAgg3
  have ga3 := Try.isAgg4
  have ga4 := Try.isAgg25
  have ga5 := Try.isAgg26
  have hs2 := hs.c2
  rw [hn2.out] at hs2
  by_cases hk4 : x.kind = 4
  · have hr : Hid (shoC x = raiseL x.label) := by show _ = _; unfold shoC; rw [if_pos hk4]
    replace c1 : C[1]? = some (.int .i64 4) := c1.trans (by rw [hk4])
    clear hk4
    go_enter Try.func21, Try.ntmps21
    go_wp2_with (first
      | go_skip
      | (with_reducible refine wpList_box rfl _ _ rfl C rfl ?_; intro B W hB hb hk)
      | (with_reducible refine wpList_load1 (by kernel_rfl) _ _ rfl B _ rfl _ _ hb _ (by assumption) (by assumption) ?_)
      | (go_at_call 57; (with_reducible refine (lraise_any (l2.lab' hk) ?hn).mono ?_); (case hn => omega); rintro e w1 ⟨ao1, n1, cap1, rfl, hl1, hb1⟩))
    go_ret
    obtain ⟨a9, c9, e9, r9⟩ := RowC.of_owns hl1.2
    cases e9
    exact ⟨ao1, n1, cap1, rfl, by rw [hr.out]; exact (r9.lab).wide fun b hb => ⟨Nat.le_trans hk.size hb.1, hb.2⟩, hk.trans (hb1.mono hk.size)⟩
  · have hr : Hid (shoC x = x.label) := by show _ = _; unfold shoC; rw [if_neg hk4]
    have g1 : (x.kind == 4) = false := by rw [beq_eq_false_iff_ne]; exact hk4
    clear hk4
    go_enter Try.func21, Try.ntmps21
    go_wp2_with (first
      | go_skip
      | (with_reducible refine wpList_box rfl _ _ rfl C rfl ?_; intro B W hB hb hk)
      | (with_reducible refine wpList_load1 (by kernel_rfl) _ _ rfl B _ rfl _ _ hb _ (by assumption) (by assumption) ?_)
      | (go_at_call 58; (with_reducible refine (copyL l2 hk hs2).mono ?_); rintro e w1 ⟨ao1, cap1, rfl, hl1, hb1⟩))
    go_ret
    exact ⟨ao1, n2, cap1, rfl, by rw [hr.out]; exact hl1.wide fun b hb => ⟨Nat.le_trans hk.size hb.1, hb.2⟩, hk.trans (hb1.mono hk.size)⟩
theorem rshown_any {w : World} {C : Array Value} {x : Ob} (h : ObD (LtN w) w C x) (hs : Small x) : Calls Try.prog 22 #[.agg C] w fun e w' => ∃ ao n cap, e = .returned (.slice ao n cap) ∧ LabD (LtN w') w' ao n cap (shoL x) ∧ Below w.heap.size w w' := by
  have hz := h.size
  have c0 := h.id
  have c1 := h.kind
  obtain ⟨a2, n2, k2, c2, l2⟩ := h.label
  have hn2 : Hid (x.label.length = n2) := l2.1
  have c3 := h.quota
  have c4 := h.fixed
  obtain ⟨a5, n5, k5, c5, l5⟩ := h.links
  have hn5 : Hid (x.links.length = n5) := l5.1
  obtain ⟨a6, n6, k6, c6, l6⟩ := h.data
  have hn6 : Hid (x.data.length = n6) := l6.1
  obtain ⟨a7, n7, k7, c7, l7⟩ := h.maps
  have hn7 : Hid (x.maps.length = n7) := l7.1
  obtain ⟨a49, n49, k49, c49, l49⟩ := h.inn
  have hn49 : Hid (x.inn.length = n49) := l49.1
  obtain ⟨a50, n50, k50, c50, l50⟩ := h.out
  have hn50 : Hid (x.out.length = n50) := l50.1
  obtain ⟨a25, n25, k25, c25, l25⟩ := h.th.clear
  obtain ⟨a43, n43, k43, c43, l43⟩ := h.gt.grant
  obtain ⟨a44, n44, k44, c44, l44⟩ := h.gt.clear
  replace c25 : C[25]? = some (.slice a25 n25 k25) := c25
  replace c43 : C[43]? = some (.slice a43 n43 k43) := c43
  replace c44 : C[44]? = some (.slice a44 n44 k44) := c44
  have ga0 := Try.isAgg24
  have ga1 := Try.isAgg22
  have ga2 := Try.isAgg3
  have ga3 := Try.isAgg4
  have ga4 := Try.isAgg25
  have ga5 := Try.isAgg26
  have hs2 := hs.c2
  rw [hn2.out] at hs2
  by_cases hk4 : x.kind = 4
  · have hr : Hid (shoL x = rmapL Lv.raise x.label) := by show _ = _; unfold shoL; rw [if_pos hk4]
    replace c1 : C[1]? = some (.int .i64 4) := c1.trans (by rw [hk4])
    clear hk4
    go_enter Try.func22, Try.ntmps22
    go_wp2_with (first
      | go_skip
      | (with_reducible refine wpList_box rfl _ _ rfl C rfl ?_; intro B W hB hb hk)
      | (with_reducible refine wpList_load1 (by kernel_rfl) _ _ rfl B _ rfl _ _ hb _ (by assumption) (by assumption) ?_)
      | (go_at_call 59; (with_reducible refine (rlraise_any (l2.lab' hk) ?hn).mono ?_); (case hn => omega); rintro e w1 ⟨ao1, n1, cap1, rfl, hl1, hn1, hb1⟩))
    go_ret
    exact ⟨ao1, n1, cap1, rfl, by rw [hr.out]; exact hl1, hk.trans (hb1.mono hk.size)⟩
  · have hr : Hid (shoL x = x.label) := by show _ = _; unfold shoL; rw [if_neg hk4]
    have g1 : (x.kind == 4) = false := by rw [beq_eq_false_iff_ne]; exact hk4
    clear hk4
    go_enter Try.func22, Try.ntmps22
    go_wp2_with (first
      | go_skip
      | (with_reducible refine wpList_box rfl _ _ rfl C rfl ?_; intro B W hB hb hk)
      | (with_reducible refine wpList_load1 (by kernel_rfl) _ _ rfl B _ rfl _ _ hb _ (by assumption) (by assumption) ?_))
    go_ret
    exact ⟨a2, n2, k2, rfl, by rw [hr.out]; exact lab_eq l2 hk, hk⟩
theorem hea4 {x : Ob} (h : x.kind = 4) : heaO x = { comO x with label := [] } := by unfold heaO comO; rw [if_pos h]
theorem hea5 {x : Ob} (h : ¬ x.kind = 4) : heaO x = comO x := by unfold heaO comO; rw [if_neg h]
theorem small_com {x : Ob} (h : Small x) : Small (comO x) := ⟨h.c2, by simp [comO], by simp [comO], by simp [comO], by simp [comO, zTh], by simp [comO, zTh], by simp [comO, zTh], by simp [comO, zTh], by simp [comO, zTh], by simp [comO, zTh], by simp [comO, zGt], by simp [comO, zGt], by simp [comO], by simp [comO]⟩
theorem small_hea {x : Ob} (h : Small x) : Small (heaO x) := by
  by_cases hk : x.kind = 4
  · rw [hea4 hk]; have := small_com h; exact ⟨by simp, this.c5, this.c6, this.c7, this.c25, this.c36, this.c39, this.c40, this.c41, this.c42, this.c43, this.c44, this.c49, this.c50⟩
  · rw [hea5 hk]; exact small_com h
set_option maxRecDepth 100000 in
set_option maxHeartbeats 4000000 in
theorem head_any {w : World} {C : Array Value} {x : Ob} (h : ObD (LtN w) w C x) (hs : Small x) : Calls Try.prog 23 #[.agg C] w fun e w' => ∃ C', e = .returned (.agg C') ∧ ObD (New w w') w' C' (heaO x) ∧ Below w.heap.size w w' := by
  have hz := h.size
  have c0 := h.id
  have c1 := h.kind
  obtain ⟨a2, n2, k2, c2, l2⟩ := h.label
  have hn2 : Hid (x.label.length = n2) := l2.1
  have c3 := h.quota
  have c4 := h.fixed
  obtain ⟨a5, n5, k5, c5, l5⟩ := h.links
  have hn5 : Hid (x.links.length = n5) := l5.1
  obtain ⟨a6, n6, k6, c6, l6⟩ := h.data
  have hn6 : Hid (x.data.length = n6) := l6.1
  obtain ⟨a7, n7, k7, c7, l7⟩ := h.maps
  have hn7 : Hid (x.maps.length = n7) := l7.1
  obtain ⟨a49, n49, k49, c49, l49⟩ := h.inn
  have hn49 : Hid (x.inn.length = n49) := l49.1
  obtain ⟨a50, n50, k50, c50, l50⟩ := h.out
  have hn50 : Hid (x.out.length = n50) := l50.1
  obtain ⟨a25, n25, k25, c25, l25⟩ := h.th.clear
  obtain ⟨a43, n43, k43, c43, l43⟩ := h.gt.grant
  obtain ⟨a44, n44, k44, c44, l44⟩ := h.gt.clear
  replace c25 : C[25]? = some (.slice a25 n25 k25) := c25
  replace c43 : C[43]? = some (.slice a43 n43 k43) := c43
  replace c44 : C[44]? = some (.slice a44 n44 k44) := c44
  have ga0 := Try.isAgg24
  have ga1 := Try.isAgg22
  have ga2 := Try.isAgg3
  have ga3 := Try.isAgg4
  have ga4 := Try.isAgg25
  have ga5 := Try.isAgg26
  have hsh := small_hea hs
  by_cases hk4 : x.kind = 4
  · have hr : Hid (heaO x = { comO x with label := [] }) := hea4 hk4
    replace c1 : C[1]? = some (.int .i64 4) := c1.trans (by rw [hk4])
    clear hk4
    go_enter Try.func23, Try.ntmps23
    go_wp2_with (first
      | go_skip
      | (with_reducible refine wpList_box rfl _ _ rfl C rfl ?_; intro B W hB hb hk)
      | ((with_reducible refine wpList_alloc rfl _ rfl zC zero40 ?_); intro Hh WH hB0 hHb hkH; have hHn : R ≠ Hh := (by have := hB0.out.1; have := hR.lt; omega); have hHB : B ≠ Hh := (by have := hB0.out.1; have := hb2.lt; omega))
      | ((with_reducible refine wpList_alloc rfl _ rfl zC zero40 ?_); intro R W' hB' hR hk'; have hbb := hb.next hk'; replace hk := hk.trans (hk'.mono hk.size))
      | (with_reducible refine wpList_load_blk rfl _ _ rfl B rfl _ hbb _ Try.underlying40 rfl (size40C hz) ?_)
      | (go_at_call 34; (with_reducible refine (common_any (h.next hk)).mono ?_); rintro e w1 ⟨C1, rfl, hc1, hb1⟩; have hb2 := hbb.next hb1; replace hR := hR.next hb1; replace hk := hk.trans (hb1.mono hk.size))
      | ((with_reducible refine wpList_store_blk rfl _ _ _ rfl Hh rfl _ rfl zC hHb (size40C hc1.size) (zC_size.trans hc1.size.symm) hc1.one ?_); intro W5 b5 o5; have kH := hk.trans (hkH.mono hk.size); have k5 := o5.below w.heap.size w (by have := hkH.size; have := hk.size; have := hB0.out.1; omega) kH; have hc5 : ObD (fun b => b < W5.heap.size ∧ b ≠ Hh) W5 C1 (comO x) := ((hc1.laterK fun b hb => hkH.block b hb).laterK fun b hb => o5.block b (by have := hB0.out.1; have := hb; omega)).wide fun b hb => ⟨(by rw [o5.size]; exact Nat.lt_of_lt_of_le hb hkH.size), (by have := hB0.out.1; have := hb; omega)⟩; have hb5 := (hb2.next hkH).other o5 hHB; have hR5 := (hR.next hkH).other o5 hHn)
      | (with_reducible refine wpList_load1 (by kernel_rfl) _ _ rfl B _ rfl _ _ hb5 _ (by assumption) (by assumption) ?_)
      | ((with_reducible refine wpList_store_cell rfl _ _ _ rfl Hh 2 rfl (.slice none 0 0) rfl rfl _ _ b5 size24 (by rw [hc1.size]; omega) rfl ?_); intro W6 b6 o6; have k6 := o6.below w.heap.size w (by have := hkH.size; have := hk.size; have := hB0.out.1; omega) k5; have hc6 : ObD (LtN W6) W6 (C1.setIfInBounds 2 (.slice none 0 0)) (heaO x) := (by rw [hr.out]; exact ((hc5.set2 (LbV.zero _ _) rfl).laterK fun b hb => o6.block b hb.2).wide fun b hb => (by show b < _; rw [o6.size]; exact hb.1)); have hR6 := hR5.other o6 hHn)
      | (with_reducible refine wpList_load_blk rfl _ _ rfl Hh rfl _ b6 _ Try.underlying40 rfl (size40C hc6.size) ?_)
      | (go_at_call 60; (with_reducible refine (copiedOne_any hc6 hsh).mono ?_); rintro e w7 ⟨C7, rfl, hc7, hb7⟩; have hR7 := hR6.next hb7; have k7 := k6.trans (hb7.mono k6.size))
      | ((with_reducible refine wpList_store_blk rfl _ _ _ rfl R rfl _ rfl zC hR7 (size40C hc7.size) (zC_size.trans hc7.size.symm) hc7.one ?_); intro W9 b9 o9))
    have hRl : R < W6.heap.size := hR6.lt
    have k9 := o9.below w.heap.size w (by have := hB'.out.1; have := hB.out; omega) k7
    refine bodyPost_ret (v := .agg _) (res40 Try.results23 rfl b9 hc7.size) rfl ?_
    exact ⟨_, rfl, (hc7.laterK fun b hb => o9.block b (by have := hb.1; omega)).wide fun b hb => ⟨Nat.le_trans k6.size hb.1, (by rw [o9.size]; exact hb.2)⟩, k9⟩
  · have hr : Hid (heaO x = comO x) := hea5 hk4
    have g1 : (x.kind == 4) = false := by rw [beq_eq_false_iff_ne]; exact hk4
    clear hk4
    go_enter Try.func23, Try.ntmps23
    go_wp2_with (first
      | go_skip
      | (with_reducible refine wpList_box rfl _ _ rfl C rfl ?_; intro B W hB hb hk)
      | ((with_reducible refine wpList_alloc rfl _ rfl zC zero40 ?_); intro Hh WH hB0 hHb hkH; have hHn : R ≠ Hh := (by have := hB0.out.1; have := hR.lt; omega); have hHB : B ≠ Hh := (by have := hB0.out.1; have := hb2.lt; omega))
      | ((with_reducible refine wpList_alloc rfl _ rfl zC zero40 ?_); intro R W' hB' hR hk'; have hbb := hb.next hk'; replace hk := hk.trans (hk'.mono hk.size))
      | (with_reducible refine wpList_load_blk rfl _ _ rfl B rfl _ hbb _ Try.underlying40 rfl (size40C hz) ?_)
      | (go_at_call 34; (with_reducible refine (common_any (h.next hk)).mono ?_); rintro e w1 ⟨C1, rfl, hc1, hb1⟩; have hb2 := hbb.next hb1; replace hR := hR.next hb1; replace hk := hk.trans (hb1.mono hk.size))
      | ((with_reducible refine wpList_store_blk rfl _ _ _ rfl Hh rfl _ rfl zC hHb (size40C hc1.size) (zC_size.trans hc1.size.symm) hc1.one ?_); intro W5 b5 o5; have kH := hk.trans (hkH.mono hk.size); have k5 := o5.below w.heap.size w (by have := hkH.size; have := hk.size; have := hB0.out.1; omega) kH; have hc5 : ObD (fun b => b < W5.heap.size ∧ b ≠ Hh) W5 C1 (comO x) := ((hc1.laterK fun b hb => hkH.block b hb).laterK fun b hb => o5.block b (by have := hB0.out.1; have := hb; omega)).wide fun b hb => ⟨(by rw [o5.size]; exact Nat.lt_of_lt_of_le hb hkH.size), (by have := hB0.out.1; have := hb; omega)⟩; have hb5 := (hb2.next hkH).other o5 hHB; have hR5 := (hR.next hkH).other o5 hHn)
      | (with_reducible refine wpList_load1 (by kernel_rfl) _ _ rfl B _ rfl _ _ hb5 _ (by assumption) (by assumption) ?_)
      | (with_reducible refine wpList_load_blk rfl _ _ rfl Hh rfl _ b5 _ Try.underlying40 rfl (size40C hc1.size) ?_)
      | (go_at_call 60; (with_reducible refine (copiedOne_any (x := heaO x) (by rw [hr.out]; exact hc5.wide fun b hb => hb.1) hsh).mono ?_); rintro e w7 ⟨C7, rfl, hc7, hb7⟩; have hR7 := hR5.next hb7; have k7 := k5.trans (hb7.mono k5.size))
      | ((with_reducible refine wpList_store_blk rfl _ _ _ rfl R rfl _ rfl zC hR7 (size40C hc7.size) (zC_size.trans hc7.size.symm) hc7.one ?_); intro W9 b9 o9))
    have hRl : R < W5.heap.size := hR5.lt
    have k9 := o9.below w.heap.size w (by have := hB'.out.1; have := hB.out; omega) k7
    refine bodyPost_ret (v := .agg _) (res40 Try.results23 rfl b9 hc7.size) rfl ?_
    exact ⟨_, rfl, (hc7.laterK fun b hb => o9.block b (by have := hb.1; omega)).wide fun b hb => ⟨Nat.le_trans k5.size hb.1, (by rw [o9.size]; exact hb.2)⟩, k9⟩
def briefP (x : Ob) : Prop := x.label.length ≤ 20 ∧ x.links.length ≤ 80 ∧ x.data.length ≤ 200 ∧ x.maps.length ≤ 20 ∧ x.inn.length ≤ 80 ∧ x.out.length ≤ 80 ∧ x.th.alerts.length ≤ 20
set_option maxRecDepth 100000 in
set_option maxHeartbeats 4000000 in
theorem brief_any {w : World} {C : Array Value} {x : Ob} (h : ObD (LtN w) w C x) : Asks 7 #[.agg C] (briefP x) w := by
  have hz := h.size
  have c0 := h.id
  have c1 := h.kind
  obtain ⟨a2, n2, k2, c2, l2⟩ := h.label
  have hn2 : Hid (x.label.length = n2) := l2.1
  have c3 := h.quota
  have c4 := h.fixed
  obtain ⟨a5, n5, k5, c5, l5⟩ := h.links
  have hn5 : Hid (x.links.length = n5) := l5.1
  obtain ⟨a6, n6, k6, c6, l6⟩ := h.data
  have hn6 : Hid (x.data.length = n6) := l6.1
  obtain ⟨a7, n7, k7, c7, l7⟩ := h.maps
  have hn7 : Hid (x.maps.length = n7) := l7.1
  obtain ⟨a49, n49, k49, c49, l49⟩ := h.inn
  have hn49 : Hid (x.inn.length = n49) := l49.1
  obtain ⟨a50, n50, k50, c50, l50⟩ := h.out
  have hn50 : Hid (x.out.length = n50) := l50.1
  obtain ⟨a25, n25, k25, c25, l25⟩ := h.th.clear
  obtain ⟨a43, n43, k43, c43, l43⟩ := h.gt.grant
  obtain ⟨a44, n44, k44, c44, l44⟩ := h.gt.clear
  replace c25 : C[25]? = some (.slice a25 n25 k25) := c25
  replace c43 : C[43]? = some (.slice a43 n43 k43) := c43
  replace c44 : C[44]? = some (.slice a44 n44 k44) := c44
  have ga0 := Try.isAgg24
  have ga1 := Try.isAgg22
  have ga2 := Try.isAgg3
  have ga3 := Try.isAgg4
  have ga4 := Try.isAgg25
  have ga5 := Try.isAgg26
  obtain ⟨a36, n36, k36, c36, l36⟩ := h.th.alerts
  replace c36 : C[36]? = some (.slice a36 n36 k36) := c36
  have hn36 : Hid (x.th.alerts.length = n36) := l36.1
  unfold Asks
  go_enter Try.func7, Try.ntmps7
  go_wp2_with (first
    | go_skip
    | (with_reducible refine wpList_box rfl _ _ rfl C rfl ?_; intro B W hB hb hk)
    | (with_reducible refine wpList_load1 (by kernel_rfl) _ _ rfl B _ rfl _ _ hb _ (by assumption) (by assumption) ?_)
    | ((with_reducible refine wpList_test (by kernel_rfl) .leq _ _ _ _ rfl _ _ rfl rfl (tle_int _ _ _ _ _ _) ?_ ?_) <;> intro hq))
  all_goals go_ret
  all_goals first
    | (have h2 : (n2 : Int) ≤ 20 := Hid.out (by assumption); have h5 : (n5 : Int) ≤ 80 := Hid.out (by assumption); have h6 : (n6 : Int) ≤ 200 := Hid.out (by assumption); have h7 : (n7 : Int) ≤ 20 := Hid.out (by assumption); have h49 : (n49 : Int) ≤ 80 := Hid.out (by assumption); have h50 : (n50 : Int) ≤ 80 := Hid.out (by assumption); have h36 : (n36 : Int) ≤ 20 := Hid.out (by assumption); exact askP_yes ⟨by rw [hn2.out]; omega, by rw [hn5.out]; omega, by rw [hn6.out]; omega, by rw [hn7.out]; omega, by rw [hn49.out]; omega, by rw [hn50.out]; omega, by rw [hn36.out]; omega⟩ hk)
    | (have hl : 20 < (n2 : Int) := Hid.out (by assumption); refine ⟨false, rfl, ⟨fun e => absurd e Bool.false_ne_true, fun e => ?_⟩, hk⟩; exfalso; have := e.1; rw [hn2.out] at this; omega)
    | (have hl : 80 < (n5 : Int) := Hid.out (by assumption); refine ⟨false, rfl, ⟨fun e => absurd e Bool.false_ne_true, fun e => ?_⟩, hk⟩; exfalso; have := e.2.1; rw [hn5.out] at this; omega)
    | (have hl : 200 < (n6 : Int) := Hid.out (by assumption); refine ⟨false, rfl, ⟨fun e => absurd e Bool.false_ne_true, fun e => ?_⟩, hk⟩; exfalso; have := e.2.2.1; rw [hn6.out] at this; omega)
    | (have hl : 20 < (n7 : Int) := Hid.out (by assumption); refine ⟨false, rfl, ⟨fun e => absurd e Bool.false_ne_true, fun e => ?_⟩, hk⟩; exfalso; have := e.2.2.2.1; rw [hn7.out] at this; omega)
    | (have hl : 80 < (n49 : Int) := Hid.out (by assumption); refine ⟨false, rfl, ⟨fun e => absurd e Bool.false_ne_true, fun e => ?_⟩, hk⟩; exfalso; have := e.2.2.2.2.1; rw [hn49.out] at this; omega)
    | (have hl : 80 < (n50 : Int) := Hid.out (by assumption); refine ⟨false, rfl, ⟨fun e => absurd e Bool.false_ne_true, fun e => ?_⟩, hk⟩; exfalso; have := e.2.2.2.2.2.1; rw [hn50.out] at this; omega)
    | (have hl : 20 < (n36 : Int) := Hid.out (by assumption); refine ⟨false, rfl, ⟨fun e => absurd e Bool.false_ne_true, fun e => ?_⟩, hk⟩; exfalso; have := e.2.2.2.2.2.2; rw [hn36.out] at this; omega)
    | fail
end Go.Proofs.Ytfpmkihlfhpgdaa
