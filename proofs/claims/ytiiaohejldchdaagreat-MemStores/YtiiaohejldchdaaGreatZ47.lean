/-
 PROVED HERE: what the document's Load and Store of chapter 18 return when they are called (contracts over this translation). What is asked stands at each.
-/
import Derived.Test.YtiiaohejldchdaaGreatZ35
import Derived.Test.YtiiaohejldchdaaGreatZ45
import Derived.Test.YtiiaohejldchdaaGreatZ46
namespace Go.Proofs.YtiiaohejldchdaaGreat
set_option maxRecDepth 100000
set_option maxHeartbeats 8000000
open Go.RowKit Go.Shelf
set_option linter.unusedVariables false
attribute [local go_sem] Oper.semAt_some

theorem rload_n {w V0 : World} {t ke ro : Int} {ao : Option Addr} {n cap : Nat} {X : List Ob} {C : Array Value} {x : Ob} {a : Int} (h : Rm w ao n cap X C x) (hk0 : Below w.heap.size w V0) (ha : 0 ≤ a ∧ a ≤ 18446744073709551615) (hE : wkE X x a ≠ 0) : Calls Tryz.prog 13 #[.agg #[.int .i64 t, .int .u64 ke, .int .u64 ro, .slice ao n cap], .agg C, .int .u64 a] V0 fun e w' => e = .returned (.tuple #[.int .u64 0, .bool false]) ∧ Below V0.heap.size V0 w' := by
 have hz := h.thr.size
 have hzg : (Tryz.prog.info? 25).map (·.size) = some (#[.int .i64 t, .int .u64 ke, .int .u64 ro, .slice ao n cap] : Array Value).size := by kernel_rfl
 have hfd := fun (W : World) (hk : Below w.heap.size w W) => rwalk_v (t := t) (ke := ke) (ro := ro) h hk ha
 unfold RwO at hfd
 have HE : Hid (wkE X x a ≠ 0) := hE
 clear hE
 generalize wkE X x a = ek at hfd HE ⊢
 have hb0 : (ek != 0) = true := by simpa using HE.out
 generalize resO ek (wkO X x a) = y at hfd ⊢
 generalize (if ek = 0 then (mpM X x a).wr else false) = wb at hfd ⊢
 generalize (if ek = 0 then mpA X x a else 0) = A at hfd ⊢
 obtain ⟨D, hD⟩ : ∃ D : Array Value, D = #[.int .i64 t, .int .u64 ke, .int .u64 ro, .slice ao n cap] := ⟨_, rfl⟩
 rw [← hD] at hfd hzg
 rw [← hD]
 clear hD
 go_enter Tryz.func13, Tryz.ntmps13
 go_wp2_with (first
  | go_skip
  | (with_reducible refine wpList_box rfl 25 _ rfl D rfl ?_; intro B V1 hNB hB hk)
  | (with_reducible refine wpList_box rfl 43 _ rfl C rfl ?_; intro T V2 hNT hT hk2; replace hB := hB.next hk2; replace hk := hk.trans (hk2.mono hk.size); clear hk2)
  | (with_reducible refine wpList_loadb (by kernel_rfl) 25 _ rfl B rfl D hB _ Tryz.underlying25 (by kernel_rfl) hzg ?_)
  | (with_reducible refine wpList_loadb (by kernel_rfl) 43 _ rfl T rfl C hT _ Tryz.underlying43 (by kernel_rfl) (size40C hz) ?_)
  | (go_at_call 11; (with_reducible refine (hfd _ (hk0.trans (hk.mono hk0.size))).mono ?_); rintro e w3 ⟨CF1, rfl, oF1, hb1⟩; clear hfd)
  | ((with_reducible refine wpList_alloc rfl 43 rfl zC zero40 ?_); intro P1 U1 hN21 hPa1 hka1)
  | ((with_reducible refine wpList_store_blk rfl _ _ _ rfl P1 rfl CF1 rfl zC hPa1 (size40C oF1.size) (zC_size.trans oF1.size.symm) oF1.one ?_); intro X1 hP1 q1; obtain ⟨hbz, oG1⟩ := laidO (hk0.trans (hk.mono hk0.size)) hb1 oF1 hN21 hka1 q1; have zG1 := oG1.size; have nP1 : Hid (w.heap.size ≤ P1 ∧ V0.heap.size ≤ P1) := (by have h1 := hN21.out.1; have h2 := hb1.size; have h4 := hk.size; have h5 := hk0.size; exact ⟨by omega, by omega⟩);  clear oF1 hb1 hN21 hka1 q1 hPa1; replace hB := hB.next hbz; replace hT := hT.next hbz; replace hk := hk.trans (hbz.mono hk.size); clear hbz; skip)
  | (with_reducible refine wpList_loadb (by kernel_rfl) 43 _ rfl P1 rfl CF1 hP1 _ Tryz.underlying43 (by kernel_rfl) (size40C zG1) ?_))
 exact bodyPost_ret (results_tmp2 Tryz.results13 _ _ _) rfl ⟨rfl, hk⟩
theorem rload_y {w V0 : World} {t ke ro : Int} {ao : Option Addr} {n cap : Nat} {X : List Ob} {C : Array Value} {x : Ob} {a : Int} (h : Rm w ao n cap X C x) (hk0 : Below w.heap.size w V0) (ha : 0 ≤ a ∧ a ≤ 18446744073709551615) (hE : wkE X x a = 0) : Calls Tryz.prog 13 #[.agg #[.int .i64 t, .int .u64 ke, .int .u64 ro, .slice ao n cap], .agg C, .int .u64 a] V0 fun e w' => e = .returned (.tuple #[.int .u64 (gtV (wkO X x a) (mpA X x a)), .bool true]) ∧ Below V0.heap.size V0 w' := by
 have hz := h.thr.size
 have hzg : (Tryz.prog.info? 25).map (·.size) = some (#[.int .i64 t, .int .u64 ke, .int .u64 ro, .slice ao n cap] : Array Value).size := by kernel_rfl
 have hfd := fun (W : World) (hk : Below w.heap.size w W) => rwalk_v (t := t) (ke := ke) (ro := ro) h hk ha
 unfold RwO at hfd
 simp only [hE, if_pos] at hfd
 have hA := wk_word h.rw.snd ha.1 hE
 have hwz := wk_zero hE
 have hres : resO 0 (wkO X x a) = wkO X x a := rfl
 rw [hres] at hfd
 clear hres
 rw [gt_near hwz.2.2.2.2.1 hwz.2.2.2.2.2.2.1]
 have HL : Hid (mpA X x a < (wkO X x a).data.length) := hwz.2.2.2.2.2.2.1
 clear hwz hE
 have ga4 := Tryz.isAgg28
 have ga1 := Tryz.isAgg22
 generalize wkO X x a = y at hfd HL ⊢
 generalize (mpM X x a).wr = wb at hfd ⊢
 generalize mpA X x a = A at hfd hA HL ⊢
 obtain ⟨u, hu⟩ : ∃ u, Hid (y.data.getD A 0 = u) := ⟨_, rfl⟩
 rw [hu.out]
 obtain ⟨D, hD⟩ : ∃ D : Array Value, D = #[.int .i64 t, .int .u64 ke, .int .u64 ro, .slice ao n cap] := ⟨_, rfl⟩
 rw [← hD] at hfd hzg
 rw [← hD]
 clear hD
 go_enter Tryz.func13, Tryz.ntmps13
 go_wp2_with (first
  | go_skip
  | (with_reducible refine wpList_box rfl 25 _ rfl D rfl ?_; intro B V1 hNB hB hk)
  | (with_reducible refine wpList_box rfl 43 _ rfl C rfl ?_; intro T V2 hNT hT hk2; replace hB := hB.next hk2; replace hk := hk.trans (hk2.mono hk.size); clear hk2)
  | (with_reducible refine wpList_loadb (by kernel_rfl) 25 _ rfl B rfl D hB _ Tryz.underlying25 (by kernel_rfl) hzg ?_)
  | (with_reducible refine wpList_loadb (by kernel_rfl) 43 _ rfl T rfl C hT _ Tryz.underlying43 (by kernel_rfl) (size40C hz) ?_)
  | (go_at_call 11; (with_reducible refine (hfd _ (hk0.trans (hk.mono hk0.size))).mono ?_); rintro e w3 ⟨CF1, rfl, oF1, hb1⟩; clear hfd)
  | ((with_reducible refine wpList_alloc rfl 43 rfl zC zero40 ?_); intro P1 U1 hN21 hPa1 hka1)
  | ((with_reducible refine wpList_store_blk rfl _ _ _ rfl P1 rfl CF1 rfl zC hPa1 (size40C oF1.size) (zC_size.trans oF1.size.symm) oF1.one ?_); intro X1 hP1 q1; obtain ⟨hbz, oG1⟩ := laidO (hk0.trans (hk.mono hk0.size)) hb1 oF1 hN21 hka1 q1; have zG1 := oG1.size; have nP1 : Hid (w.heap.size ≤ P1 ∧ V0.heap.size ≤ P1) := (by have h1 := hN21.out.1; have h2 := hb1.size; have h4 := hk.size; have h5 := hk0.size; exact ⟨by omega, by omega⟩);  clear oF1 hb1 hN21 hka1 q1 hPa1; replace hB := hB.next hbz; replace hT := hT.next hbz; replace hk := hk.trans (hbz.mono hk.size); clear hbz; obtain ⟨a6, n6, c6, e6, l6⟩ := oG1.lt.data; have hA6 : A < n6 := (by have h1 := HL.out; have h2 := l6.1; omega); have hA7 : (A : Int) < n6 := (by omega); obtain ⟨b, off, rfl, hbl, hcl⟩ := ct_at l6 hA6; rw [hu.out] at hcl; clear l6; skip)
  | (with_reducible refine wpList_loadb (by kernel_rfl) 43 _ rfl P1 rfl CF1 hP1 _ Tryz.underlying43 (by kernel_rfl) (size40C zG1) ?_)
  | (with_reducible refine wpList_load1 (by kernel_rfl) _ _ rfl P1 _ rfl _ _ hP1 _ e6 ga4 ?_))
 exact bodyPost_ret (results_tmp2 Tryz.results13 _ _ _) rfl ⟨rfl, hk⟩
theorem rload_v {w V0 : World} {t ke ro : Int} {ao : Option Addr} {n cap : Nat} {X : List Ob} {C : Array Value} {x : Ob} {a : Int} (h : Rm w ao n cap X C x) (hk0 : Below w.heap.size w V0) (ha : 0 ≤ a ∧ a ≤ 18446744073709551615) : Calls Tryz.prog 13 #[.agg #[.int .i64 t, .int .u64 ke, .int .u64 ro, .slice ao n cap], .agg C, .int .u64 a] V0 fun e w' => e = .returned (.tuple #[.int .u64 (ldV X x a), .bool (decide (wkE X x a = 0))]) ∧ Below V0.heap.size V0 w' := by
 unfold ldV
 by_cases hE : wkE X x a = 0
 ·rw [if_pos hE, decide_eq_true hE]; exact rload_y h hk0 ha hE
 ·rw [if_neg hE, decide_eq_false hE]; exact rload_n h hk0 ha hE
theorem rstore_a {w V0 : World} {t ke ro : Int} {ao : Option Addr} {n cap : Nat} {X : List Ob} {C : Array Value} {x : Ob} {a v : Int} (h : Rm w ao n cap X C x) (hk0 : Below w.heap.size w V0) (ha : 0 ≤ a ∧ a ≤ 18446744073709551615) (hs : Srt X) (hn : n < 1024) (hE : wkE X x a ≠ 0) : Calls Tryz.prog 15 #[.agg #[.int .i64 t, .int .u64 ke, .int .u64 ro, .slice ao n cap], .agg C, .int .u64 a, .int .u64 v] V0 fun e w' => ∃ ao2 n2 cap2, e = .returned (.tuple #[.agg #[.int .i64 t, .int .u64 ke, .int .u64 ro, .slice ao2 n2 cap2], .bool false]) ∧ Obs w' ao2 n2 cap2 X ∧ Below V0.heap.size V0 w' := by
 have hz := h.thr.size
 have hzg : (Tryz.prog.info? 25).map (·.size) = some (#[.int .i64 t, .int .u64 ke, .int .u64 ro, .slice ao n cap] : Array Value).size := by kernel_rfl
 have hfd := fun (W : World) (hk : Below w.heap.size w W) => rwalk_v (t := t) (ke := ke) (ro := ro) h hk ha
 unfold RwO at hfd
 have HE : Hid (wkE X x a ≠ 0) := hE
 clear hE
 generalize wkE X x a = ek at hfd HE ⊢
 have hb0 : (ek != 0) = true := by simpa using HE.out
 generalize resO ek (wkO X x a) = y at hfd ⊢
 generalize (if ek = 0 then (mpM X x a).wr else false) = wb at hfd ⊢
 generalize (if ek = 0 then mpA X x a else 0) = A at hfd ⊢
 obtain ⟨D, hD⟩ : ∃ D : Array Value, D = #[.int .i64 t, .int .u64 ke, .int .u64 ro, .slice ao n cap] := ⟨_, rfl⟩
 have hDH : Hid (D = #[.int .i64 t, .int .u64 ke, .int .u64 ro, .slice ao n cap]) := hD
 simp only [← hD] at hfd hzg
 have hDs : D.size = 4 := by rw [hD]; rfl
 have hD1 : D.all (·.oneCell') = true := by rw [hD]; kernel_rfl
 have hDz : zW.size = D.size := by rw [hDs]; rfl
 rw [← hD]
 clear hD
 go_enter Tryz.func15, Tryz.ntmps15
 go_wp2_with (first
  | go_skip
  | (with_reducible refine wpList_box rfl 25 _ rfl D rfl ?_; intro B V1 hNB hB hk)
  | (with_reducible refine wpList_box rfl 43 _ rfl C rfl ?_; intro T V2 hNT hT hk2; replace hB := hB.next hk2; replace hk := hk.trans (hk2.mono hk.size); clear hk2)
  | ((with_reducible refine wpList_alloc rfl 25 rfl zW zero43 ?_); intro R V3 hNR hR hk3; replace hB := hB.next hk3; replace hT := hT.next hk3; replace hk := hk.trans (hk3.mono hk.size); clear hk3)
  | (with_reducible refine wpList_loadb (by kernel_rfl) 25 _ rfl B rfl D hB _ Tryz.underlying25 (by kernel_rfl) hzg ?_)
  | (with_reducible refine wpList_loadb (by kernel_rfl) 43 _ rfl T rfl C hT _ Tryz.underlying43 (by kernel_rfl) (size40C hz) ?_)
  | (go_at_call 11; (with_reducible refine (hfd _ (hk0.trans (hk.mono hk0.size))).mono ?_); rintro e w3 ⟨CF1, rfl, oF1, hb1⟩; clear hfd)
  | ((with_reducible refine wpList_alloc rfl 43 rfl zC zero40 ?_); intro P1 U1 hN21 hPa1 hka1)
  | ((with_reducible refine wpList_store_blk rfl _ _ _ rfl P1 rfl CF1 rfl zC hPa1 (size40C oF1.size) (zC_size.trans oF1.size.symm) oF1.one ?_); intro X1 hP1 q1; obtain ⟨hbz, oG1⟩ := laidO (hk0.trans (hk.mono hk0.size)) hb1 oF1 hN21 hka1 q1; have zG1 := oG1.size; have nP1 : Hid (w.heap.size ≤ P1 ∧ V0.heap.size ≤ P1) := (by have h1 := hN21.out.1; have h2 := hb1.size; have h4 := hk.size; have h5 := hk0.size; exact ⟨by omega, by omega⟩);  clear oF1 hb1 hN21 hka1 q1 hPa1; replace hB := hB.next hbz; replace hT := hT.next hbz; replace hR := hR.next hbz; replace hk := hk.trans (hbz.mono hk.size); clear hbz; skip)
  | (with_reducible refine wpList_loadb (by kernel_rfl) 43 _ rfl P1 rfl CF1 hP1 _ Tryz.underlying43 (by kernel_rfl) (size40C zG1) ?_)
  | ((with_reducible refine wpList_store_blk rfl _ _ _ rfl R rfl D rfl zW hR hzg hDz hD1 ?_); intro V9 hR9 q9))
 have hRw : w.heap.size ≤ R := by have := hNB.out; have := hNT.out; have := hNR.out; have := hk0.size; omega
 have hRV : V0.heap.size ≤ R := by have := hNB.out; have := hNT.out; have := hNR.out; omega
 refine bodyPost_ret (v := .tuple #[.agg D, .bool false]) (res_w2 Tryz.results15 rfl rfl hR9 hDs) rfl ⟨ao, n, cap, by rw [hDH.out], obs_next h.rw.obs (q9.below _ _ hRw (hk0.trans (hk.mono hk0.size))), q9.below _ _ hRV hk⟩
theorem rstore_b {w V0 : World} {t ke ro : Int} {ao : Option Addr} {n cap : Nat} {X : List Ob} {C : Array Value} {x : Ob} {a v : Int} (h : Rm w ao n cap X C x) (hk0 : Below w.heap.size w V0) (ha : 0 ≤ a ∧ a ≤ 18446744073709551615) (hs : Srt X) (hn : n < 1024) (hE : wkE X x a = 0) (hT : (mpM X x a).wr = false) : Calls Tryz.prog 15 #[.agg #[.int .i64 t, .int .u64 ke, .int .u64 ro, .slice ao n cap], .agg C, .int .u64 a, .int .u64 v] V0 fun e w' => ∃ ao2 n2 cap2, e = .returned (.tuple #[.agg #[.int .i64 t, .int .u64 ke, .int .u64 ro, .slice ao2 n2 cap2], .bool false]) ∧ Obs w' ao2 n2 cap2 X ∧ Below V0.heap.size V0 w' := by
 have hz := h.thr.size
 have hzg : (Tryz.prog.info? 25).map (·.size) = some (#[.int .i64 t, .int .u64 ke, .int .u64 ro, .slice ao n cap] : Array Value).size := by kernel_rfl
 have hfd := fun (W : World) (hk : Below w.heap.size w W) => rwalk_v (t := t) (ke := ke) (ro := ro) h hk ha
 unfold RwO at hfd
 simp only [hE, if_pos] at hfd
 have hA := wk_word h.rw.snd ha.1 hE
 have hwz := wk_zero hE
 have hres : resO 0 (wkO X x a) = wkO X x a := rfl
 rw [hres] at hfd
 clear hres
 rw [hT] at hfd
 clear hT hwz hE hA
 generalize wkO X x a = y at hfd ⊢
 generalize mpA X x a = A at hfd ⊢
 obtain ⟨D, hD⟩ : ∃ D : Array Value, D = #[.int .i64 t, .int .u64 ke, .int .u64 ro, .slice ao n cap] := ⟨_, rfl⟩
 have hDH : Hid (D = #[.int .i64 t, .int .u64 ke, .int .u64 ro, .slice ao n cap]) := hD
 simp only [← hD] at hfd hzg
 have hDs : D.size = 4 := by rw [hD]; rfl
 have hD1 : D.all (·.oneCell') = true := by rw [hD]; kernel_rfl
 have hDz : zW.size = D.size := by rw [hDs]; rfl
 rw [← hD]
 clear hD
 go_enter Tryz.func15, Tryz.ntmps15
 go_wp2_with (first
  | go_skip
  | (with_reducible refine wpList_box rfl 25 _ rfl D rfl ?_; intro B V1 hNB hB hk)
  | (with_reducible refine wpList_box rfl 43 _ rfl C rfl ?_; intro T V2 hNT hT hk2; replace hB := hB.next hk2; replace hk := hk.trans (hk2.mono hk.size); clear hk2)
  | ((with_reducible refine wpList_alloc rfl 25 rfl zW zero43 ?_); intro R V3 hNR hR hk3; replace hB := hB.next hk3; replace hT := hT.next hk3; replace hk := hk.trans (hk3.mono hk.size); clear hk3)
  | (with_reducible refine wpList_loadb (by kernel_rfl) 25 _ rfl B rfl D hB _ Tryz.underlying25 (by kernel_rfl) hzg ?_)
  | (with_reducible refine wpList_loadb (by kernel_rfl) 43 _ rfl T rfl C hT _ Tryz.underlying43 (by kernel_rfl) (size40C hz) ?_)
  | (go_at_call 11; (with_reducible refine (hfd _ (hk0.trans (hk.mono hk0.size))).mono ?_); rintro e w3 ⟨CF1, rfl, oF1, hb1⟩; clear hfd)
  | ((with_reducible refine wpList_alloc rfl 43 rfl zC zero40 ?_); intro P1 U1 hN21 hPa1 hka1)
  | ((with_reducible refine wpList_store_blk rfl _ _ _ rfl P1 rfl CF1 rfl zC hPa1 (size40C oF1.size) (zC_size.trans oF1.size.symm) oF1.one ?_); intro X1 hP1 q1; obtain ⟨hbz, oG1⟩ := laidO (hk0.trans (hk.mono hk0.size)) hb1 oF1 hN21 hka1 q1; have zG1 := oG1.size; have nP1 : Hid (w.heap.size ≤ P1 ∧ V0.heap.size ≤ P1) := (by have h1 := hN21.out.1; have h2 := hb1.size; have h4 := hk.size; have h5 := hk0.size; exact ⟨by omega, by omega⟩);  clear oF1 hb1 hN21 hka1 q1 hPa1; replace hB := hB.next hbz; replace hT := hT.next hbz; replace hR := hR.next hbz; replace hk := hk.trans (hbz.mono hk.size); clear hbz; skip)
  | (with_reducible refine wpList_loadb (by kernel_rfl) 43 _ rfl P1 rfl CF1 hP1 _ Tryz.underlying43 (by kernel_rfl) (size40C zG1) ?_)
  | ((with_reducible refine wpList_store_blk rfl _ _ _ rfl R rfl D rfl zW hR hzg hDz hD1 ?_); intro V9 hR9 q9))
 have hRw : w.heap.size ≤ R := by have := hNB.out; have := hNT.out; have := hNR.out; have := hk0.size; omega
 have hRV : V0.heap.size ≤ R := by have := hNB.out; have := hNT.out; have := hNR.out; omega
 refine bodyPost_ret (v := .tuple #[.agg D, .bool false]) (res_w2 Tryz.results15 rfl rfl hR9 hDs) rfl ⟨ao, n, cap, by rw [hDH.out], obs_next h.rw.obs (q9.below _ _ hRw (hk0.trans (hk.mono hk0.size))), q9.below _ _ hRV hk⟩
theorem rstore_c {w V0 : World} {t ke ro : Int} {ao : Option Addr} {n cap : Nat} {X : List Ob} {C : Array Value} {x : Ob} {a v : Int} (h : Rm w ao n cap X C x) (hk0 : Below w.heap.size w V0) (ha : 0 ≤ a ∧ a ≤ 18446744073709551615) (hs : Srt X) (hn : n < 1024) (hE : wkE X x a = 0) (hT : (mpM X x a).wr = true) (hQ : leqB x.label (wkO X x a).label = false) : Calls Tryz.prog 15 #[.agg #[.int .i64 t, .int .u64 ke, .int .u64 ro, .slice ao n cap], .agg C, .int .u64 a, .int .u64 v] V0 fun e w' => ∃ ao2 n2 cap2, e = .returned (.tuple #[.agg #[.int .i64 t, .int .u64 ke, .int .u64 ro, .slice ao2 n2 cap2], .bool false]) ∧ Obs w' ao2 n2 cap2 X ∧ Below V0.heap.size V0 w' := by
 have hz := h.thr.size
 have hzg : (Tryz.prog.info? 25).map (·.size) = some (#[.int .i64 t, .int .u64 ke, .int .u64 ro, .slice ao n cap] : Array Value).size := by kernel_rfl
 have hfd := fun (W : World) (hk : Below w.heap.size w W) => rwalk_v (t := t) (ke := ke) (ro := ro) h hk ha
 unfold RwO at hfd
 simp only [hE, if_pos] at hfd
 have hA := wk_word h.rw.snd ha.1 hE
 have hwz := wk_zero hE
 have hres : resO 0 (wkO X x a) = wkO X x a := rfl
 rw [hres] at hfd
 clear hres
 have ga0 := Tryz.isAgg27
 obtain ⟨at2, nt2, ct2, et2, lt2⟩ := h.thr.label
 have ft2 := h.lab.1
 have fy2 : Fit (wkO X x a).label := (h.rw.lab _ hwz.2.2.1).1
 rw [hT] at hfd
 have HQ : Hid (leqB x.label (wkO X x a).label = false) := hQ
 clear hT hwz hE hQ
 generalize hyy : wkO X x a = y at hfd HQ fy2 ⊢
 clear hyy
 generalize mpA X x a = A at hfd ⊢
 obtain ⟨D, hD⟩ : ∃ D : Array Value, D = #[.int .i64 t, .int .u64 ke, .int .u64 ro, .slice ao n cap] := ⟨_, rfl⟩
 have hDH : Hid (D = #[.int .i64 t, .int .u64 ke, .int .u64 ro, .slice ao n cap]) := hD
 simp only [← hD] at hfd hzg
 have hDs : D.size = 4 := by rw [hD]; rfl
 have hD1 : D.all (·.oneCell') = true := by rw [hD]; kernel_rfl
 have hDz : zW.size = D.size := by rw [hDs]; rfl
 rw [← hD]
 clear hD
 go_enter Tryz.func15, Tryz.ntmps15
 go_wp2_with (first
  | go_skip
  | (with_reducible refine wpList_box rfl 25 _ rfl D rfl ?_; intro B V1 hNB hB hk)
  | (with_reducible refine wpList_box rfl 43 _ rfl C rfl ?_; intro T V2 hNT hT hk2; replace hB := hB.next hk2; replace hk := hk.trans (hk2.mono hk.size); clear hk2)
  | ((with_reducible refine wpList_alloc rfl 25 rfl zW zero43 ?_); intro R V3 hNR hR hk3; replace hB := hB.next hk3; replace hT := hT.next hk3; replace hk := hk.trans (hk3.mono hk.size); clear hk3)
  | (with_reducible refine wpList_loadb (by kernel_rfl) 25 _ rfl B rfl D hB _ Tryz.underlying25 (by kernel_rfl) hzg ?_)
  | (with_reducible refine wpList_loadb (by kernel_rfl) 43 _ rfl T rfl C hT _ Tryz.underlying43 (by kernel_rfl) (size40C hz) ?_)
  | (go_at_call 11; (with_reducible refine (hfd _ (hk0.trans (hk.mono hk0.size))).mono ?_); rintro e w3 ⟨CF1, rfl, oF1, hb1⟩; clear hfd)
  | ((with_reducible refine wpList_alloc rfl 43 rfl zC zero40 ?_); intro P1 U1 hN21 hPa1 hka1)
  | ((with_reducible refine wpList_store_blk rfl _ _ _ rfl P1 rfl CF1 rfl zC hPa1 (size40C oF1.size) (zC_size.trans oF1.size.symm) oF1.one ?_); intro X1 hP1 q1; obtain ⟨hbz, oG1⟩ := laidO (hk0.trans (hk.mono hk0.size)) hb1 oF1 hN21 hka1 q1; have zG1 := oG1.size; have nP1 : Hid (w.heap.size ≤ P1 ∧ V0.heap.size ≤ P1) := (by have h1 := hN21.out.1; have h2 := hb1.size; have h4 := hk.size; have h5 := hk0.size; exact ⟨by omega, by omega⟩);  clear oF1 hb1 hN21 hka1 q1 hPa1; replace hB := hB.next hbz; replace hT := hT.next hbz; replace hR := hR.next hbz; replace hk := hk.trans (hbz.mono hk.size); clear hbz; obtain ⟨ay2, ny2, cy2, ey2, ly2⟩ := oG1.lt.label; skip)
  | (with_reducible refine wpList_loadb (by kernel_rfl) 43 _ rfl P1 rfl CF1 hP1 _ Tryz.underlying43 (by kernel_rfl) (size40C zG1) ?_)
  | (with_reducible refine wpList_load1 (by kernel_rfl) _ _ rfl T _ rfl _ _ hT _ et2 ga0 ?_)
  | (with_reducible refine wpList_load1 (by kernel_rfl) _ _ rfl P1 _ rfl _ _ hP1 _ ey2 ga0 ?_)
  | (go_at_call 20; (with_reducible refine (rleq_f (LabD.lab' lt2 (hk0.trans (hk.mono hk0.size))) (LabD.lab' ly2 (Below.refl _ _)) ft2 fy2).mono ?_); rintro e w6 ⟨rfl, hb6⟩; rw [HQ.out]; replace hB := hB.next hb6; replace hT := hT.next hb6; replace hR := hR.next hb6; replace hP1 := hP1.next hb6; replace oG1 := oG1.next hb6; replace hk := hk.trans (hb6.mono hk.size); clear hb6)
  | ((with_reducible refine wpList_store_blk rfl _ _ _ rfl R rfl D rfl zW hR hzg hDz hD1 ?_); intro V9 hR9 q9))
 have hRw : w.heap.size ≤ R := by have := hNB.out; have := hNT.out; have := hNR.out; have := hk0.size; omega
 have hRV : V0.heap.size ≤ R := by have := hNB.out; have := hNT.out; have := hNR.out; omega
 refine bodyPost_ret (v := .tuple #[.agg D, .bool false]) (res_w2 Tryz.results15 rfl rfl hR9 hDs) rfl ⟨ao, n, cap, by rw [hDH.out], obs_next h.rw.obs (q9.below _ _ hRw (hk0.trans (hk.mono hk0.size))), q9.below _ _ hRV hk⟩
theorem rstore_d {w V0 : World} {t ke ro : Int} {ao : Option Addr} {n cap : Nat} {X : List Ob} {C : Array Value} {x : Ob} {a v : Int} (h : Rm w ao n cap X C x) (hk0 : Below w.heap.size w V0) (ha : 0 ≤ a ∧ a ≤ 18446744073709551615) (hs : Srt X) (hn : n < 1024) (hE : wkE X x a = 0) (hT : (mpM X x a).wr = true) (hQ : leqB x.label (wkO X x a).label = true) : Calls Tryz.prog 15 #[.agg #[.int .i64 t, .int .u64 ke, .int .u64 ro, .slice ao n cap], .agg C, .int .u64 a, .int .u64 v] V0 fun e w' => ∃ ao2 n2 cap2, e = .returned (.tuple #[.agg #[.int .i64 t, .int .u64 ke, .int .u64 ro, .slice ao2 n2 cap2], .bool true]) ∧ Obs w' ao2 n2 cap2 (puR X (putO (wkO X x a) (mpA X x a) v)) ∧ Below V0.heap.size V0 w' := by
 have hz := h.thr.size
 have hzg : (Tryz.prog.info? 25).map (·.size) = some (#[.int .i64 t, .int .u64 ke, .int .u64 ro, .slice ao n cap] : Array Value).size := by kernel_rfl
 have hfd := fun (W : World) (hk : Below w.heap.size w W) => rwalk_v (t := t) (ke := ke) (ro := ro) h hk ha
 unfold RwO at hfd
 simp only [hE, if_pos] at hfd
 have hA := wk_word h.rw.snd ha.1 hE
 have hwz := wk_zero hE
 have hres : resO 0 (wkO X x a) = wkO X x a := rfl
 rw [hres] at hfd
 clear hres
 have ga0 := Tryz.isAgg27
 obtain ⟨at2, nt2, ct2, et2, lt2⟩ := h.thr.label
 have ft2 := h.lab.1
 have fy2 : Fit (wkO X x a).label := (h.rw.lab _ hwz.2.2.1).1
 rw [hT] at hfd
 have HQ : Hid (leqB x.label (wkO X x a).label = true) := hQ
 have hsy : Small (wkO X x a) := fO_small h.rw.sml _
 have hpu := fun (W : World) (Cy : Array Value) (hw : w.heap.size ≤ W.heap.size) (ho : ObF 0 w.heap.size W Cy (wkO X x a)) => rput_n (D0 := LtN w) (fun b hb => Nat.lt_of_lt_of_le hb hw) ho.old ho.lt hsy hA (v := v)
 obtain ⟨z, hzz⟩ : ∃ z, Hid (wpl (wkO X x a) (mpA X x a : Nat) = z) := ⟨_, rfl⟩
 simp only [hzz.out] at hpu
 clear hT hwz hE hQ
 generalize hyy : wkO X x a = y at hfd HQ fy2 hpu hzz ⊢
 clear hyy
 generalize mpA X x a = A at hfd hpu hzz hA ⊢
 generalize putO y A v = y2 at hpu ⊢
 have hpp := fun (V W U : World) (Cy : Array Value) (hkW : Below w.heap.size w U) (hV : V.heap.size ≤ W.heap.size) (hWU : W.heap.size ≤ U.heap.size) (ho : ObD (fun b => LtN w b ∨ New V W b) U Cy y2) => rput_d (t := t) (ke := ke) (ro := ro) (D0 := fun b => LtN w b ∨ New V W b) (fun b hb => hb.elim (fun q => Nat.lt_of_lt_of_le q hkW.size) (fun q => Nat.lt_of_lt_of_le q.2 hWU)) ((ObsD.laterK h.rw.obs (fun b hb => hkW.block b hb) (fun b hb => hkW.block b hb)).wide (fun _ hb => .inl hb) (fun _ hb => Nat.lt_of_lt_of_le hb hkW.size)) hs hn ho
 have hz2 : ∀ v, (Tryz.prog.info? 25).map (·.size) = some (#[.int .i64 t, .int .u64 ke, .int .u64 ro, v] : Array Value).size := fun _ => by kernel_rfl
 have hs2 : ∀ v, zW.size = (#[.int .i64 t, .int .u64 ke, .int .u64 ro, v] : Array Value).size := fun _ => rfl
 have h12 : ∀ ao n cap, (#[.int .i64 t, .int .u64 ke, .int .u64 ro, .slice ao n cap] : Array Value).all (·.oneCell') = true := fun _ _ _ => by kernel_rfl
 obtain ⟨D, hD⟩ : ∃ D : Array Value, D = #[.int .i64 t, .int .u64 ke, .int .u64 ro, .slice ao n cap] := ⟨_, rfl⟩
 have hDH : Hid (D = #[.int .i64 t, .int .u64 ke, .int .u64 ro, .slice ao n cap]) := hD
 simp only [← hD] at hfd hzg hpp
 have hDs : D.size = 4 := by rw [hD]; rfl
 have hD1 : D.all (·.oneCell') = true := by rw [hD]; kernel_rfl
 have hDz : zW.size = D.size := by rw [hDs]; rfl
 rw [← hD]
 clear hD
 go_enter Tryz.func15, Tryz.ntmps15
 go_wp2_with (first
  | go_skip
  | (with_reducible refine wpList_box rfl 25 _ rfl D rfl ?_; intro B V1 hNB hB hk)
  | (with_reducible refine wpList_box rfl 43 _ rfl C rfl ?_; intro T V2 hNT hT hk2; replace hB := hB.next hk2; replace hk := hk.trans (hk2.mono hk.size); clear hk2)
  | ((with_reducible refine wpList_alloc rfl 25 rfl zW zero43 ?_); intro R V3 hNR hR hk3; replace hB := hB.next hk3; replace hT := hT.next hk3; replace hk := hk.trans (hk3.mono hk.size); clear hk3)
  | (with_reducible refine wpList_loadb (by kernel_rfl) 25 _ rfl B rfl D hB _ Tryz.underlying25 (by kernel_rfl) hzg ?_)
  | (with_reducible refine wpList_loadb (by kernel_rfl) 43 _ rfl T rfl C hT _ Tryz.underlying43 (by kernel_rfl) (size40C hz) ?_)
  | (go_at_call 11; (with_reducible refine (hfd _ (hk0.trans (hk.mono hk0.size))).mono ?_); rintro e w3 ⟨CF1, rfl, oF1, hb1⟩; clear hfd)
  | ((with_reducible refine wpList_alloc rfl 43 rfl zC zero40 ?_); intro P1 U1 hN21 hPa1 hka1)
  | ((with_reducible refine wpList_store_blk rfl _ _ _ rfl P1 rfl CF1 rfl zC hPa1 (size40C oF1.size) (zC_size.trans oF1.size.symm) oF1.one ?_); intro X1 hP1 q1; obtain ⟨hbz, oG1⟩ := laidO (hk0.trans (hk.mono hk0.size)) hb1 oF1 hN21 hka1 q1; have zG1 := oG1.size; have nP1 : Hid (w.heap.size ≤ P1 ∧ V0.heap.size ≤ P1) := (by have h1 := hN21.out.1; have h2 := hb1.size; have h4 := hk.size; have h5 := hk0.size; exact ⟨by omega, by omega⟩); have nRP : Hid (R < P1 ∧ B < P1 ∧ T < P1) := (by have h1 := hN21.out.1; have h2 := hb1.size; have h3 := hR.lt; have h4 := hB.lt; have h5 := hT.lt; exact ⟨by omega, by omega, by omega⟩); clear oF1 hb1 hN21 hka1 q1 hPa1; replace hB := hB.next hbz; replace hT := hT.next hbz; replace hR := hR.next hbz; replace hk := hk.trans (hbz.mono hk.size); clear hbz; obtain ⟨ay2, ny2, cy2, ey2, ly2⟩ := oG1.lt.label; have hPR : Hid (R ≠ P1) := (by have h1 := nRP.out.1; show R ≠ P1; omega); skip)
  | (with_reducible refine wpList_loadb (by kernel_rfl) 43 _ rfl P1 rfl CF1 hP1 _ Tryz.underlying43 (by kernel_rfl) (size40C zG1) ?_)
  | (with_reducible refine wpList_load1 (by kernel_rfl) _ _ rfl T _ rfl _ _ hT _ et2 ga0 ?_)
  | (with_reducible refine wpList_load1 (by kernel_rfl) _ _ rfl P1 _ rfl _ _ hP1 _ ey2 ga0 ?_)
  | (go_at_call 20; (with_reducible refine (rleq_f (LabD.lab' lt2 (hk0.trans (hk.mono hk0.size))) (LabD.lab' ly2 (Below.refl _ _)) ft2 fy2).mono ?_); rintro e w6 ⟨rfl, hb6⟩; rw [HQ.out]; replace hB := hB.next hb6; replace hT := hT.next hb6; replace hR := hR.next hb6; replace hP1 := hP1.next hb6; replace oG1 := oG1.next hb6; replace hk := hk.trans (hb6.mono hk.size); clear hb6)
  | (go_at_call 31; (with_reducible refine (hpu _ CF1 (Nat.le_trans hk0.size hk.size) oG1).mono ?_); rintro e w7 ⟨C2, rfl, o2, hb7⟩; have n7 : Hid (P1 < _) := hP1.lt; have m7 : Hid (_ ≤ w7.heap.size) := hb7.size; have r7 : Hid (R < _) := hR.lt; replace hB := hB.next hb7; replace hT := hT.next hb7; replace hR := hR.next hb7; replace hP1 := hP1.next hb7; replace oG1 := oG1.next hb7; replace hk := hk.trans (hb7.mono hk.size); clear hb7 oG1)
  | ((with_reducible refine wpList_store_blk rfl _ _ _ rfl P1 rfl C2 rfl CF1 hP1 (size40C o2.size) (zG1.trans o2.size.symm) o2.one ?_); intro X8 hP8 q8; have z2 := o2.size; have p2 := o2.laterK (w' := X8) (fun b hb => q8.block b (by have h1 := n7.out; have h2 := nP1.out.1; rcases hb with hb | hb; (have h3 : b < w.heap.size := hb; omega); (have h3 := hb.1; omega))); replace hR := hR.other q8 hPR.out; have nBP := nRP.out.2.1; replace hB := hB.other q8 (Nat.ne_of_lt nBP); have m8 := q8.size; replace hk := q8.below _ _ nP1.out.2 hk; clear o2 q8 hP1)
  | (with_reducible refine wpList_loadb (by kernel_rfl) 43 _ rfl P1 rfl C2 hP8 _ Tryz.underlying43 (by kernel_rfl) (size40C z2) ?_)
  | (go_at_call 32; (with_reducible refine (hpp _ w7 _ C2 (hk0.trans (hk.mono hk0.size)) m7.out (Nat.le_of_eq m8.symm) p2).mono ?_); rintro e w9 ⟨ao2, n2, cap2, rfl, p9, hb9⟩; have h9s : Hid (_ ≤ w9.heap.size) := hb9.size; have r9 : Hid (R < _) := hR.lt; replace hR := hR.next hb9; replace hk := hk.trans (hb9.mono hk.size); clear hb9)
  | ((with_reducible refine wpList_store_blk rfl _ _ _ rfl R rfl #[.int .i64 t, .int .u64 ke, .int .u64 ro, .slice ao2 n2 cap2] rfl zW hR (hz2 _) (hs2 _) (h12 _ _ _) ?_); intro V9 hR9 q9))
 have hRw : w.heap.size ≤ R := by have := hNB.out; have := hNT.out; have := hNR.out; have := hk0.size; omega
 have hRV : V0.heap.size ≤ R := by have := hNB.out; have := hNT.out; have := hNR.out; omega
 exact bodyPost_ret (v := .tuple #[.agg #[.int .i64 t, .int .u64 ke, .int .u64 ro, .slice ao2 n2 cap2], .bool true]) (res_w2 Tryz.results15 rfl rfl hR9 rfl) rfl ⟨ao2, n2, cap2, rfl, obs_lay p9 (fun b hb => by
  have h1 := r7.out
  have h2 := h9s.out
  have h3 := m8
  rcases hb with hb | hb
  ·have h6 : b < w.heap.size := hb
   have h7 := hk.size
   have h8 := hk0.size
   exact ⟨by omega, by omega⟩
  ·have h6 := hb.1
   have h7 := hb.2
   exact ⟨by omega, by omega⟩) r9.out q9, q9.below _ _ hRV hk⟩
theorem rstore_v {w V0 : World} {t ke ro : Int} {ao : Option Addr} {n cap : Nat} {X : List Ob} {C : Array Value} {x : Ob} {a v : Int} (h : Rm w ao n cap X C x) (hk0 : Below w.heap.size w V0) (ha : 0 ≤ a ∧ a ≤ 18446744073709551615) (hs : Srt X) (hn : n < 1024) : Calls Tryz.prog 15 #[.agg #[.int .i64 t, .int .u64 ke, .int .u64 ro, .slice ao n cap], .agg C, .int .u64 a, .int .u64 v] V0 fun e w' => ∃ ao2 n2 cap2, e = .returned (.tuple #[.agg #[.int .i64 t, .int .u64 ke, .int .u64 ro, .slice ao2 n2 cap2], .bool (stB X x a)]) ∧ Obs w' ao2 n2 cap2 (stX X x a v) ∧ Below V0.heap.size V0 w' := by
 unfold stX stB
 by_cases hE : wkE X x a = 0
 ·rw [decide_eq_true hE, Bool.true_and]
  cases hT : (mpM X x a).wr with
  | false => rw [Bool.false_and, if_neg (by decide)]; exact rstore_b h hk0 ha hs hn hE hT
  | true =>
   rw [Bool.true_and]
   cases hQ : leqB x.label (wkO X x a).label with
   | true => rw [if_pos rfl]; exact rstore_d h hk0 ha hs hn hE hT hQ
   | false => rw [if_neg (by decide)]; exact rstore_c h hk0 ha hs hn hE hT hQ
 ·rw [decide_eq_false hE, Bool.false_and, if_neg (by decide)]
  exact rstore_a h hk0 ha hs hn hE
end Go.Proofs.YtiiaohejldchdaaGreat
