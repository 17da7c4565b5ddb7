/-
 PROVED HERE: what mem's find returns when it is called (a contract over this translation); what mem's Walk, Load and Store . What is asked stands at each.
-/
import Derived.Test.YtiiaohejldchdaaGreatZ22
import Derived.Test.YtiiaohejldchdaaGreatZ41
namespace Go.Proofs.YtiiaohejldchdaaGreat
set_option maxRecDepth 100000
set_option maxHeartbeats 8000000
open Go.RowKit Go.Shelf
set_option linter.unusedVariables false
attribute [local go_sem] Oper.semAt_some

theorem built_ref (c i : Int) : Tryz.prog.built 32 [(0, .int .u64 c), (1, .int .u64 i)] = some #[.int .u64 c, .int .u64 i] := by kernel_rfl
theorem mp_at (m : PgM.Pg.Mp) : (PgM.mpV m)[2]? = some (.int .u64 m.cont) ∧ (PgM.mpV m)[3]? = some (.int .u64 m.seg) ∧ (PgM.mpV m)[5]? = some (.bool m.wr) ∧ (PgM.mpV m).size = 6 := ⟨rfl, rfl, rfl, rfl⟩
def PlO (k : Int) (y : Ob) (p : Nat) (b : Bool) (W : World) (e : Ending) (w' : World) : Prop := ∃ F C, e = .returned (.tuple #[.agg F, .int .i64 k]) ∧ PlD F C (if k = 0 then p else 0) (if k = 0 then b else false) ∧ ObD (New W w') w' C (resO k y) ∧ Below W.heap.size W w'
theorem plo_err {k : Int} {y : Ob} {p : Nat} {b : Bool} {W w' : World} (hk : k ≠ 0) (hb : Below W.heap.size W w') : PlO k y p b W (.returned (.tuple #[.agg zPl, .int .i64 k])) w' := by
 refine ⟨zPl, zC, rfl, ?_, ?_, hb⟩
 ·rw [if_neg hk, if_neg hk]; exact zPl_d
 ·rw [res_err hk]; exact zC_d _ _
theorem find_a {w : World} {t ke ro : Int} {ao : Option Addr} {n cap : Nat} {X : List Ob} {C : Array Value} {x : Ob} {a : Int} (h : Mw w ao n cap X C x) (ha : 0 ≤ a ∧ a ≤ 18446744073709551615) (hE : mpE X x a ≠ 0) : Calls Tryz.prog 22 #[.agg #[.int .i64 t, .int .u64 ke, .int .u64 ro, .slice ao n cap], .agg C, .int .u64 a] w (PlO (wkE X x a) (wkO X x a) (mpA X x a) (mpM X x a).wr w) := by
 have hw : wkE X x a = mpE X x a := by unfold wkE; rw [if_neg hE]
 rw [hw]
 clear hw
 have hz := h.thr.size
 have hzg : (Tryz.prog.info? 25).map (·.size) = some (#[.int .i64 t, .int .u64 ke, .int .u64 ro, .slice ao n cap] : Array Value).size := by kernel_rfl
 have hma := fun (W : World) (hk : Below w.heap.size w W) => mapped_v (t := t) (ke := ke) (ro := ro) (h.next hk) ha
 simp only [if_neg hE] at hma
 have HE : Hid (mpE X x a ≠ 0) := hE
 clear hE
 generalize mpE X x a = ek at hma HE ⊢
 have hb0 : (ek != 0) = true := by simpa using HE.out
 obtain ⟨M, hMM⟩ : ∃ M, zM = M := ⟨_, rfl⟩
 have hMz : zM.size = M.size := by rw [← hMM]
 have hM : M.size = 6 := by rw [← hMM]; rfl
 have oneM : M.all (·.oneCell') = true := by rw [← hMM]; kernel_rfl
 simp only [hMM] at hma
 obtain ⟨D, hD⟩ : ∃ D : Array Value, D = #[.int .i64 t, .int .u64 ke, .int .u64 ro, .slice ao n cap] := ⟨_, rfl⟩
 rw [← hD] at hma hzg
 rw [← hD]
 clear hD
 go_enter Tryz.func22, Tryz.ntmps22
 go_wp2_with (first
  | go_skip
  | (with_reducible refine wpList_box rfl 25 _ rfl D rfl ?_; intro B V1 hNB hB hk)
  | (with_reducible refine wpList_box rfl 43 _ rfl C rfl ?_; intro T V2 hNT hT hk2; replace hB := hB.next hk2; replace hk := hk.trans (hk2.mono hk.size); clear hk2)
  | ((with_reducible refine wpList_alloc rfl 63 rfl zPl zeroPl ?_); intro R V3 hNR hR hk3; replace hB := hB.next hk3; replace hT := hT.next hk3; replace hk := hk.trans (hk3.mono hk.size); clear hk3)
  | (with_reducible refine wpList_loadb (by kernel_rfl) 25 _ rfl B rfl D hB _ Tryz.underlying25 (by kernel_rfl) hzg ?_)
  | (with_reducible refine wpList_loadb (by kernel_rfl) 43 _ rfl T rfl C hT _ Tryz.underlying43 (by kernel_rfl) (size40C hz) ?_)
  | (go_at_call 53; (with_reducible refine (hma _ hk).mono ?_); rintro e w9 ⟨rfl, hb9⟩; replace hB := hB.next hb9; replace hT := hT.next hb9; replace hR := hR.next hb9; replace hk := hk.trans (hb9.mono hk.size); clear hb9)
  | ((with_reducible refine wpList_alloc rfl 71 rfl zM zeroM ?_); intro Q VQ hNQ hQa hkq; have nBQ : Hid (B ≠ Q) := (by have := hNQ.out.1; have := hB.lt; show B ≠ Q; omega); have nTQ : Hid (T ≠ Q) := (by have := hNQ.out.1; have := hT.lt; show T ≠ Q; omega); have nQ : Hid (R < Q ∧ w.heap.size ≤ Q) := (by have := hNQ.out.1; have := hR.lt; have := hk.size; exact ⟨by omega, by omega⟩); replace hB := hB.next hkq; replace hT := hT.next hkq; replace hR := hR.next hkq; replace hk := hk.trans (hkq.mono hk.size); clear hkq)
  | ((with_reducible refine wpList_store_blk rfl _ _ _ rfl Q rfl M rfl zM hQa (infoMp hM) hMz oneM ?_); intro VS hQ qS; replace hR := hR.other qS (Nat.ne_of_lt nQ.out.1); replace hB := hB.other qS nBQ.out; replace hT := hT.other qS nTQ.out; replace hk := qS.below _ _ nQ.out.2 hk; clear qS hQa)
  | ((with_reducible refine wpList_build rfl 63 [] rfl zPl ?hf ?_); (case hf => exact built_zPl))
  | ((with_reducible refine wpList_store_blk rfl _ _ _ rfl R rfl zPl rfl zPl hR (infoPl zPl_size) rfl zPl_d.one ?_); intro V9 hR9 q9))
 exact bodyPost_ret (v := .tuple #[.agg zPl, .int .i64 ek]) (resC2 Tryz.results22 hR9 Tryz.underlying63 rfl (infoPl zPl_size) rfl rfl) rfl (plo_err HE.out (q9.below _ _ (by have := hNB.out; have := hNT.out; have := hNR.out; omega) hk))
theorem find_b {w : World} {t ke ro : Int} {ao : Option Addr} {n cap : Nat} {X : List Ob} {C : Array Value} {x : Ob} {a : Int} (h : Mw w ao n cap X C x) (ha : 0 ≤ a ∧ a ≤ 18446744073709551615) (hE : mpE X x a = 0) (hS : sgE X x a ≠ 0) : Calls Tryz.prog 22 #[.agg #[.int .i64 t, .int .u64 ke, .int .u64 ro, .slice ao n cap], .agg C, .int .u64 a] w (PlO (wkE X x a) (wkO X x a) (mpA X x a) (mpM X x a).wr w) := by
 have hw : wkE X x a = sgE X x a := by unfold wkE; rw [if_pos hE, if_neg hS]
 rw [hw]
 clear hw
 have hz := h.thr.size
 have hzg : (Tryz.prog.info? 25).map (·.size) = some (#[.int .i64 t, .int .u64 ke, .int .u64 ro, .slice ao n cap] : Array Value).size := by kernel_rfl
 have hma := fun (W : World) (hk : Below w.heap.size w W) => mapped_v (t := t) (ke := ke) (ro := ro) (h.next hk) ha
 have hE0 := (mp_zero hE).1
 have hA := (mp_place h.snd hE0 (mp_zero hE).2 ha.1).2.2.2.2.2
 simp only [hE, if_pos] at hma
 obtain ⟨m0, m1, m2, hM⟩ := mp_at (mpM X x a)
 have hMz : zM.size = (PgM.mpV (mpM X x a)).size := by rfl
 have oneM := mpV_one (mpM X x a)
 have hse := fun (W : World) (hk : Below w.heap.size w W) => see_face (t := t) (ke := ke) (ro := ro) (kd := 1) (G := #[.int .u64 (mpM X x a).cont, .int .u64 (mpM X x a).seg]) (h.next hk).obs h.srt h.len h.sml (h.next hk).thr h.lab rfl rfl rfl
 change ∀ (W : World) (_ : Below w.heap.size w W), Calls Tryz.prog _ _ W (fun e w' => ∃ C', e = .returned (.tuple #[.agg C', .int .i64 (sgE X x a)]) ∧ ObD (New W w') w' C' (resO (sgE X x a) (wkO X x a)) ∧ Below W.heap.size W w') at hse
 have hbr := built_ref (mpM X x a).cont (mpM X x a).seg
 have ga1 := Tryz.isAgg22
 have ga3 := Tryz.isAgg4
 have HE : Hid (sgE X x a ≠ 0) := hS
 clear hS hE hE0 hA
 generalize sgE X x a = ek at hse HE ⊢
 have hb0 : (ek != 0) = true := by simpa using HE.out
 generalize mpA X x a = A at hma ⊢
 generalize (mpM X x a).cont = mc at m0 hse hbr
 generalize (mpM X x a).seg = ms at m1 hse hbr
 generalize (mpM X x a).wr = mw at m2 ⊢
 generalize PgM.mpV (mpM X x a) = M at hma m0 m1 m2 hM hMz oneM
 generalize wkO X x a = y at hse ⊢
 obtain ⟨D, hD⟩ : ∃ D : Array Value, D = #[.int .i64 t, .int .u64 ke, .int .u64 ro, .slice ao n cap] := ⟨_, rfl⟩
 rw [← hD] at hma hse hzg
 rw [← hD]
 clear hD
 go_enter Tryz.func22, Tryz.ntmps22
 go_wp2_with (first
  | go_skip
  | (with_reducible refine wpList_box rfl 25 _ rfl D rfl ?_; intro B V1 hNB hB hk)
  | (with_reducible refine wpList_box rfl 43 _ rfl C rfl ?_; intro T V2 hNT hT hk2; replace hB := hB.next hk2; replace hk := hk.trans (hk2.mono hk.size); clear hk2)
  | ((with_reducible refine wpList_alloc rfl 63 rfl zPl zeroPl ?_); intro R V3 hNR hR hk3; replace hB := hB.next hk3; replace hT := hT.next hk3; replace hk := hk.trans (hk3.mono hk.size); clear hk3)
  | (with_reducible refine wpList_loadb (by kernel_rfl) 25 _ rfl B rfl D hB _ Tryz.underlying25 (by kernel_rfl) hzg ?_)
  | (with_reducible refine wpList_loadb (by kernel_rfl) 43 _ rfl T rfl C hT _ Tryz.underlying43 (by kernel_rfl) (size40C hz) ?_)
  | (go_at_call 53; (with_reducible refine (hma _ hk).mono ?_); rintro e w9 ⟨rfl, hb9⟩; replace hB := hB.next hb9; replace hT := hT.next hb9; replace hR := hR.next hb9; replace hk := hk.trans (hb9.mono hk.size); clear hb9)
  | ((with_reducible refine wpList_alloc rfl 71 rfl zM zeroM ?_); intro Q VQ hNQ hQa hkq; have nBQ : Hid (B ≠ Q) := (by have := hNQ.out.1; have := hB.lt; show B ≠ Q; omega); have nTQ : Hid (T ≠ Q) := (by have := hNQ.out.1; have := hT.lt; show T ≠ Q; omega); have nQ : Hid (R < Q ∧ w.heap.size ≤ Q) := (by have := hNQ.out.1; have := hR.lt; have := hk.size; exact ⟨by omega, by omega⟩); replace hB := hB.next hkq; replace hT := hT.next hkq; replace hR := hR.next hkq; replace hk := hk.trans (hkq.mono hk.size); clear hkq)
  | ((with_reducible refine wpList_store_blk rfl _ _ _ rfl Q rfl M rfl zM hQa (infoMp hM) hMz oneM ?_); intro VS hQ qS; replace hR := hR.other qS (Nat.ne_of_lt nQ.out.1); replace hB := hB.other qS nBQ.out; replace hT := hT.other qS nTQ.out; replace hk := qS.below _ _ nQ.out.2 hk; clear qS hQa)
  | (with_reducible refine wpList_load1 (by kernel_rfl) _ _ rfl Q _ rfl _ _ hQ _ m0 ga1 ?_)
  | (with_reducible refine wpList_load1 (by kernel_rfl) _ _ rfl Q _ rfl _ _ hQ _ m1 ga1 ?_)
  | ((with_reducible refine wpList_build rfl 32 [(0, _), (1, _)] rfl _ ?hf ?_); (case hf => exact hbr))
  | (go_at_call 54; (with_reducible refine (hse _ hk).mono ?_); rintro e w4 ⟨CF1, rfl, oF1, hb1⟩)
  | ((with_reducible refine wpList_alloc rfl 43 rfl zC zero40 ?_); have hx := oF1; intro P1 U1 hN21 hPa1 hka1; clear hx)
  | ((with_reducible refine wpList_store_blk rfl _ _ _ rfl P1 rfl CF1 rfl zC hPa1 (size40C oF1.size) (zC_size.trans oF1.size.symm) oF1.one ?_); intro X1 hP1 q1; obtain ⟨hbz, oG1⟩ := laidF hb1 oF1 hN21 hka1 q1; have zG1 := oG1.size; clear oF1 hb1 hN21 hka1 q1 hPa1; have nw1 : Hid (w.heap.size ≤ _) := hk.size; have nR1 : Hid (R < _) := hR.lt; have nQ1 : Hid (Q < _) := hQ.lt; replace hB := hB.next hbz; replace hT := hT.next hbz; replace hR := hR.next hbz; replace hQ := hQ.next hbz; replace hk := hk.trans (hbz.mono hk.size); clear hbz; skip)
  | (with_reducible refine wpList_loadb (by kernel_rfl) 43 _ rfl P1 rfl CF1 hP1 _ Tryz.underlying43 (by kernel_rfl) (size40C zG1) ?_)
  | ((with_reducible refine wpList_build rfl 63 [] rfl zPl ?hf ?_); (case hf => exact built_zPl))
  | ((with_reducible refine wpList_store_blk rfl _ _ _ rfl R rfl zPl rfl zPl hR (infoPl zPl_size) rfl zPl_d.one ?_); intro V9 hR9 q9))
 exact bodyPost_ret (v := .tuple #[.agg zPl, .int .i64 ek]) (resC2 Tryz.results22 hR9 Tryz.underlying63 rfl (infoPl zPl_size) rfl rfl) rfl (plo_err HE.out (q9.below _ _ (by have := hNB.out; have := hNT.out; have := hNR.out; omega) hk))
theorem find_c {w : World} {t ke ro : Int} {ao : Option Addr} {n cap : Nat} {X : List Ob} {C : Array Value} {x : Ob} {a : Int} (h : Mw w ao n cap X C x) (ha : 0 ≤ a ∧ a ≤ 18446744073709551615) (hE : mpE X x a = 0) (hS : sgE X x a = 0) (hW : wpl (wkO X x a) (mpA X x a : Nat) ≠ 0) : Calls Tryz.prog 22 #[.agg #[.int .i64 t, .int .u64 ke, .int .u64 ro, .slice ao n cap], .agg C, .int .u64 a] w (PlO (wkE X x a) (wkO X x a) (mpA X x a) (mpM X x a).wr w) := by
 have hw : wkE X x a = wpl (wkO X x a) (mpA X x a : Nat) := by unfold wkE; rw [if_pos hE, if_pos hS]
 rw [hw]
 clear hw
 have hz := h.thr.size
 have hzg : (Tryz.prog.info? 25).map (·.size) = some (#[.int .i64 t, .int .u64 ke, .int .u64 ro, .slice ao n cap] : Array Value).size := by kernel_rfl
 have hma := fun (W : World) (hk : Below w.heap.size w W) => mapped_v (t := t) (ke := ke) (ro := ro) (h.next hk) ha
 have hE0 := (mp_zero hE).1
 have hA := (mp_place h.snd hE0 (mp_zero hE).2 ha.1).2.2.2.2.2
 simp only [hE, if_pos] at hma
 obtain ⟨m0, m1, m2, hM⟩ := mp_at (mpM X x a)
 have hMz : zM.size = (PgM.mpV (mpM X x a)).size := by rfl
 have oneM := mpV_one (mpM X x a)
 have hse := fun (W : World) (hk : Below w.heap.size w W) => see_face (t := t) (ke := ke) (ro := ro) (kd := 1) (G := #[.int .u64 (mpM X x a).cont, .int .u64 (mpM X x a).seg]) (h.next hk).obs h.srt h.len h.sml (h.next hk).thr h.lab rfl rfl rfl
 change ∀ (W : World) (_ : Below w.heap.size w W), Calls Tryz.prog _ _ W (fun e w' => ∃ C', e = .returned (.tuple #[.agg C', .int .i64 (sgE X x a)]) ∧ ObD (New W w') w' C' (resO (sgE X x a) (wkO X x a)) ∧ Below W.heap.size W w') at hse
 have hbr := built_ref (mpM X x a).cont (mpM X x a).seg
 have ga1 := Tryz.isAgg22
 have ga3 := Tryz.isAgg4
 rw [hS] at hse
 have hres : resO 0 (wkO X x a) = wkO X x a := rfl
 rw [hres] at hse
 clear hres hS hE hE0
 have hA2 : mpA X x a < 18446744073709551616 := by omega
 generalize mpA X x a = A at hma hW hA2 ⊢
 generalize (mpM X x a).cont = mc at m0 hse hbr
 generalize (mpM X x a).seg = ms at m1 hse hbr
 generalize (mpM X x a).wr = mw at m2 ⊢
 generalize PgM.mpV (mpM X x a) = M at hma m0 m1 m2 hM hMz oneM
 generalize wkO X x a = y at hse hW ⊢
 have hwo := fun (W : World) (F Cy : Array Value) (hF : PlD F Cy A mw) (hy : ObD (LtN W) W Cy y) => word_v hF hy hA2
 obtain ⟨gv, hgv⟩ : ∃ gv, Hid (gtV y A = gv) := ⟨_, rfl⟩
 simp only [hgv.out] at hwo
 have HE : Hid (wpl y (A : Nat) ≠ 0) := hW
 clear hW hA
 generalize wpl y (A : Nat) = ek at hwo HE ⊢
 have hb0 : (ek != 0) = true := by simpa using HE.out
 obtain ⟨D, hD⟩ : ∃ D : Array Value, D = #[.int .i64 t, .int .u64 ke, .int .u64 ro, .slice ao n cap] := ⟨_, rfl⟩
 rw [← hD] at hma hse hzg
 rw [← hD]
 clear hD
 go_enter Tryz.func22, Tryz.ntmps22
 go_wp2_with (first
  | go_skip
  | (with_reducible refine wpList_box rfl 25 _ rfl D rfl ?_; intro B V1 hNB hB hk)
  | (with_reducible refine wpList_box rfl 43 _ rfl C rfl ?_; intro T V2 hNT hT hk2; replace hB := hB.next hk2; replace hk := hk.trans (hk2.mono hk.size); clear hk2)
  | ((with_reducible refine wpList_alloc rfl 63 rfl zPl zeroPl ?_); have hx := hPF; clear hx; intro K VK hNK hKa hkK; have nK : Hid (R < K ∧ w.heap.size ≤ K) := (by have := hNK.out.1; have := hR.lt; have := hk.size; exact ⟨by omega, by omega⟩); have nKG : Hid (_ ≤ K) := (by have := hNK.out.1; have h2 := oG1.top; rw [this] at h2; exact h2); replace hB := hB.next hkK; replace hT := hT.next hkK; replace hR := hR.next hkK; replace hQ := hQ.next hkK; replace hP1 := hP1.next hkK; replace oG1 := oG1.next hkK; replace hk := hk.trans (hkK.mono hk.size); clear hkK)
  | ((with_reducible refine wpList_alloc rfl 63 rfl zPl zeroPl ?_); intro R V3 hNR hR hk3; replace hB := hB.next hk3; replace hT := hT.next hk3; replace hk := hk.trans (hk3.mono hk.size); clear hk3)
  | (with_reducible refine wpList_loadb (by kernel_rfl) 25 _ rfl B rfl D hB _ Tryz.underlying25 (by kernel_rfl) hzg ?_)
  | (with_reducible refine wpList_loadb (by kernel_rfl) 43 _ rfl T rfl C hT _ Tryz.underlying43 (by kernel_rfl) (size40C hz) ?_)
  | (go_at_call 53; (with_reducible refine (hma _ hk).mono ?_); rintro e w9 ⟨rfl, hb9⟩; replace hB := hB.next hb9; replace hT := hT.next hb9; replace hR := hR.next hb9; replace hk := hk.trans (hb9.mono hk.size); clear hb9)
  | ((with_reducible refine wpList_alloc rfl 71 rfl zM zeroM ?_); intro Q VQ hNQ hQa hkq; have nBQ : Hid (B ≠ Q) := (by have := hNQ.out.1; have := hB.lt; show B ≠ Q; omega); have nTQ : Hid (T ≠ Q) := (by have := hNQ.out.1; have := hT.lt; show T ≠ Q; omega); have nQ : Hid (R < Q ∧ w.heap.size ≤ Q) := (by have := hNQ.out.1; have := hR.lt; have := hk.size; exact ⟨by omega, by omega⟩); replace hB := hB.next hkq; replace hT := hT.next hkq; replace hR := hR.next hkq; replace hk := hk.trans (hkq.mono hk.size); clear hkq)
  | ((with_reducible refine wpList_store_blk rfl _ _ _ rfl Q rfl M rfl zM hQa (infoMp hM) hMz oneM ?_); intro VS hQ qS; replace hR := hR.other qS (Nat.ne_of_lt nQ.out.1); replace hB := hB.other qS nBQ.out; replace hT := hT.other qS nTQ.out; replace hk := qS.below _ _ nQ.out.2 hk; clear qS hQa)
  | (with_reducible refine wpList_load1 (by kernel_rfl) _ _ rfl Q _ rfl _ _ hQ _ m0 ga1 ?_)
  | (with_reducible refine wpList_load1 (by kernel_rfl) _ _ rfl Q _ rfl _ _ hQ _ m1 ga1 ?_)
  | ((with_reducible refine wpList_build rfl 32 [(0, _), (1, _)] rfl _ ?hf ?_); (case hf => exact hbr))
  | (go_at_call 54; (with_reducible refine (hse _ hk).mono ?_); rintro e w4 ⟨CF1, rfl, oF1, hb1⟩)
  | ((with_reducible refine wpList_alloc rfl 43 rfl zC zero40 ?_); have hx := oF1; intro P1 U1 hN21 hPa1 hka1; clear hx)
  | ((with_reducible refine wpList_store_blk rfl _ _ _ rfl P1 rfl CF1 rfl zC hPa1 (size40C oF1.size) (zC_size.trans oF1.size.symm) oF1.one ?_); intro X1 hP1 q1; obtain ⟨hbz, oG1⟩ := laidF hb1 oF1 hN21 hka1 q1; have zG1 := oG1.size; clear oF1 hb1 hN21 hka1 q1 hPa1; have nw1 : Hid (w.heap.size ≤ _) := hk.size; have nR1 : Hid (R < _) := hR.lt; have nQ1 : Hid (Q < _) := hQ.lt; replace hB := hB.next hbz; replace hT := hT.next hbz; replace hR := hR.next hbz; replace hQ := hQ.next hbz; replace hk := hk.trans (hbz.mono hk.size); clear hbz; skip)
  | (with_reducible refine wpList_loadb (by kernel_rfl) 43 _ rfl P1 rfl CF1 hP1 _ Tryz.underlying43 (by kernel_rfl) (size40C zG1) ?_)
  | (with_reducible refine wpList_load1 (by kernel_rfl) _ _ rfl Q _ rfl _ _ hQ _ m2 ga3 ?_)
  | ((with_reducible refine wpList_build rfl 63 [(0, _), (1, _), (2, _)] rfl (Classical.choose (built_p zG1 oG1.one A mw)) ?hf ?_); (case hf => exact (Classical.choose_spec (built_p zG1 oG1.one A mw)).1); obtain ⟨F, hFF⟩ : ∃ F, Classical.choose (built_p zG1 oG1.one A mw) = F := ⟨_, rfl⟩; have hPF := (Classical.choose_spec (built_p zG1 oG1.one A mw)).2; rw [hFF] at hPF ⊢; clear hFF; have zF := hPF.size; have zFz : zPl.size = F.size := (by rw [zF]; exact zPl_size))
  | ((with_reducible refine wpList_store_blk rfl _ _ _ rfl K rfl F rfl zPl hKa (infoPl zF) zFz hPF.one ?_); intro VS2 hK qK; replace oG1 := oG1.above qK nKG.out; replace hR := hR.other qK (Nat.ne_of_lt nK.out.1); replace hk := qK.below _ _ nK.out.2 hk; clear hKa qK)
  | (with_reducible refine wpList_loadb (by kernel_rfl) 63 _ rfl K rfl F hK _ Tryz.underlying63 (by kernel_rfl) (infoPl zF) ?_)
  | (go_at_call 26; (with_reducible refine (hwo _ F CF1 hPF oG1.lt).mono ?_); rintro e w5 ⟨rfl, hb7⟩; replace hR := hR.next hb7; replace hK := hK.next hb7; replace oG1 := oG1.next hb7; replace hk := hk.trans (hb7.mono hk.size); clear hb7; skip)
  | ((with_reducible refine wpList_build rfl 63 [] rfl zPl ?hf ?_); (case hf => exact built_zPl))
  | ((with_reducible refine wpList_store_blk rfl _ _ _ rfl R rfl zPl rfl zPl hR (infoPl zPl_size) rfl zPl_d.one ?_); intro V9 hR9 q9))
 exact bodyPost_ret (v := .tuple #[.agg zPl, .int .i64 ek]) (resC2 Tryz.results22 hR9 Tryz.underlying63 rfl (infoPl zPl_size) rfl rfl) rfl (plo_err HE.out (q9.below _ _ (by have := hNB.out; have := hNT.out; have := hNR.out; omega) hk))
theorem find_d {w : World} {t ke ro : Int} {ao : Option Addr} {n cap : Nat} {X : List Ob} {C : Array Value} {x : Ob} {a : Int} (h : Mw w ao n cap X C x) (ha : 0 ≤ a ∧ a ≤ 18446744073709551615) (hE : mpE X x a = 0) (hS : sgE X x a = 0) (hW : wpl (wkO X x a) (mpA X x a : Nat) = 0) : Calls Tryz.prog 22 #[.agg #[.int .i64 t, .int .u64 ke, .int .u64 ro, .slice ao n cap], .agg C, .int .u64 a] w (PlO (wkE X x a) (wkO X x a) (mpA X x a) (mpM X x a).wr w) := by
 have hw : wkE X x a = wpl (wkO X x a) (mpA X x a : Nat) := by unfold wkE; rw [if_pos hE, if_pos hS]
 rw [hw]
 clear hw
 have hz := h.thr.size
 have hzg : (Tryz.prog.info? 25).map (·.size) = some (#[.int .i64 t, .int .u64 ke, .int .u64 ro, .slice ao n cap] : Array Value).size := by kernel_rfl
 have hma := fun (W : World) (hk : Below w.heap.size w W) => mapped_v (t := t) (ke := ke) (ro := ro) (h.next hk) ha
 have hE0 := (mp_zero hE).1
 have hA := (mp_place h.snd hE0 (mp_zero hE).2 ha.1).2.2.2.2.2
 simp only [hE, if_pos] at hma
 obtain ⟨m0, m1, m2, hM⟩ := mp_at (mpM X x a)
 have hMz : zM.size = (PgM.mpV (mpM X x a)).size := by rfl
 have oneM := mpV_one (mpM X x a)
 have hse := fun (W : World) (hk : Below w.heap.size w W) => see_face (t := t) (ke := ke) (ro := ro) (kd := 1) (G := #[.int .u64 (mpM X x a).cont, .int .u64 (mpM X x a).seg]) (h.next hk).obs h.srt h.len h.sml (h.next hk).thr h.lab rfl rfl rfl
 change ∀ (W : World) (_ : Below w.heap.size w W), Calls Tryz.prog _ _ W (fun e w' => ∃ C', e = .returned (.tuple #[.agg C', .int .i64 (sgE X x a)]) ∧ ObD (New W w') w' C' (resO (sgE X x a) (wkO X x a)) ∧ Below W.heap.size W w') at hse
 have hbr := built_ref (mpM X x a).cont (mpM X x a).seg
 have ga1 := Tryz.isAgg22
 have ga3 := Tryz.isAgg4
 rw [hS] at hse
 have hres : resO 0 (wkO X x a) = wkO X x a := rfl
 rw [hres] at hse
 clear hres hS hE hE0
 have hA2 : mpA X x a < 18446744073709551616 := by omega
 generalize mpA X x a = A at hma hW hA2 ⊢
 generalize (mpM X x a).cont = mc at m0 hse hbr
 generalize (mpM X x a).seg = ms at m1 hse hbr
 generalize (mpM X x a).wr = mw at m2 ⊢
 generalize PgM.mpV (mpM X x a) = M at hma m0 m1 m2 hM hMz oneM
 generalize wkO X x a = y at hse hW ⊢
 have hwo := fun (W : World) (F Cy : Array Value) (hF : PlD F Cy A mw) (hy : ObD (LtN W) W Cy y) => word_v hF hy hA2
 obtain ⟨gv, hgv⟩ : ∃ gv, Hid (gtV y A = gv) := ⟨_, rfl⟩
 simp only [hgv.out] at hwo
 rw [hW] at hwo ⊢
 clear hW hA
 obtain ⟨D, hD⟩ : ∃ D : Array Value, D = #[.int .i64 t, .int .u64 ke, .int .u64 ro, .slice ao n cap] := ⟨_, rfl⟩
 rw [← hD] at hma hse hzg
 rw [← hD]
 clear hD
 go_enter Tryz.func22, Tryz.ntmps22
 go_wp2_with (first
  | go_skip
  | (with_reducible refine wpList_box rfl 25 _ rfl D rfl ?_; intro B V1 hNB hB hk)
  | (with_reducible refine wpList_box rfl 43 _ rfl C rfl ?_; intro T V2 hNT hT hk2; replace hB := hB.next hk2; replace hk := hk.trans (hk2.mono hk.size); clear hk2)
  | ((with_reducible refine wpList_alloc rfl 63 rfl zPl zeroPl ?_); have hx := hPF; clear hx; intro K VK hNK hKa hkK; have nK : Hid (R < K ∧ w.heap.size ≤ K) := (by have := hNK.out.1; have := hR.lt; have := hk.size; exact ⟨by omega, by omega⟩); have nKG : Hid (_ ≤ K) := (by have := hNK.out.1; have h2 := oG1.top; rw [this] at h2; exact h2); replace hB := hB.next hkK; replace hT := hT.next hkK; replace hR := hR.next hkK; replace hQ := hQ.next hkK; replace hP1 := hP1.next hkK; replace oG1 := oG1.next hkK; replace hk := hk.trans (hkK.mono hk.size); clear hkK)
  | ((with_reducible refine wpList_alloc rfl 63 rfl zPl zeroPl ?_); intro R V3 hNR hR hk3; replace hB := hB.next hk3; replace hT := hT.next hk3; replace hk := hk.trans (hk3.mono hk.size); clear hk3)
  | (with_reducible refine wpList_loadb (by kernel_rfl) 25 _ rfl B rfl D hB _ Tryz.underlying25 (by kernel_rfl) hzg ?_)
  | (with_reducible refine wpList_loadb (by kernel_rfl) 43 _ rfl T rfl C hT _ Tryz.underlying43 (by kernel_rfl) (size40C hz) ?_)
  | (go_at_call 53; (with_reducible refine (hma _ hk).mono ?_); rintro e w9 ⟨rfl, hb9⟩; replace hB := hB.next hb9; replace hT := hT.next hb9; replace hR := hR.next hb9; replace hk := hk.trans (hb9.mono hk.size); clear hb9)
  | ((with_reducible refine wpList_alloc rfl 71 rfl zM zeroM ?_); intro Q VQ hNQ hQa hkq; have nBQ : Hid (B ≠ Q) := (by have := hNQ.out.1; have := hB.lt; show B ≠ Q; omega); have nTQ : Hid (T ≠ Q) := (by have := hNQ.out.1; have := hT.lt; show T ≠ Q; omega); have nQ : Hid (R < Q ∧ w.heap.size ≤ Q) := (by have := hNQ.out.1; have := hR.lt; have := hk.size; exact ⟨by omega, by omega⟩); replace hB := hB.next hkq; replace hT := hT.next hkq; replace hR := hR.next hkq; replace hk := hk.trans (hkq.mono hk.size); clear hkq)
  | ((with_reducible refine wpList_store_blk rfl _ _ _ rfl Q rfl M rfl zM hQa (infoMp hM) hMz oneM ?_); intro VS hQ qS; replace hR := hR.other qS (Nat.ne_of_lt nQ.out.1); replace hB := hB.other qS nBQ.out; replace hT := hT.other qS nTQ.out; replace hk := qS.below _ _ nQ.out.2 hk; clear qS hQa)
  | (with_reducible refine wpList_load1 (by kernel_rfl) _ _ rfl Q _ rfl _ _ hQ _ m0 ga1 ?_)
  | (with_reducible refine wpList_load1 (by kernel_rfl) _ _ rfl Q _ rfl _ _ hQ _ m1 ga1 ?_)
  | ((with_reducible refine wpList_build rfl 32 [(0, _), (1, _)] rfl _ ?hf ?_); (case hf => exact hbr))
  | (go_at_call 54; (with_reducible refine (hse _ hk).mono ?_); rintro e w4 ⟨CF1, rfl, oF1, hb1⟩)
  | ((with_reducible refine wpList_alloc rfl 43 rfl zC zero40 ?_); have hx := oF1; intro P1 U1 hN21 hPa1 hka1; clear hx)
  | ((with_reducible refine wpList_store_blk rfl _ _ _ rfl P1 rfl CF1 rfl zC hPa1 (size40C oF1.size) (zC_size.trans oF1.size.symm) oF1.one ?_); intro X1 hP1 q1; obtain ⟨hbz, oG1⟩ := laidF hb1 oF1 hN21 hka1 q1; have zG1 := oG1.size; clear oF1 hb1 hN21 hka1 q1 hPa1; have nw1 : Hid (w.heap.size ≤ _) := hk.size; have nR1 : Hid (R < _) := hR.lt; have nQ1 : Hid (Q < _) := hQ.lt; replace hB := hB.next hbz; replace hT := hT.next hbz; replace hR := hR.next hbz; replace hQ := hQ.next hbz; replace hk := hk.trans (hbz.mono hk.size); clear hbz; skip)
  | (with_reducible refine wpList_loadb (by kernel_rfl) 43 _ rfl P1 rfl CF1 hP1 _ Tryz.underlying43 (by kernel_rfl) (size40C zG1) ?_)
  | (with_reducible refine wpList_load1 (by kernel_rfl) _ _ rfl Q _ rfl _ _ hQ _ m2 ga3 ?_)
  | ((with_reducible refine wpList_build rfl 63 [(0, _), (1, _), (2, _)] rfl (Classical.choose (built_p zG1 oG1.one A mw)) ?hf ?_); (case hf => exact (Classical.choose_spec (built_p zG1 oG1.one A mw)).1); obtain ⟨F, hFF⟩ : ∃ F, Classical.choose (built_p zG1 oG1.one A mw) = F := ⟨_, rfl⟩; have hPF := (Classical.choose_spec (built_p zG1 oG1.one A mw)).2; rw [hFF] at hPF ⊢; clear hFF; have zF := hPF.size; have zFz : zPl.size = F.size := (by rw [zF]; exact zPl_size))
  | ((with_reducible refine wpList_store_blk rfl _ _ _ rfl K rfl F rfl zPl hKa (infoPl zF) zFz hPF.one ?_); intro VS2 hK qK; replace oG1 := oG1.above qK nKG.out; replace hR := hR.other qK (Nat.ne_of_lt nK.out.1); replace hk := qK.below _ _ nK.out.2 hk; clear hKa qK)
  | (with_reducible refine wpList_loadb (by kernel_rfl) 63 _ rfl K rfl F hK _ Tryz.underlying63 (by kernel_rfl) (infoPl zF) ?_)
  | (go_at_call 26; (with_reducible refine (hwo _ F CF1 hPF oG1.lt).mono ?_); rintro e w5 ⟨rfl, hb7⟩; replace hR := hR.next hb7; replace hK := hK.next hb7; replace oG1 := oG1.next hb7; replace hk := hk.trans (hb7.mono hk.size); clear hb7; skip)
  | ((with_reducible refine wpList_store_blk rfl _ _ _ rfl R rfl F rfl zPl hR (infoPl zF) zFz hPF.one ?_); intro V9 hR9 q9))
 exact bodyPost_ret (v := .tuple #[.agg F, .int .i64 0]) (resC2 Tryz.results22 hR9 Tryz.underlying63 rfl (infoPl zF) rfl rfl) rfl ⟨F, CF1, rfl, hPF, (oG1.other q9 nR1.out).new nw1.out, q9.below _ _ (by have := hNB.out; have := hNT.out; have := hNR.out; omega) hk⟩
theorem find_v {w : World} {t ke ro : Int} {ao : Option Addr} {n cap : Nat} {X : List Ob} {C : Array Value} {x : Ob} {a : Int} (h : Mw w ao n cap X C x) (ha : 0 ≤ a ∧ a ≤ 18446744073709551615) : Calls Tryz.prog 22 #[.agg #[.int .i64 t, .int .u64 ke, .int .u64 ro, .slice ao n cap], .agg C, .int .u64 a] w (PlO (wkE X x a) (wkO X x a) (mpA X x a) (mpM X x a).wr w) := by
 by_cases hE : mpE X x a = 0
 ·by_cases hS : sgE X x a = 0
  ·by_cases hW : wpl (wkO X x a) (mpA X x a : Nat) = 0
   ·exact find_d h ha hE hS hW
   ·exact find_c h ha hE hS hW
  ·exact find_b h ha hE hS
 ·exact find_a h ha hE
end Go.Proofs.YtiiaohejldchdaaGreat
namespace Go.Proofs.YtiiaohejldchdaaGreat
set_option maxRecDepth 100000
set_option maxHeartbeats 8000000
open Go.RowKit Go.Shelf
set_option linter.unusedVariables false
attribute [local go_sem] Oper.semAt_some

theorem res_w2 {fn : Func} {p u : Tmp} (h : fn.results = #[.cell p 25, .tmp u]) {tmps : Array Value} {w : World} {B : Nat} {C : Array Value} {v : Value} (hp : tmps.getD p undef = .pointer (some ⟨B, 0, none⟩)) (hu : tmps.getD u undef = v) (hB : Blk w B C 25) (hs : C.size = 4) : (results fn tmps).run Tryz.prog w = .ok (.tuple #[.agg C, v]) w :=
 resC2 h hB Tryz.underlying25 rfl (by rw [hs]; kernel_rfl) hp hu
theorem obs_lay {w W V : World} {R : Nat} {D0 : Nat → Prop} {ao : Option Addr} {n cap : Nat} {X : List Ob} (h : ObsD (New w W) D0 W ao n cap X) (hD : ∀ b, D0 b → b < W.heap.size ∧ b ≠ R) (hR : R < w.heap.size) (q : Oth R W V) : Obs V ao n cap X :=
 (h.laterK (fun b hb => q.block b (hD b hb).2) (fun b hb => q.block b (by have := hb.1; omega))).wide (fun b hb => by have := (hD b hb).1; have := q.size; show b < V.heap.size; omega) (fun b hb => by have := hb.2; have := q.size; show b < V.heap.size; omega)
theorem wk_kind {X : List Ob} {x : Ob} {a : Int} (hsd : ∀ y ∈ X, soundB y = true) : (wkO X x a).kind = 1 → wkO X x a = sgO (wkO X x a).id (wkO X x a).label (wkO X x a).quota (wkO X x a).fixed (wkO X x a).data := fun k => by
 by_cases h : (fnd X (mpM X x a).seg).isSome = true
 ·exact sg_of (hsd _ (fO_mem' h).1) k
 ·have q : fnd X (mpM X x a).seg = none := by simpa using h
  have : wkO X x a = zOb := by unfold wkO fO; rw [q]; rfl
  rw [this] at k; exact absurd k (by decide)
theorem fO_small {X : List Ob} (h : Smalls X) (i : Int) : Small (fO X i) := by
 unfold fO
 cases q : fnd X i with
 | none => exact small_z
 | some z => exact h z (fnd_id q).2
def WkO (k : Int) (y : Ob) (p : Nat) (b : Bool) (W : World) (e : Ending) (w' : World) : Prop := ∃ C, e = .returned (.tuple #[.agg C, .int .u64 ((if k = 0 then p else 0 : Nat) : Int), .bool (if k = 0 then b else false), .int .i64 k]) ∧ ObD (New W w') w' C (resO k y) ∧ Below W.heap.size W w'
theorem walk_v {w : World} {t ke ro : Int} {ao : Option Addr} {n cap : Nat} {X : List Ob} {C : Array Value} {x : Ob} {a : Int} (h : Mw w ao n cap X C x) (ha : 0 ≤ a ∧ a ≤ 18446744073709551615) : Calls Tryz.prog 10 #[.agg #[.int .i64 t, .int .u64 ke, .int .u64 ro, .slice ao n cap], .agg C, .int .u64 a] w (WkO (wkE X x a) (wkO X x a) (mpA X x a) (mpM X x a).wr w) := by
 have hmx : Tryz.prog.follows .mixedOrders = true := by kernel_rfl
 have hz := h.thr.size
 have hzg : (Tryz.prog.info? 25).map (·.size) = some (#[.int .i64 t, .int .u64 ke, .int .u64 ro, .slice ao n cap] : Array Value).size := by kernel_rfl
 have hfd := fun (W : World) (hk : Below w.heap.size w W) => find_v (t := t) (ke := ke) (ro := ro) (h.next hk) ha
 unfold PlO at hfd
 unfold WkO
 generalize wkE X x a = ek at hfd ⊢
 generalize resO ek (wkO X x a) = y at hfd ⊢
 generalize (if ek = 0 then (mpM X x a).wr else false) = wb at hfd ⊢
 generalize (if ek = 0 then mpA X x a else 0) = A at hfd ⊢
 have ga1 := Tryz.isAgg22
 have ga3 := Tryz.isAgg4
 obtain ⟨D, hD⟩ : ∃ D : Array Value, D = #[.int .i64 t, .int .u64 ke, .int .u64 ro, .slice ao n cap] := ⟨_, rfl⟩
 rw [← hD] at hfd hzg
 rw [← hD]
 clear hD
 go_enter Tryz.func10, Tryz.ntmps10
 go_wp2_with (first
  | go_skip
  | (with_reducible refine wpList_box rfl 25 _ rfl D rfl ?_; intro B V1 hNB hB hk)
  | (with_reducible refine wpList_box rfl 43 _ rfl C rfl ?_; intro T V2 hNT hT hk2; replace hB := hB.next hk2; replace hk := hk.trans (hk2.mono hk.size); clear hk2)
  | ((with_reducible refine wpList_alloc rfl 43 rfl zC zero40 ?_); intro R V3 hNR hR hk3; replace hB := hB.next hk3; replace hT := hT.next hk3; replace hk := hk.trans (hk3.mono hk.size); clear hk3)
  | (with_reducible refine wpList_loadb (by kernel_rfl) 25 _ rfl B rfl D hB _ Tryz.underlying25 (by kernel_rfl) hzg ?_)
  | (with_reducible refine wpList_loadb (by kernel_rfl) 43 _ rfl T rfl C hT _ Tryz.underlying43 (by kernel_rfl) (size40C hz) ?_)
  | (go_at_call 22; (with_reducible refine (hfd _ hk).mono ?_); rintro e w9 ⟨F, CF1, rfl, pF, oF1, hb1⟩)
  | ((with_reducible refine wpList_alloc rfl 63 rfl zPl zeroPl ?_); have hx := oF1; intro P1 U1 hN21 hPa1 hka1; clear hx)
  | ((with_reducible refine wpList_store_blk rfl _ _ _ rfl P1 rfl F rfl zPl hPa1 (infoPl pF.size) (zPl_size.trans pF.size.symm) pF.one ?_); intro X1 hP1 q1; obtain ⟨hbz, oG1⟩ := laidF hb1 oF1 hN21 hka1 q1; have zF := pF.size; have nwP : Hid (w.heap.size ≤ P1 ∧ _ ≤ P1) := (by have h1 := hN21.out.1; have h2 := hb1.size; have h3 := hk.size; exact ⟨by omega, Nat.le_trans h2 (Nat.le_of_eq h1)⟩); clear oF1 hb1 hN21 hka1 q1 hPa1; have nw1 : Hid (w.heap.size ≤ _) := hk.size; have nR1 : Hid (R < _) := hR.lt; replace hB := hB.next hbz; replace hT := hT.next hbz; replace hR := hR.next hbz; replace hk := hk.trans (hbz.mono hk.size); clear hbz; skip)
  | (with_reducible refine wpList_loadb (by kernel_rfl) 63 _ rfl P1 rfl F hP1 _ Tryz.underlying63 (by kernel_rfl) (infoPl zF) ?_))
 have hFo := pF.obj
 have hFa := pF.at'
 have hFw := pF.wr
 have hRP : R ≠ P1 := by have h1 := nR1.out; have h2 := nwP.out.2; omega
 have hRw : w.heap.size ≤ R := by have := hNB.out; have := hNT.out; have := hNR.out; omega
 have hd := (Below.refl X1.heap.size X1).drew
 refine PgM.region_out (S := fun U => Blk U P1 F 63 ∧ Below w.heap.size w U) hmx ⟨hP1.next hd, hk.trans (hd.mono hk.size)⟩ (fun hS => ?_)
 have hR1 := hR.next hd
 have oG2 := oG1.next hd
 generalize X1.drew = v5 at hS hd hR1 oG2 ⊢
 refine wpAnyH_sym (by kernel_rfl) (fun _ _ _ _ _ h => h) hS [(0, none), (1, some (.agg CF1)), (2, none), (3, some (.int .u64 (A : Int))), (4, none), (5, some (.bool wb)), (6, none)] (l' := #[true, true, true, true, true, true, true, false, false, false, false]) (a' := { tmps := #[.agg D, .agg C, .int .u64 a, .pointer (some ⟨B, 0, none⟩), .pointer (some ⟨T, 0, none⟩), undef, .pointer (some ⟨R, 0, none⟩), .int .u64 0, .bool false, .int .i64 0, .pointer (some ⟨P1, 0, none⟩), .int .i64 ek, .tuple #[.agg F, .int .i64 ek], .agg D, .agg C, .int .u64 a, .tuple #[.agg F, .int .i64 ek], .agg F, .int .i64 ek, .pointer (some ⟨P1, 0, none⟩), .agg CF1, .pointer (some ⟨P1, 51, none⟩), .int .u64 (A : Int), .pointer (some ⟨P1, 52, none⟩), .bool wb, .int .i64 ek], defers := [] }) (obs := [.load 43 P1 0 (.agg CF1), .load 22 P1 51 (.int .u64 (A : Int)), .load 4 P1 52 (.bool wb)]) (n := 4) (by kernel_rfl) (by kernel_rfl) ⟨ob_loadp 51 (fun _ q => q.1) hFo (by rw [zF]; decide) Tryz.underlying43 rfl size40, ob_load1 (fun _ q => q.1) hFa ga1, ob_load1 (fun _ q => q.1) hFw ga3, trivial⟩ ?_
 obtain ⟨V9, hr9, hR9, q9⟩ := run_store_blk hR1 (size40C oG1.size) (zC_size.trans oG1.size.symm) oG1.one
 refine wpAnyH_single (i := 7) (n := 3) rfl (by kernel_rfl) ?_
 refine wpOp_storeL (ty := 43) (B := R) (off := 0) (v := .agg CF1) (d := none) (by kernel_rfl) hr9 ?_
 have hS9 : Blk V9 P1 F 63 ∧ Below w.heap.size w V9 := ⟨hS.1.other q9 hRP.symm, q9.below _ _ hRw hS.2⟩
 refine ⟨hS9, ?_⟩
 refine wpAnyH_sym (by kernel_rfl) (fun _ _ _ _ _ h => h) hS9 [(8, none), (9, none), (10, none)] (l' := #[true, true, true, true, true, true, true, true, true, true, true]) (a' := { tmps := #[.agg D, .agg C, .int .u64 a, .pointer (some ⟨B, 0, none⟩), .pointer (some ⟨T, 0, none⟩), undef, .pointer (some ⟨R, 0, none⟩), .int .u64 (A : Int), .bool wb, .int .i64 ek, .pointer (some ⟨P1, 0, none⟩), .int .i64 ek, .tuple #[.agg F, .int .i64 ek], .agg D, .agg C, .int .u64 a, .tuple #[.agg F, .int .i64 ek], .agg F, .int .i64 ek, .pointer (some ⟨P1, 0, none⟩), .agg CF1, .pointer (some ⟨P1, 51, none⟩), .int .u64 (A : Int), .pointer (some ⟨P1, 52, none⟩), .bool wb, .int .i64 ek], defers := [] }) (obs := []) (n := 0) (by kernel_rfl) (by kernel_rfl) trivial ?_
 refine wpAnyH_done (by kernel_rfl) ?_ _
 go_wp2
 exact bodyPost_ret (v := .tuple #[.agg CF1, .int .u64 (A : Int), .bool wb, .int .i64 ek]) (resC4 Tryz.results10 hR9 Tryz.underlying43 rfl (size40C oG1.size) rfl rfl rfl rfl) rfl ⟨CF1, rfl, (oG2.other q9 nR1.out).new nw1.out, hS9.2⟩
theorem wk_word {X : List Ob} {x : Ob} {a : Int} (hsd : ∀ y ∈ X, soundB y = true) (ha : 0 ≤ a) (h : wkE X x a = 0) : mpA X x a < 18446744073709551616 := by
 obtain ⟨h1, _⟩ := wk_zero h
 obtain ⟨h2, h3⟩ := mp_zero h1
 have := (mp_place hsd h2 h3 ha).2.2.2.2.2
 omega
theorem load_n {w : World} {t ke ro : Int} {ao : Option Addr} {n cap : Nat} {X : List Ob} {C : Array Value} {x : Ob} {a : Int} (h : Mw w ao n cap X C x) (ha : 0 ≤ a ∧ a ≤ 18446744073709551615) (hE : wkE X x a ≠ 0) : Calls Tryz.prog 12 #[.agg #[.int .i64 t, .int .u64 ke, .int .u64 ro, .slice ao n cap], .agg C, .int .u64 a] w fun e w' => e = .returned (.tuple #[.int .u64 0, .bool false]) ∧ Below w.heap.size w w' := by
 have hz := h.thr.size
 have hzg : (Tryz.prog.info? 25).map (·.size) = some (#[.int .i64 t, .int .u64 ke, .int .u64 ro, .slice ao n cap] : Array Value).size := by kernel_rfl
 have hfd := fun (W : World) (hk : Below w.heap.size w W) => find_v (t := t) (ke := ke) (ro := ro) (h.next hk) ha
 unfold PlO at hfd
 have HE : Hid (wkE X x a ≠ 0) := hE
 clear hE
 generalize wkE X x a = ek at hfd HE ⊢
 have hb0 : (ek != 0) = true := by simpa using HE.out
 generalize resO ek (wkO X x a) = y at hfd ⊢
 generalize (if ek = 0 then (mpM X x a).wr else false) = wb at hfd ⊢
 generalize (if ek = 0 then mpA X x a else 0) = A at hfd ⊢
 obtain ⟨D, hD⟩ : ∃ D : Array Value, D = #[.int .i64 t, .int .u64 ke, .int .u64 ro, .slice ao n cap] := ⟨_, rfl⟩
 rw [← hD] at hfd hzg
 rw [← hD]
 clear hD
 go_enter Tryz.func12, Tryz.ntmps12
 go_wp2_with (first
  | go_skip
  | (with_reducible refine wpList_box rfl 25 _ rfl D rfl ?_; intro B V1 hNB hB hk)
  | (with_reducible refine wpList_box rfl 43 _ rfl C rfl ?_; intro T V2 hNT hT hk2; replace hB := hB.next hk2; replace hk := hk.trans (hk2.mono hk.size); clear hk2)
  | (with_reducible refine wpList_loadb (by kernel_rfl) 25 _ rfl B rfl D hB _ Tryz.underlying25 (by kernel_rfl) hzg ?_)
  | (with_reducible refine wpList_loadb (by kernel_rfl) 43 _ rfl T rfl C hT _ Tryz.underlying43 (by kernel_rfl) (size40C hz) ?_)
  | (go_at_call 22; (with_reducible refine (hfd _ hk).mono ?_); rintro e w9 ⟨F, CF1, rfl, pF, oF1, hb1⟩)
  | ((with_reducible refine wpList_alloc rfl 63 rfl zPl zeroPl ?_); have hx := oF1; intro P1 U1 hN21 hPa1 hka1; clear hx)
  | ((with_reducible refine wpList_store_blk rfl _ _ _ rfl P1 rfl F rfl zPl hPa1 (infoPl pF.size) (zPl_size.trans pF.size.symm) pF.one ?_); intro X1 hP1 q1; obtain ⟨hbz, oG1⟩ := laidF hb1 oF1 hN21 hka1 q1; have zF := pF.size; have nwP : Hid (w.heap.size ≤ P1 ∧ _ ≤ P1) := (by have h1 := hN21.out.1; have h2 := hb1.size; have h3 := hk.size; exact ⟨by omega, Nat.le_trans h2 (Nat.le_of_eq h1)⟩); clear oF1 hb1 hN21 hka1 q1 hPa1; have nw1 : Hid (w.heap.size ≤ _) := hk.size; replace hB := hB.next hbz; replace hT := hT.next hbz; replace hk := hk.trans (hbz.mono hk.size); clear hbz; skip)
  | (with_reducible refine wpList_loadb (by kernel_rfl) 63 _ rfl P1 rfl F hP1 _ Tryz.underlying63 (by kernel_rfl) (infoPl zF) ?_))
 exact bodyPost_ret (results_tmp2 Tryz.results12 _ _ _) rfl ⟨rfl, hk⟩
theorem load_y {w : World} {t ke ro : Int} {ao : Option Addr} {n cap : Nat} {X : List Ob} {C : Array Value} {x : Ob} {a : Int} (h : Mw w ao n cap X C x) (ha : 0 ≤ a ∧ a ≤ 18446744073709551615) (hE : wkE X x a = 0) : Calls Tryz.prog 12 #[.agg #[.int .i64 t, .int .u64 ke, .int .u64 ro, .slice ao n cap], .agg C, .int .u64 a] w fun e w' => e = .returned (.tuple #[.int .u64 (gtV (wkO X x a) (mpA X x a)), .bool true]) ∧ Below w.heap.size w w' := by
 have hz := h.thr.size
 have hzg : (Tryz.prog.info? 25).map (·.size) = some (#[.int .i64 t, .int .u64 ke, .int .u64 ro, .slice ao n cap] : Array Value).size := by kernel_rfl
 have hfd := fun (W : World) (hk : Below w.heap.size w W) => find_v (t := t) (ke := ke) (ro := ro) (h.next hk) ha
 unfold PlO at hfd
 simp only [hE, if_pos] at hfd
 have hA := wk_word h.snd ha.1 hE
 have hwl := (wk_zero hE).2.2.2.2.2.2.2
 have hres : resO 0 (wkO X x a) = wkO X x a := rfl
 rw [hres] at hfd
 clear hE hres
 generalize wkO X x a = y at hfd hwl ⊢
 generalize (mpM X x a).wr = wb at hfd ⊢
 generalize mpA X x a = A at hfd hA hwl ⊢
 have hwo := fun (W : World) (F Cy : Array Value) (hF : PlD F Cy A wb) (hy : ObD (LtN W) W Cy y) => word_v hF hy hA
 rw [hwl] at hwo
 obtain ⟨gv, hgv⟩ : ∃ gv, Hid (gtV y A = gv) := ⟨_, rfl⟩
 simp only [hgv.out] at hwo ⊢
 clear hwl hA
 obtain ⟨D, hD⟩ : ∃ D : Array Value, D = #[.int .i64 t, .int .u64 ke, .int .u64 ro, .slice ao n cap] := ⟨_, rfl⟩
 rw [← hD] at hfd hzg
 rw [← hD]
 clear hD
 go_enter Tryz.func12, Tryz.ntmps12
 go_wp2_with (first
  | go_skip
  | (with_reducible refine wpList_box rfl 25 _ rfl D rfl ?_; intro B V1 hNB hB hk)
  | (with_reducible refine wpList_box rfl 43 _ rfl C rfl ?_; intro T V2 hNT hT hk2; replace hB := hB.next hk2; replace hk := hk.trans (hk2.mono hk.size); clear hk2)
  | (with_reducible refine wpList_loadb (by kernel_rfl) 25 _ rfl B rfl D hB _ Tryz.underlying25 (by kernel_rfl) hzg ?_)
  | (with_reducible refine wpList_loadb (by kernel_rfl) 43 _ rfl T rfl C hT _ Tryz.underlying43 (by kernel_rfl) (size40C hz) ?_)
  | (go_at_call 22; (with_reducible refine (hfd _ hk).mono ?_); rintro e w9 ⟨F, CF1, rfl, pF, oF1, hb1⟩)
  | ((with_reducible refine wpList_alloc rfl 63 rfl zPl zeroPl ?_); have hx := oF1; intro P1 U1 hN21 hPa1 hka1; clear hx)
  | ((with_reducible refine wpList_store_blk rfl _ _ _ rfl P1 rfl F rfl zPl hPa1 (infoPl pF.size) (zPl_size.trans pF.size.symm) pF.one ?_); intro X1 hP1 q1; obtain ⟨hbz, oG1⟩ := laidF hb1 oF1 hN21 hka1 q1; have zF := pF.size; have nwP : Hid (w.heap.size ≤ P1 ∧ _ ≤ P1) := (by have h1 := hN21.out.1; have h2 := hb1.size; have h3 := hk.size; exact ⟨by omega, Nat.le_trans h2 (Nat.le_of_eq h1)⟩); clear oF1 hb1 hN21 hka1 q1 hPa1; have nw1 : Hid (w.heap.size ≤ _) := hk.size; replace hB := hB.next hbz; replace hT := hT.next hbz; replace hk := hk.trans (hbz.mono hk.size); clear hbz; skip)
  | (with_reducible refine wpList_loadb (by kernel_rfl) 63 _ rfl P1 rfl F hP1 _ Tryz.underlying63 (by kernel_rfl) (infoPl zF) ?_)
  | (go_at_call 26; (with_reducible refine (hwo _ F CF1 pF oG1.lt).mono ?_); rintro e w3 ⟨rfl, hb7⟩; replace hB := hB.next hb7; replace hT := hT.next hb7; replace hP1 := hP1.next hb7; replace oG1 := oG1.next hb7; replace hk := hk.trans (hb7.mono hk.size); clear hb7; skip))
 exact bodyPost_ret (results_tmp2 Tryz.results12 _ _ _) rfl ⟨rfl, hk⟩
theorem load_v {w : World} {t ke ro : Int} {ao : Option Addr} {n cap : Nat} {X : List Ob} {C : Array Value} {x : Ob} {a : Int} (h : Mw w ao n cap X C x) (ha : 0 ≤ a ∧ a ≤ 18446744073709551615) : Calls Tryz.prog 12 #[.agg #[.int .i64 t, .int .u64 ke, .int .u64 ro, .slice ao n cap], .agg C, .int .u64 a] w fun e w' => e = .returned (.tuple #[.int .u64 (ldV X x a), .bool (decide (wkE X x a = 0))]) ∧ Below w.heap.size w w' := by
 unfold ldV
 by_cases hE : wkE X x a = 0
 ·rw [if_pos hE, decide_eq_true hE]; exact load_y h ha hE
 ·rw [if_neg hE, decide_eq_false hE]; exact load_n h ha hE
theorem store_a {w : World} {t ke ro : Int} {ao : Option Addr} {n cap : Nat} {X : List Ob} {C : Array Value} {x : Ob} {a v : Int} (h : Mw w ao n cap X C x) (ha : 0 ≤ a ∧ a ≤ 18446744073709551615) (hn : n < 1024) (hid : ∀ y ∈ X, y.id ≠ 0) (hE : wkE X x a ≠ 0) : Calls Tryz.prog 14 #[.agg #[.int .i64 t, .int .u64 ke, .int .u64 ro, .slice ao n cap], .agg C, .int .u64 a, .int .u64 v] w fun e w' => ∃ ao2 n2 cap2, e = .returned (.tuple #[.agg #[.int .i64 t, .int .u64 ke, .int .u64 ro, .slice ao2 n2 cap2], .bool false]) ∧ Obs w' ao2 n2 cap2 X ∧ Below w.heap.size w w' := by
 have hz := h.thr.size
 have hzg : (Tryz.prog.info? 25).map (·.size) = some (#[.int .i64 t, .int .u64 ke, .int .u64 ro, .slice ao n cap] : Array Value).size := by kernel_rfl
 have hfd := fun (W : World) (hk : Below w.heap.size w W) => find_v (t := t) (ke := ke) (ro := ro) (h.next hk) ha
 have hdr := fun (W : World) (hk : Below w.heap.size w W) => drop_w (t := t) (ke := ke) (ro := ro) (i := 0) (D0 := LtN w) (fun b hb => Nat.lt_of_lt_of_le hb hk.size) (obsD_next h.obs (fun _ hb => hb) hk) h.srt hn h.sml
 rw [drp_none h.srt (fnd_none.2 hid)] at hdr
 have hz2 : ∀ v, (Tryz.prog.info? 25).map (·.size) = some (#[.int .i64 t, .int .u64 ke, .int .u64 ro, v] : Array Value).size := fun _ => by kernel_rfl
 have hs2 : ∀ v, zW.size = (#[.int .i64 t, .int .u64 ke, .int .u64 ro, v] : Array Value).size := fun _ => rfl
 have h12 : ∀ ao n cap, (#[.int .i64 t, .int .u64 ke, .int .u64 ro, .slice ao n cap] : Array Value).all (·.oneCell') = true := fun _ _ _ => by kernel_rfl
 unfold PlO at hfd
 have HE : Hid (wkE X x a ≠ 0) := hE
 clear hE
 generalize wkE X x a = ek at hfd HE ⊢
 have hb0 : (ek != 0) = true := by simpa using HE.out
 generalize resO ek (wkO X x a) = y at hfd ⊢
 generalize (if ek = 0 then (mpM X x a).wr else false) = wb at hfd ⊢
 generalize (if ek = 0 then mpA X x a else 0) = A at hfd ⊢
 obtain ⟨D, hD⟩ : ∃ D : Array Value, D = #[.int .i64 t, .int .u64 ke, .int .u64 ro, .slice ao n cap] := ⟨_, rfl⟩
 rw [← hD] at hfd hzg hdr
 rw [← hD]
 clear hD
 go_enter Tryz.func14, Tryz.ntmps14
 go_wp2_with (first
  | go_skip
  | (with_reducible refine wpList_box rfl 25 _ rfl D rfl ?_; intro B V1 hNB hB hk)
  | (with_reducible refine wpList_box rfl 43 _ rfl C rfl ?_; intro T V2 hNT hT hk2; replace hB := hB.next hk2; replace hk := hk.trans (hk2.mono hk.size); clear hk2)
  | ((with_reducible refine wpList_alloc rfl 25 rfl zW zero43 ?_); intro R V3 hNR hR hk3; replace hB := hB.next hk3; replace hT := hT.next hk3; replace hk := hk.trans (hk3.mono hk.size); clear hk3)
  | (with_reducible refine wpList_loadb (by kernel_rfl) 25 _ rfl B rfl D hB _ Tryz.underlying25 (by kernel_rfl) hzg ?_)
  | (with_reducible refine wpList_loadb (by kernel_rfl) 43 _ rfl T rfl C hT _ Tryz.underlying43 (by kernel_rfl) (size40C hz) ?_)
  | (go_at_call 22; (with_reducible refine (hfd _ hk).mono ?_); rintro e w9 ⟨F, CF1, rfl, pF, oF1, hb1⟩)
  | ((with_reducible refine wpList_alloc rfl 63 rfl zPl zeroPl ?_); have hx := oF1; intro P1 U1 hN21 hPa1 hka1; clear hx)
  | ((with_reducible refine wpList_store_blk rfl _ _ _ rfl P1 rfl F rfl zPl hPa1 (infoPl pF.size) (zPl_size.trans pF.size.symm) pF.one ?_); intro X1 hP1 q1; obtain ⟨hbz, oG1⟩ := laidF hb1 oF1 hN21 hka1 q1; have zF := pF.size; have nwP : Hid (w.heap.size ≤ P1 ∧ _ ≤ P1) := (by have h1 := hN21.out.1; have h2 := hb1.size; have h3 := hk.size; exact ⟨by omega, Nat.le_trans h2 (Nat.le_of_eq h1)⟩); clear oF1 hb1 hN21 hka1 q1 hPa1; have nw1 : Hid (w.heap.size ≤ _) := hk.size; have nR1 : Hid (R < _) := hR.lt; replace hB := hB.next hbz; replace hT := hT.next hbz; replace hR := hR.next hbz; replace hk := hk.trans (hbz.mono hk.size); clear hbz; skip)
  | (with_reducible refine wpList_loadb (by kernel_rfl) 63 _ rfl P1 rfl F hP1 _ Tryz.underlying63 (by kernel_rfl) (infoPl zF) ?_)
  | (go_at_call 28; (with_reducible refine (hdr _ hk).mono ?_); rintro e w8 ⟨ao2, n2, cap2, rfl, p8, hb8⟩; have nR8 : Hid (R < _) := hR.lt; have h8s : Hid (_ ≤ w8.heap.size) := hb8.size; replace hB := hB.next hb8; replace hT := hT.next hb8; replace hR := hR.next hb8; replace hP1 := hP1.next hb8; replace oG1 := oG1.next hb8; replace hk := hk.trans (hb8.mono hk.size);)
  | ((with_reducible refine wpList_store_blk rfl _ _ _ rfl R rfl #[.int .i64 t, .int .u64 ke, .int .u64 ro, .slice ao2 n2 cap2] rfl zW hR (hz2 _) (hs2 _) (h12 _ _ _) ?_); intro V9 hR9 q9))
 have hRw : w.heap.size ≤ R := by have := hNB.out; have := hNT.out; have := hNR.out; omega
 exact bodyPost_ret (v := .tuple #[.agg #[.int .i64 t, .int .u64 ke, .int .u64 ro, .slice ao2 n2 cap2], .bool false]) (res_w2 Tryz.results14 rfl rfl hR9 rfl) rfl ⟨ao2, n2, cap2, rfl, obs_lay p8 (fun b hb => by
  have h1 := nR8.out
  have h2 := hb8.size
  rcases hb with hb | hb
  ·have h3 : b < w.heap.size := hb
   exact ⟨by omega, by omega⟩
  ·have h3 := hb.1
   have h4 := hb.2
   exact ⟨by omega, by omega⟩) nR8.out q9, q9.below _ _ hRw hk⟩
theorem store_b {w : World} {t ke ro : Int} {ao : Option Addr} {n cap : Nat} {X : List Ob} {C : Array Value} {x : Ob} {a v : Int} (h : Mw w ao n cap X C x) (ha : 0 ≤ a ∧ a ≤ 18446744073709551615) (hn : n < 1024) (hid : ∀ y ∈ X, y.id ≠ 0) (hE : wkE X x a = 0) (hT : ((mpM X x a).wr && leqB x.label (wkO X x a).label) = false) : Calls Tryz.prog 14 #[.agg #[.int .i64 t, .int .u64 ke, .int .u64 ro, .slice ao n cap], .agg C, .int .u64 a, .int .u64 v] w fun e w' => ∃ ao2 n2 cap2, e = .returned (.tuple #[.agg #[.int .i64 t, .int .u64 ke, .int .u64 ro, .slice ao2 n2 cap2], .bool false]) ∧ Obs w' ao2 n2 cap2 X ∧ Below w.heap.size w w' := by
 have hz := h.thr.size
 have hzg : (Tryz.prog.info? 25).map (·.size) = some (#[.int .i64 t, .int .u64 ke, .int .u64 ro, .slice ao n cap] : Array Value).size := by kernel_rfl
 have hfd := fun (W : World) (hk : Below w.heap.size w W) => find_v (t := t) (ke := ke) (ro := ro) (h.next hk) ha
 have hdr := fun (W : World) (hk : Below w.heap.size w W) => drop_w (t := t) (ke := ke) (ro := ro) (i := 0) (D0 := LtN w) (fun b hb => Nat.lt_of_lt_of_le hb hk.size) (obsD_next h.obs (fun _ hb => hb) hk) h.srt hn h.sml
 rw [drp_none h.srt (fnd_none.2 hid)] at hdr
 have hz2 : ∀ v, (Tryz.prog.info? 25).map (·.size) = some (#[.int .i64 t, .int .u64 ke, .int .u64 ro, v] : Array Value).size := fun _ => by kernel_rfl
 have hs2 : ∀ v, zW.size = (#[.int .i64 t, .int .u64 ke, .int .u64 ro, v] : Array Value).size := fun _ => rfl
 have h12 : ∀ ao n cap, (#[.int .i64 t, .int .u64 ke, .int .u64 ro, .slice ao n cap] : Array Value).all (·.oneCell') = true := fun _ _ _ => by kernel_rfl
 unfold PlO at hfd
 simp only [hE, if_pos] at hfd
 have hA := wk_word h.snd ha.1 hE
 have hwl := (wk_zero hE).2.2.2.2.2.2.2
 have hres : resO 0 (wkO X x a) = wkO X x a := rfl
 rw [hres] at hfd
 have hlx := h.lab
 have hta := fun (W : World) (F Cy : Array Value) (hk : Below w.heap.size w W) (hF : PlD F Cy (mpA X x a) (mpM X x a).wr) (hy : ObD (LtN W) W Cy (wkO X x a)) => takes_v hF hy (h.next hk).thr hlx
 rw [hT] at hta
 clear hE hres hT hwl hA
 generalize wkO X x a = y at hfd hta ⊢
 generalize (mpM X x a).wr = wb at hfd hta ⊢
 generalize mpA X x a = A at hfd hta ⊢
 obtain ⟨D, hD⟩ : ∃ D : Array Value, D = #[.int .i64 t, .int .u64 ke, .int .u64 ro, .slice ao n cap] := ⟨_, rfl⟩
 rw [← hD] at hfd hzg hdr
 rw [← hD]
 clear hD
 go_enter Tryz.func14, Tryz.ntmps14
 go_wp2_with (first
  | go_skip
  | (with_reducible refine wpList_box rfl 25 _ rfl D rfl ?_; intro B V1 hNB hB hk)
  | (with_reducible refine wpList_box rfl 43 _ rfl C rfl ?_; intro T V2 hNT hT hk2; replace hB := hB.next hk2; replace hk := hk.trans (hk2.mono hk.size); clear hk2)
  | ((with_reducible refine wpList_alloc rfl 25 rfl zW zero43 ?_); intro R V3 hNR hR hk3; replace hB := hB.next hk3; replace hT := hT.next hk3; replace hk := hk.trans (hk3.mono hk.size); clear hk3)
  | (with_reducible refine wpList_loadb (by kernel_rfl) 25 _ rfl B rfl D hB _ Tryz.underlying25 (by kernel_rfl) hzg ?_)
  | (with_reducible refine wpList_loadb (by kernel_rfl) 43 _ rfl T rfl C hT _ Tryz.underlying43 (by kernel_rfl) (size40C hz) ?_)
  | (go_at_call 22; (with_reducible refine (hfd _ hk).mono ?_); rintro e w9 ⟨F, CF1, rfl, pF, oF1, hb1⟩)
  | ((with_reducible refine wpList_alloc rfl 63 rfl zPl zeroPl ?_); have hx := oF1; intro P1 U1 hN21 hPa1 hka1; clear hx)
  | ((with_reducible refine wpList_store_blk rfl _ _ _ rfl P1 rfl F rfl zPl hPa1 (infoPl pF.size) (zPl_size.trans pF.size.symm) pF.one ?_); intro X1 hP1 q1; obtain ⟨hbz, oG1⟩ := laidF hb1 oF1 hN21 hka1 q1; have zF := pF.size; have nwP : Hid (w.heap.size ≤ P1 ∧ _ ≤ P1) := (by have h1 := hN21.out.1; have h2 := hb1.size; have h3 := hk.size; exact ⟨by omega, Nat.le_trans h2 (Nat.le_of_eq h1)⟩); clear oF1 hb1 hN21 hka1 q1 hPa1; have nw1 : Hid (w.heap.size ≤ _) := hk.size; have nR1 : Hid (R < _) := hR.lt; replace hB := hB.next hbz; replace hT := hT.next hbz; replace hR := hR.next hbz; replace hk := hk.trans (hbz.mono hk.size); clear hbz; skip)
  | (with_reducible refine wpList_loadb (by kernel_rfl) 63 _ rfl P1 rfl F hP1 _ Tryz.underlying63 (by kernel_rfl) (infoPl zF) ?_)
  | (go_at_call 27; (with_reducible refine (hta _ F CF1 hk pF oG1.lt).mono ?_); rintro e w4 ⟨rfl, hb7⟩; replace hB := hB.next hb7; replace hT := hT.next hb7; replace hR := hR.next hb7; replace hP1 := hP1.next hb7; replace oG1 := oG1.next hb7; replace hk := hk.trans (hb7.mono hk.size); clear hb7; skip)
  | (go_at_call 28; (with_reducible refine (hdr _ hk).mono ?_); rintro e w8 ⟨ao2, n2, cap2, rfl, p8, hb8⟩; have nR8 : Hid (R < _) := hR.lt; have h8s : Hid (_ ≤ w8.heap.size) := hb8.size; replace hB := hB.next hb8; replace hT := hT.next hb8; replace hR := hR.next hb8; replace hP1 := hP1.next hb8; replace oG1 := oG1.next hb8; replace hk := hk.trans (hb8.mono hk.size);)
  | ((with_reducible refine wpList_store_blk rfl _ _ _ rfl R rfl #[.int .i64 t, .int .u64 ke, .int .u64 ro, .slice ao2 n2 cap2] rfl zW hR (hz2 _) (hs2 _) (h12 _ _ _) ?_); intro V9 hR9 q9))
 have hRw : w.heap.size ≤ R := by have := hNB.out; have := hNT.out; have := hNR.out; omega
 exact bodyPost_ret (v := .tuple #[.agg #[.int .i64 t, .int .u64 ke, .int .u64 ro, .slice ao2 n2 cap2], .bool false]) (res_w2 Tryz.results14 rfl rfl hR9 rfl) rfl ⟨ao2, n2, cap2, rfl, obs_lay p8 (fun b hb => by
  have h1 := nR8.out
  have h2 := hb8.size
  rcases hb with hb | hb
  ·have h3 : b < w.heap.size := hb
   exact ⟨by omega, by omega⟩
  ·have h3 := hb.1
   have h4 := hb.2
   exact ⟨by omega, by omega⟩) nR8.out q9, q9.below _ _ hRw hk⟩
theorem store_c {w : World} {t ke ro : Int} {ao : Option Addr} {n cap : Nat} {X : List Ob} {C : Array Value} {x : Ob} {a v : Int} (h : Mw w ao n cap X C x) (ha : 0 ≤ a ∧ a ≤ 18446744073709551615) (hn : n < 1024) (hid : ∀ y ∈ X, y.id ≠ 0) (hE : wkE X x a = 0) (hT : ((mpM X x a).wr && leqB x.label (wkO X x a).label) = true) : Calls Tryz.prog 14 #[.agg #[.int .i64 t, .int .u64 ke, .int .u64 ro, .slice ao n cap], .agg C, .int .u64 a, .int .u64 v] w fun e w' => ∃ ao2 n2 cap2, e = .returned (.tuple #[.agg #[.int .i64 t, .int .u64 ke, .int .u64 ro, .slice ao2 n2 cap2], .bool true]) ∧ Obs w' ao2 n2 cap2 (puR X (putO (wkO X x a) (mpA X x a) v)) ∧ Below w.heap.size w w' := by
 have hmx : Tryz.prog.follows .mixedOrders = true := by kernel_rfl
 have hz := h.thr.size
 have hzg : (Tryz.prog.info? 25).map (·.size) = some (#[.int .i64 t, .int .u64 ke, .int .u64 ro, .slice ao n cap] : Array Value).size := by kernel_rfl
 have hfd := fun (W : World) (hk : Below w.heap.size w W) => find_v (t := t) (ke := ke) (ro := ro) (h.next hk) ha
 unfold PlO at hfd
 simp only [hE, if_pos] at hfd
 have hA := wk_word h.snd ha.1 hE
 have hwl := (wk_zero hE).2.2.2.2.2.2.2
 have hres : resO 0 (wkO X x a) = wkO X x a := rfl
 rw [hres] at hfd
 have hlx := h.lab
 have hta := fun (W : World) (F Cy : Array Value) (hk : Below w.heap.size w W) (hF : PlD F Cy (mpA X x a) (mpM X x a).wr) (hy : ObD (LtN W) W Cy (wkO X x a)) => takes_v hF hy (h.next hk).thr hlx
 rw [hT] at hta
 have hsy : Small (wkO X x a) := fO_small h.sml _
 have hsk := wk_kind (x := x) (a := a) h.snd
 have hpS := put_small hsy (p := mpA X x a) (v := v)
 clear hE hres hT hwl
 generalize wkO X x a = y at hfd hta hsy hsk hpS ⊢
 generalize (mpM X x a).wr = wb at hfd hta ⊢
 generalize mpA X x a = A at hfd hta hA hpS ⊢
 have hwi := fun (W : World) (F Cy : Array Value) (hF : PlD F Cy A wb) (hy : ObD (LtN W) W Cy y) => with_v hF hy hsy hsk hA (v := v)
 have hpu := fun (V W : World) (Cw : Array Value) (hk : Below w.heap.size w V) (hVW : Below V.heap.size V W) (hC : ObD (New V W) W Cw (putO y A v)) => put_w (t := t) (ke := ke) (ro := ro) (D0 := fun b => LtN w b ∨ New V W b) (fun b hb => hb.elim (fun q => Nat.lt_of_lt_of_le q (Nat.le_trans hk.size hVW.size)) (fun q => q.2)) ((ObsD.laterK h.obs (fun b hb => (hk.trans (hVW.mono hk.size)).block b hb) (fun b hb => (hk.trans (hVW.mono hk.size)).block b hb)).wide (fun _ hb => .inl hb) (fun _ hb => Nat.lt_of_lt_of_le hb (Nat.le_trans hk.size hVW.size))) h.srt hn h.sml (hC.wide fun _ q => .inr q) hpS
 generalize putO y A v = y2 at hwi hpu ⊢
 clear hsy hsk hA hpS
 obtain ⟨D, hD⟩ : ∃ D : Array Value, D = #[.int .i64 t, .int .u64 ke, .int .u64 ro, .slice ao n cap] := ⟨_, rfl⟩
 rw [← hD] at hfd hzg hpu
 rw [← hD]
 clear hD
 go_enter Tryz.func14, Tryz.ntmps14
 go_wp2_with (first
  | go_skip
  | (with_reducible refine wpList_box rfl 25 _ rfl D rfl ?_; intro B V1 hNB hB hk)
  | (with_reducible refine wpList_box rfl 43 _ rfl C rfl ?_; intro T V2 hNT hT hk2; replace hB := hB.next hk2; replace hk := hk.trans (hk2.mono hk.size); clear hk2)
  | ((with_reducible refine wpList_alloc rfl 25 rfl zW zero43 ?_); intro R V3 hNR hR hk3; replace hB := hB.next hk3; replace hT := hT.next hk3; replace hk := hk.trans (hk3.mono hk.size); clear hk3)
  | (with_reducible refine wpList_loadb (by kernel_rfl) 25 _ rfl B rfl D hB _ Tryz.underlying25 (by kernel_rfl) hzg ?_)
  | (with_reducible refine wpList_loadb (by kernel_rfl) 43 _ rfl T rfl C hT _ Tryz.underlying43 (by kernel_rfl) (size40C hz) ?_)
  | (go_at_call 22; (with_reducible refine (hfd _ hk).mono ?_); rintro e w9 ⟨F, CF1, rfl, pF, oF1, hb1⟩)
  | ((with_reducible refine wpList_alloc rfl 63 rfl zPl zeroPl ?_); have hx := oF1; intro P1 U1 hN21 hPa1 hka1; clear hx)
  | ((with_reducible refine wpList_store_blk rfl _ _ _ rfl P1 rfl F rfl zPl hPa1 (infoPl pF.size) (zPl_size.trans pF.size.symm) pF.one ?_); intro X1 hP1 q1; obtain ⟨hbz, oG1⟩ := laidF hb1 oF1 hN21 hka1 q1; have zF := pF.size; have nwP : Hid (w.heap.size ≤ P1 ∧ _ ≤ P1) := (by have h1 := hN21.out.1; have h2 := hb1.size; have h3 := hk.size; exact ⟨by omega, Nat.le_trans h2 (Nat.le_of_eq h1)⟩); clear oF1 hb1 hN21 hka1 q1 hPa1; have nw1 : Hid (w.heap.size ≤ _) := hk.size; have nR1 : Hid (R < _) := hR.lt; replace hB := hB.next hbz; replace hT := hT.next hbz; replace hR := hR.next hbz; replace hk := hk.trans (hbz.mono hk.size); clear hbz; skip)
  | (with_reducible refine wpList_loadb (by kernel_rfl) 63 _ rfl P1 rfl F hP1 _ Tryz.underlying63 (by kernel_rfl) (infoPl zF) ?_)
  | (go_at_call 27; (with_reducible refine (hta _ F CF1 hk pF oG1.lt).mono ?_); rintro e w4 ⟨rfl, hb7⟩; replace hB := hB.next hb7; replace hT := hT.next hb7; replace hR := hR.next hb7; replace hP1 := hP1.next hb7; replace oG1 := oG1.next hb7; replace hk := hk.trans (hb7.mono hk.size); clear hb7; skip))
 have hRP : R ≠ P1 := by have h1 := nR1.out; have h2 := nwP.out.2; omega
 have hRw : w.heap.size ≤ R := by have := hNB.out; have := hNT.out; have := hNR.out; omega
 have hBR : B ≠ R := by have := hNB.out; have := hNT.out; have := hNR.out; omega
 have hd := (Below.refl w4.heap.size w4).drew
 have hwP := nwP.out.1
 refine PgM.region_out (S := fun U => Blk U B D 25 ∧ Blk U P1 F 63 ∧ Below w.heap.size w U) hmx ⟨hB.next hd, hP1.next hd, hk.trans (hd.mono hk.size)⟩ (fun hS => ?_)
 have hR1 := hR.next hd
 have oG2 := oG1.next hd
 have hRl : R < w4.drew.heap.size := hR1.lt
 generalize w4.drew = v5 at hS hd hR1 oG2 hRl ⊢
 refine wpAnyH_sym (by kernel_rfl) (fun _ _ _ _ _ h => h) hS [(0, some (.agg D)), (1, some (.agg F)), (2, none)] (l' := #[true, true, true, false, false, false, false]) (a' := { tmps := #[.agg D, .agg C, .int .u64 a, .int .u64 v, .pointer (some ⟨B, 0, none⟩), .pointer (some ⟨T, 0, none⟩), ud, undef, .pointer (some ⟨R, 0, none⟩), .bool false, .pointer (some ⟨P1, 0, none⟩), .int .i64 0, .tuple #[.agg F, .int .i64 0], .agg D, .agg C, .int .u64 a, .tuple #[.agg F, .int .i64 0], .agg F, .int .i64 0, .int .i64 0, .bool false, .bool false, .agg F, .agg C, .bool true, .bool false, .bool false, ud, undef, .agg D, .agg F, .int .u64 v, ud, undef], defers := [] }) (obs := [.load 25 B 0 (.agg D), .load 63 P1 0 (.agg F)]) (n := 4) (by kernel_rfl) (by kernel_rfl) ⟨ob_loadb (fun _ q => q.1) Tryz.underlying25 rfl hzg, ob_loadb (fun _ q => q.2.1) Tryz.underlying63 rfl (infoPl zF), trivial⟩ ?_
 refine wpAnyH_callL (i := 3) (fuel := 3) (f := 30) (vs := [.agg F, .int .u64 v]) (d := some 32) (by kernel_rfl) (by kernel_rfl) (by kernel_rfl) Tryz.call30 (hwi _ F CF1 pF oG2.lt) ?_
 rintro e z1 ⟨CW, rfl, oW, hcz1⟩
 have hSz1 : Blk z1 B D 25 ∧ Blk z1 P1 F 63 ∧ Below w.heap.size w z1 := ⟨hS.1.next hcz1, hS.2.1.next hcz1, hS.2.2.trans (hcz1.mono hS.2.2.size)⟩
 refine ⟨_, rfl, hSz1, ?_⟩
 refine wpAnyH_callL (i := 4) (fuel := 2) (f := 29) (vs := [.agg D, .agg CW]) (d := some 33) (by kernel_rfl) (by kernel_rfl) (by kernel_rfl) Tryz.call29 (hpu _ _ CW hS.2.2 hcz1 oW) ?_
 rintro e z2 ⟨ao2, n2, cap2, rfl, p2, hcz2⟩
 have hSz2 : Blk z2 B D 25 ∧ Blk z2 P1 F 63 ∧ Below w.heap.size w z2 := ⟨hSz1.1.next hcz2, hSz1.2.1.next hcz2, hSz1.2.2.trans (hcz2.mono hSz1.2.2.size)⟩
 refine ⟨_, rfl, hSz2, ?_⟩
 obtain ⟨V9, hr9, hR9, q9⟩ := run_store_blk (C := #[.int .i64 t, .int .u64 ke, .int .u64 ro, .slice ao2 n2 cap2]) ((hR1.next hcz1).next hcz2) (by kernel_rfl) rfl (by kernel_rfl)
 refine wpAnyH_single (i := 5) (n := 1) rfl (by kernel_rfl) ?_
 refine wpOp_storeL (ty := 25) (B := R) (off := 0) (v := .agg #[.int .i64 t, .int .u64 ke, .int .u64 ro, .slice ao2 n2 cap2]) (d := none) (by kernel_rfl) hr9 ?_
 have hS9 : Blk V9 B D 25 ∧ Blk V9 P1 F 63 ∧ Below w.heap.size w V9 := ⟨hSz2.1.other q9 hBR, hSz2.2.1.other q9 hRP.symm, q9.below _ _ hRw hSz2.2.2⟩
 refine ⟨hS9, ?_⟩
 refine wpAnyH_sym (by kernel_rfl) (fun _ _ _ _ _ h => h) hS9 [(6, none)] (l' := #[true, true, true, true, true, true, true]) (a' := { tmps := #[.agg D, .agg C, .int .u64 a, .int .u64 v, .pointer (some ⟨B, 0, none⟩), .pointer (some ⟨T, 0, none⟩), ud, undef, .pointer (some ⟨R, 0, none⟩), .bool true, .pointer (some ⟨P1, 0, none⟩), .int .i64 0, .tuple #[.agg F, .int .i64 0], .agg D, .agg C, .int .u64 a, .tuple #[.agg F, .int .i64 0], .agg F, .int .i64 0, .int .i64 0, .bool false, .bool false, .agg F, .agg C, .bool true, .bool false, .bool false, ud, undef, .agg D, .agg F, .int .u64 v, .agg CW, .agg #[.int .i64 t, .int .u64 ke, .int .u64 ro, .slice ao2 n2 cap2]], defers := [] }) (obs := []) (n := 0) (by kernel_rfl) (by kernel_rfl) trivial ?_
 refine wpAnyH_done (by kernel_rfl) ?_ _
 go_wp2
 exact bodyPost_ret (v := .tuple #[.agg #[.int .i64 t, .int .u64 ke, .int .u64 ro, .slice ao2 n2 cap2], .bool true]) (res_w2 Tryz.results14 rfl rfl hR9 rfl) rfl ⟨ao2, n2, cap2, rfl, obs_lay p2 (fun b hb => by
  have h1 := nR1.out
  have h2 := hcz2.size
  have h3 := hcz1.size
  have h4 := nw1.out
  have h5 := hSz2.2.2.size
  rcases hb with (hb | hb) | hb
  ·have h6 : b < w.heap.size := hb
   exact ⟨by omega, by omega⟩
  ·have h6 := hb.1
   have h7 := hb.2
   exact ⟨by omega, by omega⟩
  ·have h6 := hb.1
   have h7 := hb.2
   exact ⟨by omega, by omega⟩) (by have := hcz1.size; omega) q9, hS9.2.2⟩
theorem store_v {w : World} {t ke ro : Int} {ao : Option Addr} {n cap : Nat} {X : List Ob} {C : Array Value} {x : Ob} {a v : Int} (h : Mw w ao n cap X C x) (ha : 0 ≤ a ∧ a ≤ 18446744073709551615) (hn : n < 1024) (hid : ∀ y ∈ X, y.id ≠ 0) : Calls Tryz.prog 14 #[.agg #[.int .i64 t, .int .u64 ke, .int .u64 ro, .slice ao n cap], .agg C, .int .u64 a, .int .u64 v] w fun e w' => ∃ ao2 n2 cap2, e = .returned (.tuple #[.agg #[.int .i64 t, .int .u64 ke, .int .u64 ro, .slice ao2 n2 cap2], .bool (stB X x a)]) ∧ Obs w' ao2 n2 cap2 (stX X x a v) ∧ Below w.heap.size w w' := by
 unfold stX stB
 by_cases hE : wkE X x a = 0
 ·rw [decide_eq_true hE, Bool.true_and]
  cases hT : ((mpM X x a).wr && leqB x.label (wkO X x a).label) with
  | true => rw [if_pos rfl]; exact store_c h ha hn hid hE hT
  | false => rw [if_neg (by decide)]; exact store_b h ha hn hid hE hT
 ·rw [decide_eq_false hE, Bool.false_and, if_neg (by decide)]
  exact store_a h ha hn hid hE
end Go.Proofs.YtiiaohejldchdaaGreat
