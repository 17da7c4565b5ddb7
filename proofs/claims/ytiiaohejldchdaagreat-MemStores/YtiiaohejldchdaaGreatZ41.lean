/-
 PROVED HERE: what the document's See and Change return when they are called (contracts over this translation); plain facts . What is asked stands at each.
-/
import Derived.Test.YtiiaohejldchdaaGreatZ19
import Derived.Test.YtiiaohejldchdaaGreatZ35
import Derived.Test.YtiiaohejldchdaaGreatZ37
import Derived.Test.YtiiaohejldchdaaGreatZ40
namespace Go.Proofs.YtiiaohejldchdaaGreat
set_option maxRecDepth 100000
set_option maxHeartbeats 8000000
open Go.RowKit Go.Shelf
set_option linter.unusedVariables false
attribute [local go_sem] Oper.semAt_some

theorem rsee_a {w V0 : World} {t ke ro : Int} {ao : Option Addr} {n cap : Nat} {X : List Ob} {C : Array Value} {x : Ob} {G : Array Value} {c i kd : Int} (h : Rw w ao n cap X) (hk0 : Below w.heap.size w V0) (hx : ObD (LtN w) w C x) (fx : LbF x.label) (g0 : G[0]? = some (.int .u64 c)) (g1 : G[1]? = some (.int .u64 i)) (gz : G.size = 2) (hln : ∀ d ∈ X, ∀ j ∈ d.links, (fnd X j).isSome = true) (hl : lokE X x.label c i ≠ 0) (hE : seeE X x.label c i kd = lokE X x.label c i) : Calls Tryz.prog 23 #[.agg #[.int .i64 t, .int .u64 ke, .int .u64 ro, .slice ao n cap], .agg C, .agg G, .int .i64 kd] V0 (Rtl (seeE X x.label c i kd) (fO X i) w V0) := by
 rw [hE]
 clear hE
 have hz := hx.size
 have hzg : (Tryz.prog.info? 25).map (·.size) = some (#[.int .i64 t, .int .u64 ke, .int .u64 ro, .slice ao n cap] : Array Value).size := by kernel_rfl
 have ga2 := Tryz.isAgg3
 have ga1 := Tryz.isAgg22
 have hzr : (Tryz.prog.info? 32).map (·.size) = some G.size := by rw [gz]; kernel_rfl
 have hlo := fun (W : World) (hk : Below w.heap.size w W) => rlook_v (t := t) (ke := ke) (ro := ro) h hk hx fx g0 g1 gz hln
 have HE : Hid (lokE X x.label c i ≠ 0) := hl
 clear hl
 generalize lokE X x.label c i = ek at hlo HE ⊢
 have hb0 : (ek != 0) = true := by simpa using HE.out
 obtain ⟨D, hD⟩ : ∃ D : Array Value, D = #[.int .i64 t, .int .u64 ke, .int .u64 ro, .slice ao n cap] := ⟨_, rfl⟩
 rw [← hD] at hzg hlo
 rw [← hD]
 clear hD
 go_enter Tryz.func23, Tryz.ntmps23
 go_wp2_with (first
  | go_skip
  | (with_reducible refine wpList_box rfl 25 _ rfl D rfl ?_; intro B W1 hN1 hB hj)
  | (with_reducible refine wpList_box rfl 43 _ rfl C rfl ?_; intro T W3 hN3 hT hk3; replace hB := hB.next hk3; replace hj := hj.trans (hk3.mono hj.size); clear hk3)
  | (with_reducible refine wpList_box rfl 32 _ rfl G rfl ?_; intro Q W8 hN8 hQ hk8; replace hB := hB.next hk8; replace hT := hT.next hk8; replace hj := hj.trans (hk8.mono hj.size); clear hk8)
  | ((with_reducible refine wpList_alloc rfl _ rfl zC zero40 ?_); have hxx := oF; intro P W4 hN4 hP hk4; clear hxx)
  | ((with_reducible refine wpList_alloc rfl _ rfl zC zero40 ?_); intro R W2 hN2 hR hk2; replace hB := hB.next hk2; replace hT := hT.next hk2; replace hQ := hQ.next hk2; replace hj := hj.trans (hk2.mono hj.size); clear hk2)
  | (with_reducible refine wpList_loadb (by kernel_rfl) 25 _ rfl B rfl D hB _ Tryz.underlying25 (by kernel_rfl) hzg ?_)
  | (with_reducible refine wpList_loadb (by kernel_rfl) 43 _ rfl T rfl C hT _ Tryz.underlying43 (by kernel_rfl) (size40C hz) ?_)
  | (with_reducible refine wpList_loadb (by kernel_rfl) 32 _ rfl Q rfl G hQ _ Tryz.underlying32 (by kernel_rfl) hzr ?_)
  | (go_at_call 55; (with_reducible refine (hlo _ (hk0.trans (hj.mono hk0.size))).mono ?_); rintro e w3 ⟨CF, rfl, oF, hb3⟩)
  | ((with_reducible refine wpList_store_blk rfl _ _ _ rfl P rfl CF rfl zC hP (size40C oF.size) (zC_size.trans oF.size.symm) oF.one ?_); intro V4 hP4 q4; obtain ⟨hb5, oG⟩ := laidL (hk0.trans (hj.mono hk0.size)) hb3 oF hN4 hk4 q4; have zG := oG.size; clear oF hb3 hk4 q4 hN4 hP; replace hB := hB.next hb5; replace hT := hT.next hb5; replace hQ := hQ.next hb5; replace hR := hR.next hb5; replace hj := hj.trans (hb5.mono hj.size); clear hb5; skip)
  | (with_reducible refine wpList_load1 (by kernel_rfl) _ _ rfl P _ rfl _ _ hP4 _ k1 ga2 ?_)
  | (with_reducible refine wpList_loadb (by kernel_rfl) 43 _ rfl P rfl CF hP4 _ Tryz.underlying43 (by kernel_rfl) (size40C zG) ?_)
  | ((with_reducible refine wpList_build rfl _ [] rfl zC ?hf ?_); (case hf => exact built_z))
  | ((with_reducible refine wpList_store_blk rfl _ _ _ rfl R rfl zC rfl zC hR (size40C zC_size) rfl (zC_d (fun _ => True) w).one ?_); intro V5 hR5 q5))
 refine bodyPost_ret (v := .tuple #[.agg zC, .int .i64 ek]) (res40b Tryz.results23 rfl rfl hR5 zC_size) rfl ⟨zC, rfl, ?_, q5.below _ _ (by have := hN1.out; have := hN3.out; have := hN8.out; have := hN2.out; omega) hj⟩
 rw [res_err (HE.out)]
 exact zC_d _ _
theorem rsee_b {w V0 : World} {t ke ro : Int} {ao : Option Addr} {n cap : Nat} {X : List Ob} {C : Array Value} {x : Ob} {G : Array Value} {c i kd : Int} (h : Rw w ao n cap X) (hk0 : Below w.heap.size w V0) (hx : ObD (LtN w) w C x) (fx : LbF x.label) (g0 : G[0]? = some (.int .u64 c)) (g1 : G[1]? = some (.int .u64 i)) (gz : G.size = 2) (hln : ∀ d ∈ X, ∀ j ∈ d.links, (fnd X j).isSome = true) (hl : lokE X x.label c i = 0) (hk1 : ¬ kd = 0) (hk2 : ¬ kd = (fO X i).kind) (hE : seeE X x.label c i kd = 3) : Calls Tryz.prog 23 #[.agg #[.int .i64 t, .int .u64 ke, .int .u64 ro, .slice ao n cap], .agg C, .agg G, .int .i64 kd] V0 (Rtl (seeE X x.label c i kd) (fO X i) w V0) := by
 rw [hE]
 clear hE
 have hz := hx.size
 have hzg : (Tryz.prog.info? 25).map (·.size) = some (#[.int .i64 t, .int .u64 ke, .int .u64 ro, .slice ao n cap] : Array Value).size := by kernel_rfl
 have ga2 := Tryz.isAgg3
 have ga1 := Tryz.isAgg22
 have hzr : (Tryz.prog.info? 32).map (·.size) = some G.size := by rw [gz]; kernel_rfl
 have hlo := fun (W : World) (hk : Below w.heap.size w W) => rlook_v (t := t) (ke := ke) (ro := ro) h hk hx fx g0 g1 gz hln
 rw [hl] at hlo
 have k0 : (kd != 0) = true := by simpa using hk1
 have k2 : ((fO X i).kind != kd) = true := by simpa using fun e => hk2 e.symm
 clear hk1 hk2
 clear hl
 obtain ⟨D, hD⟩ : ∃ D : Array Value, D = #[.int .i64 t, .int .u64 ke, .int .u64 ro, .slice ao n cap] := ⟨_, rfl⟩
 rw [← hD] at hzg hlo
 rw [← hD]
 clear hD
 go_enter Tryz.func23, Tryz.ntmps23
 go_wp2_with (first
  | go_skip
  | (with_reducible refine wpList_box rfl 25 _ rfl D rfl ?_; intro B W1 hN1 hB hj)
  | (with_reducible refine wpList_box rfl 43 _ rfl C rfl ?_; intro T W3 hN3 hT hk3; replace hB := hB.next hk3; replace hj := hj.trans (hk3.mono hj.size); clear hk3)
  | (with_reducible refine wpList_box rfl 32 _ rfl G rfl ?_; intro Q W8 hN8 hQ hk8; replace hB := hB.next hk8; replace hT := hT.next hk8; replace hj := hj.trans (hk8.mono hj.size); clear hk8)
  | ((with_reducible refine wpList_alloc rfl _ rfl zC zero40 ?_); have hxx := oF; intro P W4 hN4 hP hk4; clear hxx)
  | ((with_reducible refine wpList_alloc rfl _ rfl zC zero40 ?_); intro R W2 hN2 hR hk2; replace hB := hB.next hk2; replace hT := hT.next hk2; replace hQ := hQ.next hk2; replace hj := hj.trans (hk2.mono hj.size); clear hk2)
  | (with_reducible refine wpList_loadb (by kernel_rfl) 25 _ rfl B rfl D hB _ Tryz.underlying25 (by kernel_rfl) hzg ?_)
  | (with_reducible refine wpList_loadb (by kernel_rfl) 43 _ rfl T rfl C hT _ Tryz.underlying43 (by kernel_rfl) (size40C hz) ?_)
  | (with_reducible refine wpList_loadb (by kernel_rfl) 32 _ rfl Q rfl G hQ _ Tryz.underlying32 (by kernel_rfl) hzr ?_)
  | (go_at_call 55; (with_reducible refine (hlo _ (hk0.trans (hj.mono hk0.size))).mono ?_); rintro e w3 ⟨CF, rfl, oF, hb3⟩; replace oF : ObD (LtN w) w3 CF (fO X i) := oF)
  | ((with_reducible refine wpList_store_blk rfl _ _ _ rfl P rfl CF rfl zC hP (size40C oF.size) (zC_size.trans oF.size.symm) oF.one ?_); intro V4 hP4 q4; obtain ⟨hb5, oG⟩ := laidL (hk0.trans (hj.mono hk0.size)) hb3 oF hN4 hk4 q4; have zG := oG.size; clear oF hb3 hk4 q4 hN4 hP; replace hB := hB.next hb5; replace hT := hT.next hb5; replace hQ := hQ.next hb5; replace hR := hR.next hb5; replace hj := hj.trans (hb5.mono hj.size); clear hb5; have k1 := oG.kind; skip)
  | (with_reducible refine wpList_load1 (by kernel_rfl) _ _ rfl P _ rfl _ _ hP4 _ k1 ga2 ?_)
  | (with_reducible refine wpList_loadb (by kernel_rfl) 43 _ rfl P rfl CF hP4 _ Tryz.underlying43 (by kernel_rfl) (size40C zG) ?_)
  | ((with_reducible refine wpList_build rfl _ [] rfl zC ?hf ?_); (case hf => exact built_z))
  | ((with_reducible refine wpList_store_blk rfl _ _ _ rfl R rfl zC rfl zC hR (size40C zC_size) rfl (zC_d (fun _ => True) w).one ?_); intro V5 hR5 q5))
 refine bodyPost_ret (v := .tuple #[.agg zC, .int .i64 3]) (res40b Tryz.results23 rfl rfl hR5 zC_size) rfl ⟨zC, rfl, ?_, q5.below _ _ (by have := hN1.out; have := hN3.out; have := hN8.out; have := hN2.out; omega) hj⟩
 rw [res_err (by decide)]
 exact zC_d _ _
theorem rsee_c0 {w V0 : World} {t ke ro : Int} {ao : Option Addr} {n cap : Nat} {X : List Ob} {C : Array Value} {x : Ob} {G : Array Value} {c i : Int} (h : Rw w ao n cap X) (hk0 : Below w.heap.size w V0) (hx : ObD (LtN w) w C x) (fx : LbF x.label) (g0 : G[0]? = some (.int .u64 c)) (g1 : G[1]? = some (.int .u64 i)) (gz : G.size = 2) (hln : ∀ d ∈ X, ∀ j ∈ d.links, (fnd X j).isSome = true) (hl : lokE X x.label c i = 0) (hf : (fnd X i).isSome = true) (hs : seeB x.label (fO X i) = true) (hE : seeE X x.label c i 0 = 0) : Calls Tryz.prog 23 #[.agg #[.int .i64 t, .int .u64 ke, .int .u64 ro, .slice ao n cap], .agg C, .agg G, .int .i64 0] V0 (Rtl (seeE X x.label c i 0) (fO X i) w V0) := by
 rw [hE]
 clear hE
 have hz := hx.size
 have hzg : (Tryz.prog.info? 25).map (·.size) = some (#[.int .i64 t, .int .u64 ke, .int .u64 ro, .slice ao n cap] : Array Value).size := by kernel_rfl
 have ga2 := Tryz.isAgg3
 have ga1 := Tryz.isAgg22
 have hzr : (Tryz.prog.info? 32).map (·.size) = some G.size := by rw [gz]; kernel_rfl
 have hlo := fun (W : World) (hk : Below w.heap.size w W) => rlook_v (t := t) (ke := ke) (ro := ro) h hk hx fx g0 g1 gz hln
 rw [hl] at hlo
 have hmem := (fO_mem hf).1
 have hsx := h.sml _ hmem
 have hsd := h.snd _ hmem
 have hlb := h.lab _ hmem
 have hse := fun (W : World) (K : Array Value) (hk : Below w.heap.size w W) (hC : ObD (LtN w) W K (fO X i)) => rsees_v (hx.next hk) (ob_up hC hk) fx hsd hsx hlb
 rw [hs] at hse
 clear hl hs hf
 obtain ⟨D, hD⟩ : ∃ D : Array Value, D = #[.int .i64 t, .int .u64 ke, .int .u64 ro, .slice ao n cap] := ⟨_, rfl⟩
 rw [← hD] at hzg hlo
 rw [← hD]
 clear hD
 go_enter Tryz.func23, Tryz.ntmps23
 go_wp2_with (first
  | go_skip
  | (with_reducible refine wpList_box rfl 25 _ rfl D rfl ?_; intro B W1 hN1 hB hj)
  | (with_reducible refine wpList_box rfl 43 _ rfl C rfl ?_; intro T W3 hN3 hT hk3; replace hB := hB.next hk3; replace hj := hj.trans (hk3.mono hj.size); clear hk3)
  | (with_reducible refine wpList_box rfl 32 _ rfl G rfl ?_; intro Q W8 hN8 hQ hk8; replace hB := hB.next hk8; replace hT := hT.next hk8; replace hj := hj.trans (hk8.mono hj.size); clear hk8)
  | ((with_reducible refine wpList_alloc rfl _ rfl zC zero40 ?_); have hxx := oF; intro P W4 hN4 hP hk4; clear hxx)
  | ((with_reducible refine wpList_alloc rfl _ rfl zC zero40 ?_); intro R W2 hN2 hR hk2; replace hB := hB.next hk2; replace hT := hT.next hk2; replace hQ := hQ.next hk2; replace hj := hj.trans (hk2.mono hj.size); clear hk2)
  | (with_reducible refine wpList_loadb (by kernel_rfl) 25 _ rfl B rfl D hB _ Tryz.underlying25 (by kernel_rfl) hzg ?_)
  | (with_reducible refine wpList_loadb (by kernel_rfl) 43 _ rfl T rfl C hT _ Tryz.underlying43 (by kernel_rfl) (size40C hz) ?_)
  | (with_reducible refine wpList_loadb (by kernel_rfl) 32 _ rfl Q rfl G hQ _ Tryz.underlying32 (by kernel_rfl) hzr ?_)
  | (go_at_call 55; (with_reducible refine (hlo _ (hk0.trans (hj.mono hk0.size))).mono ?_); rintro e w3 ⟨CF, rfl, oF, hb3⟩; replace oF : ObD (LtN w) w3 CF (fO X i) := oF)
  | ((with_reducible refine wpList_store_blk rfl _ _ _ rfl P rfl CF rfl zC hP (size40C oF.size) (zC_size.trans oF.size.symm) oF.one ?_); intro V4 hP4 q4; obtain ⟨hb5, oG⟩ := laidL (hk0.trans (hj.mono hk0.size)) hb3 oF hN4 hk4 q4; have zG := oG.size; clear oF hb3 hk4 q4 hN4 hP; replace hB := hB.next hb5; replace hT := hT.next hb5; replace hQ := hQ.next hb5; replace hR := hR.next hb5; replace hj := hj.trans (hb5.mono hj.size); clear hb5; have k1 := oG.kind; skip)
  | (with_reducible refine wpList_load1 (by kernel_rfl) _ _ rfl P _ rfl _ _ hP4 _ k1 ga2 ?_)
  | (with_reducible refine wpList_loadb (by kernel_rfl) 43 _ rfl P rfl CF hP4 _ Tryz.underlying43 (by kernel_rfl) (size40C zG) ?_)
  | (go_at_call 56; (with_reducible refine (hse _ _ (hk0.trans (hj.mono hk0.size)) oG).mono ?_); rintro e w6 ⟨rfl, hb6⟩; have hjo := hj; replace hB := hB.next hb6; replace hT := hT.next hb6; replace hR := hR.next hb6; replace hP4 := hP4.next hb6; replace hj := hj.trans (hb6.mono hj.size); replace oG := ob_lt oG (hk0.trans (hjo.mono hk0.size)) hb6; clear hb6)
  | ((with_reducible refine wpList_build rfl _ [] rfl zC ?hf ?_); (case hf => exact built_z))
  | ((with_reducible refine wpList_store_blk rfl _ _ _ rfl R rfl CF rfl zC hR (size40C zG) (zC_size.trans zG.symm) oG.one ?_); intro V5 hR5 q5))
 obtain ⟨o9, b9⟩ := retL hk0.size hj oG (by have := hN1.out; have := hN3.out; have := hN8.out; have := hN2.out; omega) q5
 exact bodyPost_ret (v := .tuple #[.agg CF, .int .i64 0]) (res40b Tryz.results23 rfl rfl hR5 zG) rfl ⟨CF, rfl, o9, b9⟩
theorem rsee_d0 {w V0 : World} {t ke ro : Int} {ao : Option Addr} {n cap : Nat} {X : List Ob} {C : Array Value} {x : Ob} {G : Array Value} {c i kd : Int} (h : Rw w ao n cap X) (hk0 : Below w.heap.size w V0) (hx : ObD (LtN w) w C x) (fx : LbF x.label) (g0 : G[0]? = some (.int .u64 c)) (g1 : G[1]? = some (.int .u64 i)) (gz : G.size = 2) (hln : ∀ d ∈ X, ∀ j ∈ d.links, (fnd X j).isSome = true) (hl : lokE X x.label c i = 0) (hf : (fnd X i).isSome = true) (hk1 : ¬ kd = 0) (hk2 : kd = (fO X i).kind) (hs : seeB x.label (fO X i) = true) (hE : seeE X x.label c i kd = 0) : Calls Tryz.prog 23 #[.agg #[.int .i64 t, .int .u64 ke, .int .u64 ro, .slice ao n cap], .agg C, .agg G, .int .i64 kd] V0 (Rtl (seeE X x.label c i kd) (fO X i) w V0) := by
 rw [hE]
 clear hE
 have hz := hx.size
 have hzg : (Tryz.prog.info? 25).map (·.size) = some (#[.int .i64 t, .int .u64 ke, .int .u64 ro, .slice ao n cap] : Array Value).size := by kernel_rfl
 have ga2 := Tryz.isAgg3
 have ga1 := Tryz.isAgg22
 have hzr : (Tryz.prog.info? 32).map (·.size) = some G.size := by rw [gz]; kernel_rfl
 have hlo := fun (W : World) (hk : Below w.heap.size w W) => rlook_v (t := t) (ke := ke) (ro := ro) h hk hx fx g0 g1 gz hln
 rw [hl] at hlo
 have hmem := (fO_mem hf).1
 have hsx := h.sml _ hmem
 have hsd := h.snd _ hmem
 have hlb := h.lab _ hmem
 have hse := fun (W : World) (K : Array Value) (hk : Below w.heap.size w W) (hC : ObD (LtN w) W K (fO X i)) => rsees_v (hx.next hk) (ob_up hC hk) fx hsd hsx hlb
 rw [hs] at hse
 have k0 : (kd != 0) = true := by simpa using hk1
 have k2 : ((fO X i).kind != kd) = false := by simpa using hk2.symm
 clear hk1 hk2
 clear hl hs hf
 obtain ⟨D, hD⟩ : ∃ D : Array Value, D = #[.int .i64 t, .int .u64 ke, .int .u64 ro, .slice ao n cap] := ⟨_, rfl⟩
 rw [← hD] at hzg hlo
 rw [← hD]
 clear hD
 go_enter Tryz.func23, Tryz.ntmps23
 go_wp2_with (first
  | go_skip
  | (with_reducible refine wpList_box rfl 25 _ rfl D rfl ?_; intro B W1 hN1 hB hj)
  | (with_reducible refine wpList_box rfl 43 _ rfl C rfl ?_; intro T W3 hN3 hT hk3; replace hB := hB.next hk3; replace hj := hj.trans (hk3.mono hj.size); clear hk3)
  | (with_reducible refine wpList_box rfl 32 _ rfl G rfl ?_; intro Q W8 hN8 hQ hk8; replace hB := hB.next hk8; replace hT := hT.next hk8; replace hj := hj.trans (hk8.mono hj.size); clear hk8)
  | ((with_reducible refine wpList_alloc rfl _ rfl zC zero40 ?_); have hxx := oF; intro P W4 hN4 hP hk4; clear hxx)
  | ((with_reducible refine wpList_alloc rfl _ rfl zC zero40 ?_); intro R W2 hN2 hR hk2; replace hB := hB.next hk2; replace hT := hT.next hk2; replace hQ := hQ.next hk2; replace hj := hj.trans (hk2.mono hj.size); clear hk2)
  | (with_reducible refine wpList_loadb (by kernel_rfl) 25 _ rfl B rfl D hB _ Tryz.underlying25 (by kernel_rfl) hzg ?_)
  | (with_reducible refine wpList_loadb (by kernel_rfl) 43 _ rfl T rfl C hT _ Tryz.underlying43 (by kernel_rfl) (size40C hz) ?_)
  | (with_reducible refine wpList_loadb (by kernel_rfl) 32 _ rfl Q rfl G hQ _ Tryz.underlying32 (by kernel_rfl) hzr ?_)
  | (go_at_call 55; (with_reducible refine (hlo _ (hk0.trans (hj.mono hk0.size))).mono ?_); rintro e w3 ⟨CF, rfl, oF, hb3⟩; replace oF : ObD (LtN w) w3 CF (fO X i) := oF)
  | ((with_reducible refine wpList_store_blk rfl _ _ _ rfl P rfl CF rfl zC hP (size40C oF.size) (zC_size.trans oF.size.symm) oF.one ?_); intro V4 hP4 q4; obtain ⟨hb5, oG⟩ := laidL (hk0.trans (hj.mono hk0.size)) hb3 oF hN4 hk4 q4; have zG := oG.size; clear oF hb3 hk4 q4 hN4 hP; replace hB := hB.next hb5; replace hT := hT.next hb5; replace hQ := hQ.next hb5; replace hR := hR.next hb5; replace hj := hj.trans (hb5.mono hj.size); clear hb5; have k1 := oG.kind; skip)
  | (with_reducible refine wpList_load1 (by kernel_rfl) _ _ rfl P _ rfl _ _ hP4 _ k1 ga2 ?_)
  | (with_reducible refine wpList_loadb (by kernel_rfl) 43 _ rfl P rfl CF hP4 _ Tryz.underlying43 (by kernel_rfl) (size40C zG) ?_)
  | (go_at_call 56; (with_reducible refine (hse _ _ (hk0.trans (hj.mono hk0.size)) oG).mono ?_); rintro e w6 ⟨rfl, hb6⟩; have hjo := hj; replace hB := hB.next hb6; replace hT := hT.next hb6; replace hR := hR.next hb6; replace hP4 := hP4.next hb6; replace hj := hj.trans (hb6.mono hj.size); replace oG := ob_lt oG (hk0.trans (hjo.mono hk0.size)) hb6; clear hb6)
  | ((with_reducible refine wpList_build rfl _ [] rfl zC ?hf ?_); (case hf => exact built_z))
  | ((with_reducible refine wpList_store_blk rfl _ _ _ rfl R rfl CF rfl zC hR (size40C zG) (zC_size.trans zG.symm) oG.one ?_); intro V5 hR5 q5))
 obtain ⟨o9, b9⟩ := retL hk0.size hj oG (by have := hN1.out; have := hN3.out; have := hN8.out; have := hN2.out; omega) q5
 exact bodyPost_ret (v := .tuple #[.agg CF, .int .i64 0]) (res40b Tryz.results23 rfl rfl hR5 zG) rfl ⟨CF, rfl, o9, b9⟩
theorem rsee_c2 {w V0 : World} {t ke ro : Int} {ao : Option Addr} {n cap : Nat} {X : List Ob} {C : Array Value} {x : Ob} {G : Array Value} {c i : Int} (h : Rw w ao n cap X) (hk0 : Below w.heap.size w V0) (hx : ObD (LtN w) w C x) (fx : LbF x.label) (g0 : G[0]? = some (.int .u64 c)) (g1 : G[1]? = some (.int .u64 i)) (gz : G.size = 2) (hln : ∀ d ∈ X, ∀ j ∈ d.links, (fnd X j).isSome = true) (hl : lokE X x.label c i = 0) (hf : (fnd X i).isSome = true) (hs : seeB x.label (fO X i) = false) (hE : seeE X x.label c i 0 = 2) : Calls Tryz.prog 23 #[.agg #[.int .i64 t, .int .u64 ke, .int .u64 ro, .slice ao n cap], .agg C, .agg G, .int .i64 0] V0 (Rtl (seeE X x.label c i 0) (fO X i) w V0) := by
 rw [hE]
 clear hE
 have hz := hx.size
 have hzg : (Tryz.prog.info? 25).map (·.size) = some (#[.int .i64 t, .int .u64 ke, .int .u64 ro, .slice ao n cap] : Array Value).size := by kernel_rfl
 have ga2 := Tryz.isAgg3
 have ga1 := Tryz.isAgg22
 have hzr : (Tryz.prog.info? 32).map (·.size) = some G.size := by rw [gz]; kernel_rfl
 have hlo := fun (W : World) (hk : Below w.heap.size w W) => rlook_v (t := t) (ke := ke) (ro := ro) h hk hx fx g0 g1 gz hln
 rw [hl] at hlo
 have hmem := (fO_mem hf).1
 have hsx := h.sml _ hmem
 have hsd := h.snd _ hmem
 have hlb := h.lab _ hmem
 have hse := fun (W : World) (K : Array Value) (hk : Below w.heap.size w W) (hC : ObD (LtN w) W K (fO X i)) => rsees_v (hx.next hk) (ob_up hC hk) fx hsd hsx hlb
 rw [hs] at hse
 clear hl hs hf
 obtain ⟨D, hD⟩ : ∃ D : Array Value, D = #[.int .i64 t, .int .u64 ke, .int .u64 ro, .slice ao n cap] := ⟨_, rfl⟩
 rw [← hD] at hzg hlo
 rw [← hD]
 clear hD
 go_enter Tryz.func23, Tryz.ntmps23
 go_wp2_with (first
  | go_skip
  | (with_reducible refine wpList_box rfl 25 _ rfl D rfl ?_; intro B W1 hN1 hB hj)
  | (with_reducible refine wpList_box rfl 43 _ rfl C rfl ?_; intro T W3 hN3 hT hk3; replace hB := hB.next hk3; replace hj := hj.trans (hk3.mono hj.size); clear hk3)
  | (with_reducible refine wpList_box rfl 32 _ rfl G rfl ?_; intro Q W8 hN8 hQ hk8; replace hB := hB.next hk8; replace hT := hT.next hk8; replace hj := hj.trans (hk8.mono hj.size); clear hk8)
  | ((with_reducible refine wpList_alloc rfl _ rfl zC zero40 ?_); have hxx := oF; intro P W4 hN4 hP hk4; clear hxx)
  | ((with_reducible refine wpList_alloc rfl _ rfl zC zero40 ?_); intro R W2 hN2 hR hk2; replace hB := hB.next hk2; replace hT := hT.next hk2; replace hQ := hQ.next hk2; replace hj := hj.trans (hk2.mono hj.size); clear hk2)
  | (with_reducible refine wpList_loadb (by kernel_rfl) 25 _ rfl B rfl D hB _ Tryz.underlying25 (by kernel_rfl) hzg ?_)
  | (with_reducible refine wpList_loadb (by kernel_rfl) 43 _ rfl T rfl C hT _ Tryz.underlying43 (by kernel_rfl) (size40C hz) ?_)
  | (with_reducible refine wpList_loadb (by kernel_rfl) 32 _ rfl Q rfl G hQ _ Tryz.underlying32 (by kernel_rfl) hzr ?_)
  | (go_at_call 55; (with_reducible refine (hlo _ (hk0.trans (hj.mono hk0.size))).mono ?_); rintro e w3 ⟨CF, rfl, oF, hb3⟩; replace oF : ObD (LtN w) w3 CF (fO X i) := oF)
  | ((with_reducible refine wpList_store_blk rfl _ _ _ rfl P rfl CF rfl zC hP (size40C oF.size) (zC_size.trans oF.size.symm) oF.one ?_); intro V4 hP4 q4; obtain ⟨hb5, oG⟩ := laidL (hk0.trans (hj.mono hk0.size)) hb3 oF hN4 hk4 q4; have zG := oG.size; clear oF hb3 hk4 q4 hN4 hP; replace hB := hB.next hb5; replace hT := hT.next hb5; replace hQ := hQ.next hb5; replace hR := hR.next hb5; replace hj := hj.trans (hb5.mono hj.size); clear hb5; have k1 := oG.kind; skip)
  | (with_reducible refine wpList_load1 (by kernel_rfl) _ _ rfl P _ rfl _ _ hP4 _ k1 ga2 ?_)
  | (with_reducible refine wpList_loadb (by kernel_rfl) 43 _ rfl P rfl CF hP4 _ Tryz.underlying43 (by kernel_rfl) (size40C zG) ?_)
  | (go_at_call 56; (with_reducible refine (hse _ _ (hk0.trans (hj.mono hk0.size)) oG).mono ?_); rintro e w6 ⟨rfl, hb6⟩; have hjo := hj; replace hB := hB.next hb6; replace hT := hT.next hb6; replace hR := hR.next hb6; replace hP4 := hP4.next hb6; replace hj := hj.trans (hb6.mono hj.size); replace oG := ob_lt oG (hk0.trans (hjo.mono hk0.size)) hb6; clear hb6)
  | ((with_reducible refine wpList_build rfl _ [] rfl zC ?hf ?_); (case hf => exact built_z))
  | ((with_reducible refine wpList_store_blk rfl _ _ _ rfl R rfl zC rfl zC hR (size40C zC_size) rfl (zC_d (fun _ => True) w).one ?_); intro V5 hR5 q5))
 refine bodyPost_ret (v := .tuple #[.agg zC, .int .i64 2]) (res40b Tryz.results23 rfl rfl hR5 zC_size) rfl ⟨zC, rfl, ?_, q5.below _ _ (by have := hN1.out; have := hN3.out; have := hN8.out; have := hN2.out; omega) hj⟩
 rw [res_err (by decide)]
 exact zC_d _ _
theorem rsee_d2 {w V0 : World} {t ke ro : Int} {ao : Option Addr} {n cap : Nat} {X : List Ob} {C : Array Value} {x : Ob} {G : Array Value} {c i kd : Int} (h : Rw w ao n cap X) (hk0 : Below w.heap.size w V0) (hx : ObD (LtN w) w C x) (fx : LbF x.label) (g0 : G[0]? = some (.int .u64 c)) (g1 : G[1]? = some (.int .u64 i)) (gz : G.size = 2) (hln : ∀ d ∈ X, ∀ j ∈ d.links, (fnd X j).isSome = true) (hl : lokE X x.label c i = 0) (hf : (fnd X i).isSome = true) (hk1 : ¬ kd = 0) (hk2 : kd = (fO X i).kind) (hs : seeB x.label (fO X i) = false) (hE : seeE X x.label c i kd = 2) : Calls Tryz.prog 23 #[.agg #[.int .i64 t, .int .u64 ke, .int .u64 ro, .slice ao n cap], .agg C, .agg G, .int .i64 kd] V0 (Rtl (seeE X x.label c i kd) (fO X i) w V0) := by
 rw [hE]
 clear hE
 have hz := hx.size
 have hzg : (Tryz.prog.info? 25).map (·.size) = some (#[.int .i64 t, .int .u64 ke, .int .u64 ro, .slice ao n cap] : Array Value).size := by kernel_rfl
 have ga2 := Tryz.isAgg3
 have ga1 := Tryz.isAgg22
 have hzr : (Tryz.prog.info? 32).map (·.size) = some G.size := by rw [gz]; kernel_rfl
 have hlo := fun (W : World) (hk : Below w.heap.size w W) => rlook_v (t := t) (ke := ke) (ro := ro) h hk hx fx g0 g1 gz hln
 rw [hl] at hlo
 have hmem := (fO_mem hf).1
 have hsx := h.sml _ hmem
 have hsd := h.snd _ hmem
 have hlb := h.lab _ hmem
 have hse := fun (W : World) (K : Array Value) (hk : Below w.heap.size w W) (hC : ObD (LtN w) W K (fO X i)) => rsees_v (hx.next hk) (ob_up hC hk) fx hsd hsx hlb
 rw [hs] at hse
 have k0 : (kd != 0) = true := by simpa using hk1
 have k2 : ((fO X i).kind != kd) = false := by simpa using hk2.symm
 clear hk1 hk2
 clear hl hs hf
 obtain ⟨D, hD⟩ : ∃ D : Array Value, D = #[.int .i64 t, .int .u64 ke, .int .u64 ro, .slice ao n cap] := ⟨_, rfl⟩
 rw [← hD] at hzg hlo
 rw [← hD]
 clear hD
 go_enter Tryz.func23, Tryz.ntmps23
 go_wp2_with (first
  | go_skip
  | (with_reducible refine wpList_box rfl 25 _ rfl D rfl ?_; intro B W1 hN1 hB hj)
  | (with_reducible refine wpList_box rfl 43 _ rfl C rfl ?_; intro T W3 hN3 hT hk3; replace hB := hB.next hk3; replace hj := hj.trans (hk3.mono hj.size); clear hk3)
  | (with_reducible refine wpList_box rfl 32 _ rfl G rfl ?_; intro Q W8 hN8 hQ hk8; replace hB := hB.next hk8; replace hT := hT.next hk8; replace hj := hj.trans (hk8.mono hj.size); clear hk8)
  | ((with_reducible refine wpList_alloc rfl _ rfl zC zero40 ?_); have hxx := oF; intro P W4 hN4 hP hk4; clear hxx)
  | ((with_reducible refine wpList_alloc rfl _ rfl zC zero40 ?_); intro R W2 hN2 hR hk2; replace hB := hB.next hk2; replace hT := hT.next hk2; replace hQ := hQ.next hk2; replace hj := hj.trans (hk2.mono hj.size); clear hk2)
  | (with_reducible refine wpList_loadb (by kernel_rfl) 25 _ rfl B rfl D hB _ Tryz.underlying25 (by kernel_rfl) hzg ?_)
  | (with_reducible refine wpList_loadb (by kernel_rfl) 43 _ rfl T rfl C hT _ Tryz.underlying43 (by kernel_rfl) (size40C hz) ?_)
  | (with_reducible refine wpList_loadb (by kernel_rfl) 32 _ rfl Q rfl G hQ _ Tryz.underlying32 (by kernel_rfl) hzr ?_)
  | (go_at_call 55; (with_reducible refine (hlo _ (hk0.trans (hj.mono hk0.size))).mono ?_); rintro e w3 ⟨CF, rfl, oF, hb3⟩; replace oF : ObD (LtN w) w3 CF (fO X i) := oF)
  | ((with_reducible refine wpList_store_blk rfl _ _ _ rfl P rfl CF rfl zC hP (size40C oF.size) (zC_size.trans oF.size.symm) oF.one ?_); intro V4 hP4 q4; obtain ⟨hb5, oG⟩ := laidL (hk0.trans (hj.mono hk0.size)) hb3 oF hN4 hk4 q4; have zG := oG.size; clear oF hb3 hk4 q4 hN4 hP; replace hB := hB.next hb5; replace hT := hT.next hb5; replace hQ := hQ.next hb5; replace hR := hR.next hb5; replace hj := hj.trans (hb5.mono hj.size); clear hb5; have k1 := oG.kind; skip)
  | (with_reducible refine wpList_load1 (by kernel_rfl) _ _ rfl P _ rfl _ _ hP4 _ k1 ga2 ?_)
  | (with_reducible refine wpList_loadb (by kernel_rfl) 43 _ rfl P rfl CF hP4 _ Tryz.underlying43 (by kernel_rfl) (size40C zG) ?_)
  | (go_at_call 56; (with_reducible refine (hse _ _ (hk0.trans (hj.mono hk0.size)) oG).mono ?_); rintro e w6 ⟨rfl, hb6⟩; have hjo := hj; replace hB := hB.next hb6; replace hT := hT.next hb6; replace hR := hR.next hb6; replace hP4 := hP4.next hb6; replace hj := hj.trans (hb6.mono hj.size); replace oG := ob_lt oG (hk0.trans (hjo.mono hk0.size)) hb6; clear hb6)
  | ((with_reducible refine wpList_build rfl _ [] rfl zC ?hf ?_); (case hf => exact built_z))
  | ((with_reducible refine wpList_store_blk rfl _ _ _ rfl R rfl zC rfl zC hR (size40C zC_size) rfl (zC_d (fun _ => True) w).one ?_); intro V5 hR5 q5))
 refine bodyPost_ret (v := .tuple #[.agg zC, .int .i64 2]) (res40b Tryz.results23 rfl rfl hR5 zC_size) rfl ⟨zC, rfl, ?_, q5.below _ _ (by have := hN1.out; have := hN3.out; have := hN8.out; have := hN2.out; omega) hj⟩
 rw [res_err (by decide)]
 exact zC_d _ _
theorem rsee_v {w V0 : World} {t ke ro : Int} {ao : Option Addr} {n cap : Nat} {X : List Ob} {C : Array Value} {x : Ob} {G : Array Value} {c i kd : Int} (h : Rw w ao n cap X) (hk0 : Below w.heap.size w V0) (hx : ObD (LtN w) w C x) (fx : LbF x.label) (g0 : G[0]? = some (.int .u64 c)) (g1 : G[1]? = some (.int .u64 i)) (gz : G.size = 2) (hln : ∀ d ∈ X, ∀ j ∈ d.links, (fnd X j).isSome = true) : Calls Tryz.prog 23 #[.agg #[.int .i64 t, .int .u64 ke, .int .u64 ro, .slice ao n cap], .agg C, .agg G, .int .i64 kd] V0 (Rtl (seeE X x.label c i kd) (fO X i) w V0) := by
 rcases lok_cases X x.label c i with hl | hl
 ·obtain ⟨hl, _, _, hf⟩ := hl
  by_cases hk1 : kd = 0
  ·subst hk1
   cases hs : seeB x.label (fO X i) with
   | true => exact rsee_c0 h hk0 hx fx g0 g1 gz hln hl hf hs (all_ok hl (.inl rfl) hs)
   | false => exact rsee_c2 h hk0 hx fx g0 g1 gz hln hl hf hs (all_lab hl (.inl rfl) hs)
  ·by_cases hk2 : kd = (fO X i).kind
   ·cases hs : seeB x.label (fO X i) with
    | true => exact rsee_d0 h hk0 hx fx g0 g1 gz hln hl hf hk1 hk2 hs (all_ok hl (.inr hk2) hs)
    | false => exact rsee_d2 h hk0 hx fx g0 g1 gz hln hl hf hk1 hk2 hs (all_lab hl (.inr hk2) hs)
   ·exact rsee_b h hk0 hx fx g0 g1 gz hln hl hk1 hk2 (all_kind hl (fun q => q.elim hk1 hk2))
 ·have hl' : lokE X x.label c i ≠ 0 := by rw [hl]; decide
  exact rsee_a h hk0 hx fx g0 g1 gz hln hl' (all_err hl')
end Go.Proofs.YtiiaohejldchdaaGreat
namespace Go.Proofs.YtiiaohejldchdaaGreat
set_option maxRecDepth 100000
set_option maxHeartbeats 8000000
open Go.RowKit Go.Shelf
set_option linter.unusedVariables false

theorem tellX {k : Int} {x : Ob} {w W w' : World} {e : Ending} (hk : Below w.heap.size w W) (h : ∃ C, e = .returned (.tuple #[.agg C, .int .i64 k]) ∧ ObD (New W w') w' C (resO k x) ∧ Below W.heap.size W w') : ∃ C, e = .returned (.tuple #[.agg C, .int .i64 k]) ∧ ObD (LtN w') w' C (resO k x) ∧ Below W.heap.size W w' := by
 obtain ⟨C, e1, o, hb⟩ := h
 exact ⟨C, e1, o.wide fun _ q => q.2, hb⟩
theorem laidX {w W2 w3 W4 V4 : World} {P : Nat} {C : Array Value} {x : Ob} (hk : Below w.heap.size w W2) (hb3 : Below W2.heap.size W2 w3) (oF : ObD (LtN w3) w3 C x) (hN4 : Hid (w3.heap.size = P ∧ W4.heap.size = P + 1)) (hk4 : Below w3.heap.size w3 W4) (q4 : Oth P W4 V4) : Below W2.heap.size W2 V4 ∧ ObD (LtN V4) V4 C x := by
 have h1 := hN4.out
 have h2 := hb3.size
 have h3 := q4.size
 refine ⟨q4.below _ _ (by omega) (hb3.trans (hk4.mono h2)), (oF.laterK fun b hb => ?_).wide fun b hb => ?_⟩
 ·have h5 : b < w3.heap.size := hb
  rw [q4.block b (by omega), hk4.block b h5]
 ·have h5 : b < w3.heap.size := hb
  show b < V4.heap.size
  omega
end Go.Proofs.YtiiaohejldchdaaGreat
namespace Go.Proofs.YtiiaohejldchdaaGreat
set_option maxRecDepth 100000
set_option maxHeartbeats 8000000
open Go.RowKit Go.Shelf
set_option linter.unusedVariables false
attribute [local go_sem] Oper.semAt_some

section
variable {fn : Func} {p u v y : Tmp} {ty : TypeId} {tmps : Array Value} {w : World} {B : Nat} {C : Array Value} {a b c : Value} {d : TypeDesc}
theorem resC2 (h : fn.results = #[.cell p ty, .tmp u]) (hB : Blk w B C ty) (hd : Tryz.prog.underlying ty = some d) (hr : d.isRow = true) (hs : (Tryz.prog.info? ty).map (·.size) = some C.size) (hp : tmps.getD p undef = .pointer (some ⟨B, 0, none⟩)) (hu : tmps.getD u undef = a) : (results fn tmps).run Tryz.prog w = .ok (.tuple #[.agg C, a]) w := by
 have h1 := run_loadVar_mid (P := Tryz.prog) w B 0 ty C.toList _ hB.range0 hd hr (by simpa using hs)
 rw [Array.toArray_toList] at h1
 have hp' : tmps[p]?.getD undef = .pointer (some ⟨B, 0, none⟩) := by simpa using hp
 have hu' : tmps[u]?.getD undef = a := by simpa using hu
 simp only [results, h]
 simp [Result.andThen, hp', hu', asAddr, h1]
theorem resC3 (h : fn.results = #[.cell p ty, .tmp u, .tmp v]) (hB : Blk w B C ty) (hd : Tryz.prog.underlying ty = some d) (hr : d.isRow = true) (hs : (Tryz.prog.info? ty).map (·.size) = some C.size) (hp : tmps.getD p undef = .pointer (some ⟨B, 0, none⟩)) (hu : tmps.getD u undef = a) (hv : tmps.getD v undef = b) : (results fn tmps).run Tryz.prog w = .ok (.tuple #[.agg C, a, b]) w := by
 have h1 := run_loadVar_mid (P := Tryz.prog) w B 0 ty C.toList _ hB.range0 hd hr (by simpa using hs)
 rw [Array.toArray_toList] at h1
 have hp' : tmps[p]?.getD undef = .pointer (some ⟨B, 0, none⟩) := by simpa using hp
 have hu' : tmps[u]?.getD undef = a := by simpa using hu
 have hv' : tmps[v]?.getD undef = b := by simpa using hv
 simp only [results, h]
 simp [Result.andThen, hp', hu', hv', asAddr, h1]
theorem resC4 (h : fn.results = #[.cell p ty, .tmp u, .tmp v, .tmp y]) (hB : Blk w B C ty) (hd : Tryz.prog.underlying ty = some d) (hr : d.isRow = true) (hs : (Tryz.prog.info? ty).map (·.size) = some C.size) (hp : tmps.getD p undef = .pointer (some ⟨B, 0, none⟩)) (hu : tmps.getD u undef = a) (hv : tmps.getD v undef = b) (hy : tmps.getD y undef = c) : (results fn tmps).run Tryz.prog w = .ok (.tuple #[.agg C, a, b, c]) w := by
 have h1 := run_loadVar_mid (P := Tryz.prog) w B 0 ty C.toList _ hB.range0 hd hr (by simpa using hs)
 rw [Array.toArray_toList] at h1
 have hp' : tmps[p]?.getD undef = .pointer (some ⟨B, 0, none⟩) := by simpa using hp
 have hu' : tmps[u]?.getD undef = a := by simpa using hu
 have hv' : tmps[v]?.getD undef = b := by simpa using hv
 have hy' : tmps[y]?.getD undef = c := by simpa using hy
 simp only [results, h]
 simp [Result.andThen, hp', hu', hv', hy', asAddr, h1]
end
def zM : Array Value := #[.int .i64 0, .int .i64 0, .int .u64 0, .int .u64 0, .int .i64 0, .bool false]
theorem zeroM (w : World) : (zeroValue 71).run Tryz.prog w = .ok (.agg zM) w := by kernel_rfl
theorem built_zM : Tryz.prog.built 71 [] = some zM := by kernel_rfl
theorem infoMp {C : Array Value} (h : C.size = 6) : (Tryz.prog.info? 71).map (·.size) = some C.size := by rw [h]; kernel_rfl
theorem infoR2 : (Tryz.prog.info? 32).map (·.size) = some 2 := by kernel_rfl
theorem mpV_one (m : PgM.Pg.Mp) : (PgM.mpV m).all (·.oneCell') = true := by kernel_rfl
structure Mw (w : World) (ao : Option Addr) (n cap : Nat) (X : List Ob) (C : Array Value) (x : Ob) : Prop where
 obs : Obs w ao n cap X
 srt : Srt X
 len : n ≤ 4096
 sml : Smalls X
 snd : ∀ y ∈ X, soundB y = true
 thr : ObD (LtN w) w C x
 lab : x.label.length < 1048576
theorem Mw.next {w w' : World} {ao : Option Addr} {n cap : Nat} {X : List Ob} {C : Array Value} {x : Ob} (h : Mw w ao n cap X C x) (k : Below w.heap.size w w') : Mw w' ao n cap X C x := ⟨obs_next h.obs k, h.srt, h.len, h.sml, h.snd, h.thr.next k, h.lab⟩
theorem sp_ref {D : Nat → Prop} {w : World} {C : Array Value} {x : Ob} (h : ObD D w C x) : (C.extract 26 (26 + 2))[0]? = some (.int .u64 x.th.sc) ∧ (C.extract 26 (26 + 2))[1]? = some (.int .u64 x.th.si) ∧ (C.extract 26 (26 + 2)).size = 2 := by
 have hz := h.size
 refine ⟨(ext_get (by omega) (by decide)).trans h.th.sc, (ext_get (by omega) (by decide)).trans h.th.si, by simp; omega⟩
theorem mapped_a {w : World} {t ke ro : Int} {ao : Option Addr} {n cap : Nat} {X : List Ob} {C : Array Value} {x : Ob} {a : Int} (h : Mw w ao n cap X C x) (ha : 0 ≤ a ∧ a ≤ 18446744073709551615) (hE : spE X x ≠ 0) : Calls Tryz.prog 53 #[.agg #[.int .i64 t, .int .u64 ke, .int .u64 ro, .slice ao n cap], .agg C, .int .u64 a] w fun e w' => e = .returned (.tuple #[.agg zM, .int .u64 0, .int .i64 (spE X x)]) ∧ Below w.heap.size w w' := by
 have hz := h.thr.size
 obtain ⟨g0, g1, gz⟩ := sp_ref h.thr
 have hzg : (Tryz.prog.info? 25).map (·.size) = some (#[.int .i64 t, .int .u64 ke, .int .u64 ro, .slice ao n cap] : Array Value).size := by kernel_rfl
 have hse := fun (W : World) (hk : Below w.heap.size w W) => ((see_face (t := t) (ke := ke) (ro := ro) (kd := 3) (h.next hk).obs h.srt h.len h.sml (h.next hk).thr h.lab g0 g1 gz).mono (fun _ _ q => tellX hk q))
 change ∀ (W : World) (_ : Below w.heap.size w W), Calls Tryz.prog _ _ W (fun e w' => ∃ C', e = .returned (.tuple #[.agg C', .int .i64 (spE X x)]) ∧ ObD (LtN w') w' C' (resO (spE X x) (fO X x.th.si)) ∧ Below W.heap.size W w') at hse
 have HE : Hid (spE X x ≠ 0) := hE
 clear hE
 generalize spE X x = ek at hse HE ⊢
 have hb0 : (ek != 0) = true := by simpa using HE.out
 obtain ⟨D, hD⟩ : ∃ D : Array Value, D = #[.int .i64 t, .int .u64 ke, .int .u64 ro, .slice ao n cap] := ⟨_, rfl⟩
 rw [← hD] at hse hzg
 rw [← hD]
 clear hD
 go_enter Tryz.func53, Tryz.ntmps53
 go_wp2_with (first
  | go_skip
  | (with_reducible refine wpList_box rfl 25 _ rfl D rfl ?_; intro B V1 hNB hB hk)
  | (with_reducible refine wpList_box rfl 43 _ rfl C rfl ?_; intro T V2 hNT hT hk2; replace hB := hB.next hk2; replace hk := hk.trans (hk2.mono hk.size); clear hk2)
  | ((with_reducible refine wpList_alloc rfl 71 rfl zM zeroM ?_); intro R V3 hNR hR hk3; replace hB := hB.next hk3; replace hT := hT.next hk3; replace hk := hk.trans (hk3.mono hk.size); clear hk3)
  | (with_reducible refine wpList_loadb (by kernel_rfl) 25 _ rfl B rfl D hB _ Tryz.underlying25 (by kernel_rfl) hzg ?_)
  | (with_reducible refine wpList_loadb (by kernel_rfl) 43 _ rfl T rfl C hT _ Tryz.underlying43 (by kernel_rfl) (size40C hz) ?_)
  | (with_reducible refine wpList_load_part rfl 32 _ rfl T 26 2 rfl C _ hT (by rw [hz]; decide) _ Tryz.underlying32 rfl infoR2 ?_)
  | (go_at_call 54; (with_reducible refine (hse _ hk).mono ?_); rintro e w4 ⟨CF1, rfl, oF1, hb1⟩)
  | ((with_reducible refine wpList_alloc rfl 43 rfl zC zero40 ?_); have hx := oF1; intro P1 U1 hN21 hPa1 hka1; clear hx)
  | ((with_reducible refine wpList_store_blk rfl _ _ _ rfl P1 rfl CF1 rfl zC hPa1 (size40C oF1.size) (zC_size.trans oF1.size.symm) oF1.one ?_); intro X1 hP1 q1; obtain ⟨hbz, oG1⟩ := laidX hk hb1 oF1 hN21 hka1 q1; have zG1 := oG1.size; clear oF1 hb1 hN21 hka1 q1 hPa1; have nw1 : Hid (w.heap.size ≤ _) := hk.size; replace hB := hB.next hbz; replace hT := hT.next hbz; replace hR := hR.next hbz; replace hk := hk.trans (hbz.mono hk.size); clear hbz; skip)
  | (with_reducible refine wpList_loadb (by kernel_rfl) 43 _ rfl P1 rfl CF1 hP1 _ Tryz.underlying43 (by kernel_rfl) (size40C zG1) ?_)
  | ((with_reducible refine wpList_build rfl 71 [] rfl zM ?hf ?_); (case hf => exact built_zM))
  | ((with_reducible refine wpList_store_blk rfl _ _ _ rfl R rfl zM rfl zM hR (infoMp rfl) rfl (by kernel_rfl) ?_); intro V9 hR9 q9))
 exact bodyPost_ret (v := .tuple #[.agg zM, .int .u64 0, .int .i64 ek]) (resC3 Tryz.results53 hR9 Tryz.underlying71 rfl (infoMp rfl) rfl rfl rfl) rfl ⟨rfl, q9.below _ _ (by have := hNB.out; have := hNT.out; have := hNR.out; omega) hk⟩
theorem mapped_b {w : World} {t ke ro : Int} {ao : Option Addr} {n cap : Nat} {X : List Ob} {C : Array Value} {x : Ob} {a : Int} (h : Mw w ao n cap X C x) (ha : 0 ≤ a ∧ a ≤ 18446744073709551615) (hE : spE X x = 0) (hb : PgM.Pg.spB a = false) : Calls Tryz.prog 53 #[.agg #[.int .i64 t, .int .u64 ke, .int .u64 ro, .slice ao n cap], .agg C, .int .u64 a] w fun e w' => e = .returned (.tuple #[.agg zM, .int .u64 0, .int .i64 13]) ∧ Below w.heap.size w w' := by
 have hz := h.thr.size
 obtain ⟨g0, g1, gz⟩ := sp_ref h.thr
 have hzg : (Tryz.prog.info? 25).map (·.size) = some (#[.int .i64 t, .int .u64 ke, .int .u64 ro, .slice ao n cap] : Array Value).size := by kernel_rfl
 have hse := fun (W : World) (hk : Below w.heap.size w W) => ((see_face (t := t) (ke := ke) (ro := ro) (kd := 3) (h.next hk).obs h.srt h.len h.sml (h.next hk).thr h.lab g0 g1 gz).mono (fun _ _ q => tellX hk q))
 change ∀ (W : World) (_ : Below w.heap.size w W), Calls Tryz.prog _ _ W (fun e w' => ∃ C', e = .returned (.tuple #[.agg C', .int .i64 (spE X x)]) ∧ ObD (LtN w') w' C' (resO (spE X x) (fO X x.th.si)) ∧ Below W.heap.size W w') at hse
 rw [hE] at hse
 have hsf := sp_fit h.snd hE
 have hres : resO 0 (fO X x.th.si) = fO X x.th.si := rfl
 rw [hres] at hse
 clear hres hE
 have hsp := fun (W : World) => PgM.split_any a ha.1 ha.2 W
 rw [hb] at hsp
 obtain ⟨D, hD⟩ : ∃ D : Array Value, D = #[.int .i64 t, .int .u64 ke, .int .u64 ro, .slice ao n cap] := ⟨_, rfl⟩
 rw [← hD] at hse hzg
 rw [← hD]
 clear hD
 go_enter Tryz.func53, Tryz.ntmps53
 go_wp2_with (first
  | go_skip
  | (with_reducible refine wpList_box rfl 25 _ rfl D rfl ?_; intro B V1 hNB hB hk)
  | (with_reducible refine wpList_box rfl 43 _ rfl C rfl ?_; intro T V2 hNT hT hk2; replace hB := hB.next hk2; replace hk := hk.trans (hk2.mono hk.size); clear hk2)
  | ((with_reducible refine wpList_alloc rfl 71 rfl zM zeroM ?_); intro R V3 hNR hR hk3; replace hB := hB.next hk3; replace hT := hT.next hk3; replace hk := hk.trans (hk3.mono hk.size); clear hk3)
  | (with_reducible refine wpList_loadb (by kernel_rfl) 25 _ rfl B rfl D hB _ Tryz.underlying25 (by kernel_rfl) hzg ?_)
  | (with_reducible refine wpList_loadb (by kernel_rfl) 43 _ rfl T rfl C hT _ Tryz.underlying43 (by kernel_rfl) (size40C hz) ?_)
  | (with_reducible refine wpList_load_part rfl 32 _ rfl T 26 2 rfl C _ hT (by rw [hz]; decide) _ Tryz.underlying32 rfl infoR2 ?_)
  | (go_at_call 54; (with_reducible refine (hse _ hk).mono ?_); rintro e w4 ⟨CF1, rfl, oF1, hb1⟩)
  | ((with_reducible refine wpList_alloc rfl 43 rfl zC zero40 ?_); have hx := oF1; intro P1 U1 hN21 hPa1 hka1; clear hx)
  | ((with_reducible refine wpList_store_blk rfl _ _ _ rfl P1 rfl CF1 rfl zC hPa1 (size40C oF1.size) (zC_size.trans oF1.size.symm) oF1.one ?_); intro X1 hP1 q1; obtain ⟨hbz, oG1⟩ := laidX hk hb1 oF1 hN21 hka1 q1; have zG1 := oG1.size; clear oF1 hb1 hN21 hka1 q1 hPa1; have nw1 : Hid (w.heap.size ≤ _) := hk.size; replace hB := hB.next hbz; replace hT := hT.next hbz; replace hR := hR.next hbz; replace hk := hk.trans (hbz.mono hk.size); clear hbz; skip)
  | (with_reducible refine wpList_loadb (by kernel_rfl) 43 _ rfl P1 rfl CF1 hP1 _ Tryz.underlying43 (by kernel_rfl) (size40C zG1) ?_)
  | (go_at_call 75; (with_reducible refine (hsp _).mono ?_); rintro e w5 ⟨rfl, rfl⟩; skip)
  | ((with_reducible refine wpList_build rfl 71 [] rfl zM ?hf ?_); (case hf => exact built_zM))
  | ((with_reducible refine wpList_store_blk rfl _ _ _ rfl R rfl zM rfl zM hR (infoMp rfl) rfl (by kernel_rfl) ?_); intro V9 hR9 q9))
 exact bodyPost_ret (v := .tuple #[.agg zM, .int .u64 0, .int .i64 13]) (resC3 Tryz.results53 hR9 Tryz.underlying71 rfl (infoMp rfl) rfl rfl rfl) rfl ⟨rfl, q9.below _ _ (by have := hNB.out; have := hNT.out; have := hNR.out; omega) hk⟩
theorem mapped_c {w : World} {t ke ro : Int} {ao : Option Addr} {n cap : Nat} {X : List Ob} {C : Array Value} {x : Ob} {a : Int} (h : Mw w ao n cap X C x) (ha : 0 ≤ a ∧ a ≤ 18446744073709551615) (hE : spE X x = 0) (hb : PgM.Pg.spB a = true) (hf : PgM.Pg.fF (spM X x) (PgM.Pg.spP a) = false) : Calls Tryz.prog 53 #[.agg #[.int .i64 t, .int .u64 ke, .int .u64 ro, .slice ao n cap], .agg C, .int .u64 a] w fun e w' => e = .returned (.tuple #[.agg zM, .int .u64 0, .int .i64 13]) ∧ Below w.heap.size w w' := by
 have hz := h.thr.size
 obtain ⟨g0, g1, gz⟩ := sp_ref h.thr
 have hzg : (Tryz.prog.info? 25).map (·.size) = some (#[.int .i64 t, .int .u64 ke, .int .u64 ro, .slice ao n cap] : Array Value).size := by kernel_rfl
 have hse := fun (W : World) (hk : Below w.heap.size w W) => ((see_face (t := t) (ke := ke) (ro := ro) (kd := 3) (h.next hk).obs h.srt h.len h.sml (h.next hk).thr h.lab g0 g1 gz).mono (fun _ _ q => tellX hk q))
 change ∀ (W : World) (_ : Below w.heap.size w W), Calls Tryz.prog _ _ W (fun e w' => ∃ C', e = .returned (.tuple #[.agg C', .int .i64 (spE X x)]) ∧ ObD (LtN w') w' C' (resO (spE X x) (fO X x.th.si)) ∧ Below W.heap.size W w') at hse
 rw [hE] at hse
 have hsf := sp_fit h.snd hE
 have hres : resO 0 (fO X x.th.si) = fO X x.th.si := rfl
 rw [hres] at hse
 clear hres hE
 have hfi := fun (W : World) (ao : Option Addr) (n cap : Nat) (l : MpD (LtN W) W ao n cap (spM X x)) => PgM.find_any (show PgM.Mps W.heap.size W ao n cap (spM X x) from l) hsf (PgM.Pg.spP a)
 have hsp := fun (W : World) => PgM.split_any a ha.1 ha.2 W
 have ga9 := Tryz.isAgg29
 rw [hb] at hsp
 rw [hf] at hfi
 obtain ⟨M, hMM⟩ : ∃ M, PgM.mpV (PgM.Pg.fM (spM X x) (PgM.Pg.spP a)) = M := ⟨_, rfl⟩
 have hM : M.size = 6 := by rw [← hMM]; rfl
 have hMz : zM.size = M.size := by rw [hM]; rfl
 have oneM : M.all (·.oneCell') = true := by rw [← hMM]; exact mpV_one _
 rw [hMM] at hfi
 clear hMM
 generalize PgM.Pg.fN (spM X x) (PgM.Pg.spP a) = f at hfi
 have hmE : (fO X x.th.si).maps = spM X x := rfl
 generalize fO X x.th.si = oS at hse hmE
 generalize spM X x = lM at hfi hmE
 subst hmE
 obtain ⟨D, hD⟩ : ∃ D : Array Value, D = #[.int .i64 t, .int .u64 ke, .int .u64 ro, .slice ao n cap] := ⟨_, rfl⟩
 rw [← hD] at hse hzg
 rw [← hD]
 clear hD
 go_enter Tryz.func53, Tryz.ntmps53
 go_wp2_with (first
  | go_skip
  | (with_reducible refine wpList_box rfl 25 _ rfl D rfl ?_; intro B V1 hNB hB hk)
  | (with_reducible refine wpList_box rfl 43 _ rfl C rfl ?_; intro T V2 hNT hT hk2; replace hB := hB.next hk2; replace hk := hk.trans (hk2.mono hk.size); clear hk2)
  | ((with_reducible refine wpList_alloc rfl 71 rfl zM zeroM ?_); have hx := oM; clear hx oM; intro Q VQ hNQ hQa hkq; have nQ : Hid (R < Q ∧ P1 < Q ∧ w.heap.size ≤ Q) := (by have := hNQ.out.1; have := hR.lt; have := hP1.lt; have := hk.size; exact ⟨by omega, by omega, by omega⟩); replace hB := hB.next hkq; replace hT := hT.next hkq; replace hR := hR.next hkq; replace hP1 := hP1.next hkq; replace oG1 := oG1.next hkq; replace hk := hk.trans (hkq.mono hk.size); clear hkq)
  | ((with_reducible refine wpList_alloc rfl 71 rfl zM zeroM ?_); intro R V3 hNR hR hk3; replace hB := hB.next hk3; replace hT := hT.next hk3; replace hk := hk.trans (hk3.mono hk.size); clear hk3)
  | (with_reducible refine wpList_loadb (by kernel_rfl) 25 _ rfl B rfl D hB _ Tryz.underlying25 (by kernel_rfl) hzg ?_)
  | (with_reducible refine wpList_loadb (by kernel_rfl) 43 _ rfl T rfl C hT _ Tryz.underlying43 (by kernel_rfl) (size40C hz) ?_)
  | (with_reducible refine wpList_load_part rfl 32 _ rfl T 26 2 rfl C _ hT (by rw [hz]; decide) _ Tryz.underlying32 rfl infoR2 ?_)
  | (go_at_call 54; (with_reducible refine (hse _ hk).mono ?_); rintro e w4 ⟨CF1, rfl, oF1, hb1⟩)
  | ((with_reducible refine wpList_alloc rfl 43 rfl zC zero40 ?_); have hx := oF1; intro P1 U1 hN21 hPa1 hka1; clear hx)
  | ((with_reducible refine wpList_store_blk rfl _ _ _ rfl P1 rfl CF1 rfl zC hPa1 (size40C oF1.size) (zC_size.trans oF1.size.symm) oF1.one ?_); intro X1 hP1 q1; obtain ⟨hbz, oG1⟩ := laidX hk hb1 oF1 hN21 hka1 q1; have zG1 := oG1.size; clear oF1 hb1 hN21 hka1 q1 hPa1; have nw1 : Hid (w.heap.size ≤ _) := hk.size; replace hB := hB.next hbz; replace hT := hT.next hbz; replace hR := hR.next hbz; replace hk := hk.trans (hbz.mono hk.size); clear hbz; obtain ⟨am, nm, cm, e7, l7⟩ := oG1.maps; skip)
  | (with_reducible refine wpList_loadb (by kernel_rfl) 43 _ rfl P1 rfl CF1 hP1 _ Tryz.underlying43 (by kernel_rfl) (size40C zG1) ?_)
  | (go_at_call 75; (with_reducible refine (hsp _).mono ?_); rintro e w5 ⟨rfl, rfl⟩; skip)
  | (with_reducible refine wpList_load1 (by kernel_rfl) _ _ rfl P1 _ rfl _ _ hP1 _ e7 ga9 ?_)
  | (go_at_call 76; (with_reducible refine (hfi _ _ _ _ l7).mono ?_); rintro e w6 ⟨rfl, hb6⟩; replace hB := hB.next hb6; replace hT := hT.next hb6; replace hR := hR.next hb6; replace hP1 := hP1.next hb6; replace oG1 := oG1.next hb6; replace hk := hk.trans (hb6.mono hk.size); clear hb6; have oM := ga9; clear l7; skip)
  | ((with_reducible refine wpList_store_blk rfl _ _ _ rfl Q rfl M rfl zM hQa (infoMp hM) hMz oneM ?_); intro VS hQ qS; replace hR := hR.other qS (Nat.ne_of_lt nQ.out.1); replace hk := qS.below _ _ nQ.out.2.2 hk)
  | ((with_reducible refine wpList_build rfl 71 [] rfl zM ?hf ?_); (case hf => exact built_zM))
  | ((with_reducible refine wpList_store_blk rfl _ _ _ rfl R rfl zM rfl zM hR (infoMp rfl) rfl (by kernel_rfl) ?_); intro V9 hR9 q9))
 exact bodyPost_ret (v := .tuple #[.agg zM, .int .u64 0, .int .i64 13]) (resC3 Tryz.results53 hR9 Tryz.underlying71 rfl (infoMp rfl) rfl rfl rfl) rfl ⟨rfl, q9.below _ _ (by have := hNB.out; have := hNT.out; have := hNR.out; omega) hk⟩
theorem mapped_d {w : World} {t ke ro : Int} {ao : Option Addr} {n cap : Nat} {X : List Ob} {C : Array Value} {x : Ob} {a : Int} (h : Mw w ao n cap X C x) (ha : 0 ≤ a ∧ a ≤ 18446744073709551615) (hE : spE X x = 0) (hb : PgM.Pg.spB a = true) (hf : PgM.Pg.fF (spM X x) (PgM.Pg.spP a) = true) : Calls Tryz.prog 53 #[.agg #[.int .i64 t, .int .u64 ke, .int .u64 ro, .slice ao n cap], .agg C, .int .u64 a] w fun e w' => e = .returned (.tuple #[.agg (PgM.mpV (mpM X x a)), .int .u64 (mpA X x a : Nat), .int .i64 0]) ∧ Below w.heap.size w w' := by
 obtain ⟨f0, f1, r0, r1, hI, hA⟩ := mp_place h.snd hE (a := a) (by unfold mpB; rw [hb, hf]; rfl) ha.1
 have hz := h.thr.size
 obtain ⟨g0, g1, gz⟩ := sp_ref h.thr
 have hzg : (Tryz.prog.info? 25).map (·.size) = some (#[.int .i64 t, .int .u64 ke, .int .u64 ro, .slice ao n cap] : Array Value).size := by kernel_rfl
 have hse := fun (W : World) (hk : Below w.heap.size w W) => ((see_face (t := t) (ke := ke) (ro := ro) (kd := 3) (h.next hk).obs h.srt h.len h.sml (h.next hk).thr h.lab g0 g1 gz).mono (fun _ _ q => tellX hk q))
 change ∀ (W : World) (_ : Below w.heap.size w W), Calls Tryz.prog _ _ W (fun e w' => ∃ C', e = .returned (.tuple #[.agg C', .int .i64 (spE X x)]) ∧ ObD (LtN w') w' C' (resO (spE X x) (fO X x.th.si)) ∧ Below W.heap.size W w') at hse
 rw [hE] at hse
 have hsf := sp_fit h.snd hE
 have hres : resO 0 (fO X x.th.si) = fO X x.th.si := rfl
 rw [hres] at hse
 clear hres hE
 have hfi := fun (W : World) (ao : Option Addr) (n cap : Nat) (l : MpD (LtN W) W ao n cap (spM X x)) => PgM.find_any (show PgM.Mps W.heap.size W ao n cap (spM X x) from l) hsf (PgM.Pg.spP a)
 have hsp := fun (W : World) => PgM.split_any a ha.1 ha.2 W
 have ga9 := Tryz.isAgg29
 rw [hb] at hsp
 rw [hf] at hfi
 unfold mpI at hI
 unfold mpM
 generalize mpA X x a = AA at hI hA ⊢
 generalize PgM.Pg.fN (spM X x) (PgM.Pg.spP a) = f at f0 f1 hI hfi
 generalize PgM.Pg.spW a = r at r0 r1 hI hsp
 have hw1 : IntKind.i64.wrap (16 * f) = 16 * f := by rw [IntKind.wrap_i64]; omega
 have hw2 : IntKind.i64.wrap (16 * f + r) = 16 * f + r := by rw [IntKind.wrap_i64]; omega
 have hw3 : IntKind.u64.wrap (16 * f + r) = 16 * f + r := by rw [IntKind.wrap_u64]; omega
 rw [← hI]
 clear hI hA
 obtain ⟨M, hMM⟩ : ∃ M, PgM.mpV (PgM.Pg.fM (spM X x) (PgM.Pg.spP a)) = M := ⟨_, rfl⟩
 have hM : M.size = 6 := by rw [← hMM]; rfl
 have hMz : zM.size = M.size := by rw [hM]; rfl
 have oneM : M.all (·.oneCell') = true := by rw [← hMM]; exact mpV_one _
 rw [hMM] at hfi ⊢
 clear hMM
 have hmE : (fO X x.th.si).maps = spM X x := rfl
 generalize fO X x.th.si = oS at hse hmE
 generalize spM X x = lM at hfi hmE
 subst hmE
 obtain ⟨D, hD⟩ : ∃ D : Array Value, D = #[.int .i64 t, .int .u64 ke, .int .u64 ro, .slice ao n cap] := ⟨_, rfl⟩
 rw [← hD] at hse hzg
 rw [← hD]
 clear hD
 go_enter Tryz.func53, Tryz.ntmps53
 go_wp2_with (first
  | go_skip
  | (with_reducible refine wpList_box rfl 25 _ rfl D rfl ?_; intro B V1 hNB hB hk)
  | (with_reducible refine wpList_box rfl 43 _ rfl C rfl ?_; intro T V2 hNT hT hk2; replace hB := hB.next hk2; replace hk := hk.trans (hk2.mono hk.size); clear hk2)
  | ((with_reducible refine wpList_alloc rfl 71 rfl zM zeroM ?_); have hx := oM; clear hx oM; intro Q VQ hNQ hQa hkq; have nQ : Hid (R < Q ∧ P1 < Q ∧ w.heap.size ≤ Q) := (by have := hNQ.out.1; have := hR.lt; have := hP1.lt; have := hk.size; exact ⟨by omega, by omega, by omega⟩); replace hB := hB.next hkq; replace hT := hT.next hkq; replace hR := hR.next hkq; replace hP1 := hP1.next hkq; replace oG1 := oG1.next hkq; replace hk := hk.trans (hkq.mono hk.size); clear hkq)
  | ((with_reducible refine wpList_alloc rfl 71 rfl zM zeroM ?_); intro R V3 hNR hR hk3; replace hB := hB.next hk3; replace hT := hT.next hk3; replace hk := hk.trans (hk3.mono hk.size); clear hk3)
  | (with_reducible refine wpList_loadb (by kernel_rfl) 25 _ rfl B rfl D hB _ Tryz.underlying25 (by kernel_rfl) hzg ?_)
  | (with_reducible refine wpList_loadb (by kernel_rfl) 43 _ rfl T rfl C hT _ Tryz.underlying43 (by kernel_rfl) (size40C hz) ?_)
  | (with_reducible refine wpList_load_part rfl 32 _ rfl T 26 2 rfl C _ hT (by rw [hz]; decide) _ Tryz.underlying32 rfl infoR2 ?_)
  | (go_at_call 54; (with_reducible refine (hse _ hk).mono ?_); rintro e w4 ⟨CF1, rfl, oF1, hb1⟩)
  | ((with_reducible refine wpList_alloc rfl 43 rfl zC zero40 ?_); have hx := oF1; intro P1 U1 hN21 hPa1 hka1; clear hx)
  | ((with_reducible refine wpList_store_blk rfl _ _ _ rfl P1 rfl CF1 rfl zC hPa1 (size40C oF1.size) (zC_size.trans oF1.size.symm) oF1.one ?_); intro X1 hP1 q1; obtain ⟨hbz, oG1⟩ := laidX hk hb1 oF1 hN21 hka1 q1; have zG1 := oG1.size; clear oF1 hb1 hN21 hka1 q1 hPa1; have nw1 : Hid (w.heap.size ≤ _) := hk.size; replace hB := hB.next hbz; replace hT := hT.next hbz; replace hR := hR.next hbz; replace hk := hk.trans (hbz.mono hk.size); clear hbz; obtain ⟨am, nm, cm, e7, l7⟩ := oG1.maps; skip)
  | (with_reducible refine wpList_loadb (by kernel_rfl) 43 _ rfl P1 rfl CF1 hP1 _ Tryz.underlying43 (by kernel_rfl) (size40C zG1) ?_)
  | (go_at_call 75; (with_reducible refine (hsp _).mono ?_); rintro e w5 ⟨rfl, rfl⟩; skip)
  | (with_reducible refine wpList_load1 (by kernel_rfl) _ _ rfl P1 _ rfl _ _ hP1 _ e7 ga9 ?_)
  | (go_at_call 76; (with_reducible refine (hfi _ _ _ _ l7).mono ?_); rintro e w6 ⟨rfl, hb6⟩; replace hB := hB.next hb6; replace hT := hT.next hb6; replace hR := hR.next hb6; replace hP1 := hP1.next hb6; replace oG1 := oG1.next hb6; replace hk := hk.trans (hb6.mono hk.size); clear hb6; have oM := ga9; clear l7; skip)
  | ((with_reducible refine wpList_store_blk rfl _ _ _ rfl Q rfl M rfl zM hQa (infoMp hM) hMz oneM ?_); intro VS hQ qS; replace hR := hR.other qS (Nat.ne_of_lt nQ.out.1); replace hk := qS.below _ _ nQ.out.2.2 hk)
  | (with_reducible refine wpList_loadb (by kernel_rfl) 71 _ rfl Q rfl M hQ _ Tryz.underlying71 (by kernel_rfl) (infoMp hM) ?_)
  | ((with_reducible refine wpList_store_blk rfl _ _ _ rfl R rfl M rfl zM hR (infoMp hM) hMz oneM ?_); intro V9 hR9 q9))
 exact bodyPost_ret (v := .tuple #[.agg M, .int .u64 (16 * f + r), .int .i64 0]) (resC3 Tryz.results53 hR9 Tryz.underlying71 rfl (infoMp hM) rfl rfl rfl) rfl ⟨rfl, q9.below _ _ (by have := hNB.out; have := hNT.out; have := hNR.out; omega) hk⟩
theorem mapped_v {w : World} {t ke ro : Int} {ao : Option Addr} {n cap : Nat} {X : List Ob} {C : Array Value} {x : Ob} {a : Int} (h : Mw w ao n cap X C x) (ha : 0 ≤ a ∧ a ≤ 18446744073709551615) : Calls Tryz.prog 53 #[.agg #[.int .i64 t, .int .u64 ke, .int .u64 ro, .slice ao n cap], .agg C, .int .u64 a] w fun e w' => e = .returned (.tuple #[.agg (if mpE X x a = 0 then PgM.mpV (mpM X x a) else zM), .int .u64 (if mpE X x a = 0 then (mpA X x a : Nat) else 0), .int .i64 (mpE X x a)]) ∧ Below w.heap.size w w' := by
 by_cases hE : spE X x = 0
 ·by_cases hb : mpB X x a = true
  ·have hm : mpE X x a = 0 := by unfold mpE; rw [if_pos hE, if_pos hb]
   rw [if_pos hm, if_pos hm, hm]
   unfold mpB at hb
   rw [Bool.and_eq_true] at hb
   exact mapped_d h ha hE hb.1 hb.2
  ·have hm : mpE X x a = 13 := by unfold mpE; rw [if_pos hE, if_neg hb]
   rw [if_neg (by rw [hm]; decide), if_neg (by rw [hm]; decide), hm]
   unfold mpB at hb
   cases q : PgM.Pg.spB a with
   | false => exact mapped_b h ha hE q
   | true => 
    rw [q, Bool.true_and] at hb
    exact mapped_c h ha hE q (by simpa using hb)
 ·have hm : mpE X x a = spE X x := by unfold mpE; rw [if_neg hE]
  rw [if_neg (by rw [hm]; exact hE), if_neg (by rw [hm]; exact hE), hm]
  exact mapped_a h ha hE
end Go.Proofs.YtiiaohejldchdaaGreat
namespace Go.Proofs.YtiiaohejldchdaaGreat
set_option maxRecDepth 100000
set_option maxHeartbeats 8000000
open Go.RowKit Go.Shelf
set_option linter.unusedVariables false
attribute [local go_sem] Oper.semAt_some

structure PlD (F C : Array Value) (p : Nat) (b : Bool) : Prop where
 size : F.size = 53
 one : F.all (·.oneCell') = true
 obj : F.extract 0 (0 + 51) = C
 at' : F[51]? = some (.int .u64 (p : Int))
 wr : F[52]? = some (.bool b)
def zPl : Array Value := zC ++ #[.int .u64 0, .bool false]
theorem zPl_size : zPl.size = 53 := by kernel_rfl
theorem zeroPl (w : World) : (zeroValue 63).run Tryz.prog w = .ok (.agg zPl) w := by kernel_rfl
theorem built_zPl : Tryz.prog.built 63 [] = some zPl := by kernel_rfl
theorem infoPl {F : Array Value} (h : F.size = 53) : (Tryz.prog.info? 63).map (·.size) = some F.size := by rw [h]; kernel_rfl
theorem zPl_d : PlD zPl zC (0 : Nat) false := ⟨zPl_size, by kernel_rfl, by kernel_rfl, by kernel_rfl, by kernel_rfl⟩
theorem pl_fill (parts : List (Nat × Value)) : Tryz.prog.built 63 parts = Instr.fill (fun i => (#[(0, 51), (51, 1), (52, 1)] : Array (Nat × Nat))[i]?) zPl parts := by kernel_rfl
theorem built_p {C : Array Value} (hC : C.size = 51) (ho : C.all (·.oneCell') = true) (p : Nat) (b : Bool) : ∃ F, Tryz.prog.built 63 [(0, .agg C), (1, .int .u64 (p : Int)), (2, .bool b)] = some F ∧ PlD F C p b := by
 obtain ⟨a1, a2⟩ := fill_get 0 C.toList 0 zPl (by rw [zPl_size]; simp [hC])
 obtain ⟨K, hK⟩ : ∃ K, ((C.toList.zipIdx 0).foldl (fun (c : Array Value) (q : Value × Nat) => c.setIfInBounds (0 + q.2) q.1) zPl) = K := ⟨_, rfl⟩
 rw [hK] at a1 a2
 have hKs : K.size = 53 := a1.trans zPl_size
 have hb : Tryz.prog.built 63 [(0, .agg C), (1, .int .u64 (p : Int)), (2, .bool b)] = some ((K.setIfInBounds 51 (.int .u64 (p : Int))).setIfInBounds 52 (.bool b)) := by
  rw [pl_fill, fill_step (o := 0) (n := 51) rfl hC (by rw [zPl_size, hC]; decide), hK]
  simp [Instr.fill, Value.cells, hKs]
 have hg : ∀ i, ((K.setIfInBounds 51 (.int .u64 (p : Int))).setIfInBounds 52 (.bool b))[i]? = if 52 = i then some (.bool b) else if 51 = i then some (.int .u64 (p : Int)) else K[i]? := fun i => by
  rw [set_at (by simp [hKs]), set_at (by omega)]
 have hlow : ∀ i, i < 51 → K[i]? = C[i]? := fun i hi => by
  rw [a2 i, if_pos (by simp [hC]; omega)]
  simp
 refine ⟨_, hb, by simp [hKs], ?_, ?_, ?_, ?_⟩
 ·apply all_ext
  intro j v e
  rw [hg j] at e
  split at e
  ·cases e; rfl
  ·split at e
   ·cases e; rfl
   ·have hj : j < 51 := by
     have : j < K.size := (Array.getElem?_eq_some_iff.1 e).1
     omega
    rw [hlow j hj] at e
    exact all_get ho e
 ·apply Array.ext_getElem?
  intro i
  by_cases hi : i < 51
  ·rw [ext_get (by simp [hKs]) hi, hg, if_neg (by omega), if_neg (by omega), Nat.zero_add, hlow i hi]
  ·rw [Array.getElem?_eq_none (by simp; omega), Array.getElem?_eq_none (by omega)]
 ·rw [hg, if_neg (by decide), if_pos rfl]
 ·rw [hg, if_pos rfl]
structure ObF (N M : Nat) (W : World) (C : Array Value) (x : Ob) : Prop where
 ob : ObD (fun b => N ≤ b ∧ b < M) W C x
 top : M ≤ W.heap.size
section
variable {N M : Nat} {w W W' : World} {C : Array Value} {x : Ob}
theorem ObF.next (h : ObF N M W C x) (k : Below W.heap.size W W') : ObF N M W' C x := ⟨ObD.laterK h.ob fun b hb => k.block b (Nat.lt_of_lt_of_le hb.2 h.top), Nat.le_trans h.top k.size⟩
theorem ObF.other {R : Nat} (h : ObF N M W C x) (k : Oth R W W') (hR : R < N) : ObF N M W' C x := ⟨ObD.laterK h.ob fun b hb => k.block b (by have := hb.1; omega), by rw [k.size]; exact h.top⟩
theorem ObF.above {R : Nat} (h : ObF N M W C x) (k : Oth R W W') (hR : M ≤ R) : ObF N M W' C x := ⟨ObD.laterK h.ob fun b hb => k.block b (by have := hb.2; omega), by rw [k.size]; exact h.top⟩
theorem ObF.lt (h : ObF N M W C x) : ObD (LtN W) W C x := ObD.wide h.ob fun b hb => Nat.lt_of_lt_of_le hb.2 h.top
theorem ObF.new (h : ObF N M W C x) (k : w.heap.size ≤ N) : ObD (New w W) W C x := ObD.wide h.ob fun b hb => ⟨Nat.le_trans k hb.1, Nat.lt_of_lt_of_le hb.2 h.top⟩
theorem ObF.size (h : ObF N M W C x) : C.size = 51 := h.ob.size
theorem ObF.one (h : ObF N M W C x) : C.all (·.oneCell') = true := h.ob.one
end
theorem laidF {W2 w3 W4 V4 : World} {P : Nat} {C : Array Value} {x : Ob} (hb3 : Below W2.heap.size W2 w3) (oF : ObD (New W2 w3) w3 C x) (hN4 : Hid (w3.heap.size = P ∧ W4.heap.size = P + 1)) (hk4 : Below w3.heap.size w3 W4) (q4 : Oth P W4 V4) : Below W2.heap.size W2 V4 ∧ ObF W2.heap.size w3.heap.size V4 C x := by
 have h1 := hN4.out
 have h2 := hb3.size
 have h3 := q4.size
 refine ⟨q4.below _ _ (by omega) (hb3.trans (hk4.mono h2)), oF.laterK fun b hb => ?_, by omega⟩
 have h5 := hb.2
 rw [q4.block b (by omega), hk4.block b h5]
section
variable {op : Oper} {rest : List Oper} {ops : Array Oper} {a : Act} {w : World} {Q : Exit → Act → World → Prop} {P : Program}
theorem wpList_part (hw : Region.wanted op (yielded ops a.tmps) = true) (ty : TypeId) (x : Operand) (ho : op.op = .load ty x) (B o n : Nat) (hx : a.eval x = .pointer (some ⟨B, o, none⟩)) (F C : Array Value) (t : TypeId) (hB : Blk w B F t) (hF : F.extract o (o + n) = C) (hz : C.size = n) (d : TypeDesc)
  (hu : Tryz.prog.underlying ty = some d) (hd : d.isRow = true) (hi : (Tryz.prog.info? ty).map (·.size) = some C.size) (h : wpList Tryz.prog ops Q rest (a.put op.dst (.agg C)) w) : wpList Tryz.prog ops Q (op :: rest) a w := by
 have hr : w.rangeAt B o C.toList := by rw [← hF]; exact hB.range o n
 exact wpList_loadm hw ty x ho B o hx C hr d hu hd hi h
end
theorem word_v {w : World} {F C : Array Value} {x : Ob} {p : Nat} {b : Bool} (hF : PlD F C p b) (h : ObD (LtN w) w C x) (hp : p < 18446744073709551616) : Calls Tryz.prog 26 #[.agg F] w fun e w' => e = .returned (.tuple #[.int .u64 (gtV x p), .int .i64 (wpl x p)]) ∧ Below w.heap.size w w' := by
 have hz := h.size
 have hf := hF.size
 have ho := hF.obj
 have ha := hF.at'
 have ga1 := Tryz.isAgg22
 have hge := fun (W : World) (hk : Below w.heap.size w W) => sget_any (h.next hk) hp
 obtain ⟨u, hu⟩ : ∃ u, Hid (gtV x p = u) := ⟨_, rfl⟩
 obtain ⟨v, hv⟩ : ∃ v, Hid (wpl x p = v) := ⟨_, rfl⟩
 simp only [hu.out, hv.out] at hge ⊢
 go_enter Tryz.func26, Tryz.ntmps26
 go_wp2_with (first
  | go_skip
  | (with_reducible refine wpList_box rfl 63 _ rfl F rfl ?_; intro B V1 hNB hB hk)
  | (with_reducible refine wpList_part (by kernel_rfl) 43 _ rfl B 0 51 rfl F C _ hB ho hz _ Tryz.underlying43 rfl (size40C hz) ?_)
  | (with_reducible refine wpList_load1 (by kernel_rfl) _ _ rfl B _ rfl _ _ hB _ ha ga1 ?_)
  | (go_at_call 57; (with_reducible refine (hge _ hk).mono ?_); rintro e w2 ⟨rfl, hb3⟩; replace hB := hB.next hb3; replace hk := hk.trans (hb3.mono hk.size); clear hb3; skip))
 exact bodyPost_ret (results_tmp2 Tryz.results26 _ _ _) rfl ⟨rfl, hk⟩
theorem takes_v {w : World} {F C : Array Value} {x : Ob} {p : Nat} {b : Bool} (hF : PlD F C p b) (h : ObD (LtN w) w C x) {T : Array Value} {t : Ob} (ht : ObD (LtN w) w T t) (hl : t.label.length < 1048576) : Calls Tryz.prog 27 #[.agg F, .agg T] w fun e w' => e = .returned (.bool (b && leqB t.label x.label)) ∧ Below w.heap.size w w' := by
 have hz := ht.size
 have hf := hF.size
 have hwr := hF.wr
 have ga3 := Tryz.isAgg4
 have ga0 := Tryz.isAgg27
 obtain ⟨a2, n2, c2, e2, l2⟩ := ht.label
 obtain ⟨a3, n3, c3, e3, l3⟩ := h.label
 have e4 : F[2]? = some (.slice a3 n3 c3) := by rw [← e3, ← hF.obj, ext_get (by omega) (by decide)]
 have hle := fun (W : World) (hk : Below w.heap.size w W) => lleq_any (B := 0) (LabD.lab' l2 hk) (LabD.lab' l3 hk)
 cases b
 ·go_enter Tryz.func27, Tryz.ntmps27
  go_wp2_with (first
   | go_skip
   | (with_reducible refine wpList_box rfl 63 _ rfl F rfl ?_; intro B V1 hNB hB hk)
   | (with_reducible refine wpList_box rfl 43 _ rfl T rfl ?_; intro O V2 hNO hO hk2; replace hB := hB.next hk2; replace hk := hk.trans (hk2.mono hk.size); clear hk2)
   | (with_reducible refine wpList_load1 (by kernel_rfl) _ _ rfl B _ rfl _ _ hB _ hwr ga3 ?_)
   | (with_reducible refine wpList_load1 (by kernel_rfl) _ _ rfl O _ rfl _ _ hO _ e2 ga0 ?_)
   | (with_reducible refine wpList_load1 (by kernel_rfl) _ _ rfl B _ rfl _ _ hB _ e4 ga0 ?_)
   | (go_at_call 58; (with_reducible refine (hle _ hk).mono ?_); rintro e w3 ⟨rfl, hb3⟩; replace hB := hB.next hb3; replace hO := hO.next hb3; replace hk := hk.trans (hb3.mono hk.size); clear hb3; skip))
  go_ret
  exact ⟨rfl, hk⟩
 ·rw [Bool.true_and]
  go_enter Tryz.func27, Tryz.ntmps27
  go_wp2_with (first
   | go_skip
   | (with_reducible refine wpList_box rfl 63 _ rfl F rfl ?_; intro B V1 hNB hB hk)
   | (with_reducible refine wpList_box rfl 43 _ rfl T rfl ?_; intro O V2 hNO hO hk2; replace hB := hB.next hk2; replace hk := hk.trans (hk2.mono hk.size); clear hk2)
   | (with_reducible refine wpList_load1 (by kernel_rfl) _ _ rfl B _ rfl _ _ hB _ hwr ga3 ?_)
   | (with_reducible refine wpList_load1 (by kernel_rfl) _ _ rfl O _ rfl _ _ hO _ e2 ga0 ?_)
   | (with_reducible refine wpList_load1 (by kernel_rfl) _ _ rfl B _ rfl _ _ hB _ e4 ga0 ?_)
   | (go_at_call 58; (with_reducible refine (hle _ hk).mono ?_); rintro e w3 ⟨rfl, hb3⟩; replace hB := hB.next hb3; replace hO := hO.next hb3; replace hk := hk.trans (hb3.mono hk.size); clear hb3; skip))
  go_ret
  exact ⟨rfl, hk⟩
theorem with_v {w : World} {F C : Array Value} {x : Ob} {p : Nat} {b : Bool} (hF : PlD F C p b) (h : ObD (LtN w) w C x) (hs : Small x) (hx : x.kind = 1 → x = sgO x.id x.label x.quota x.fixed x.data) (hp : p < 18446744073709551616) {v : Int} : Calls Tryz.prog 30 #[.agg F, .int .u64 v] w fun e w' => ∃ C', e = .returned (.agg C') ∧ ObD (New w w') w' C' (putO x p v) ∧ Below w.heap.size w w' := by
 have hz := h.size
 have hf := hF.size
 have ho := hF.obj
 have ha := hF.at'
 have ga1 := Tryz.isAgg22
 have hpu := fun (W : World) (hk : Below w.heap.size w W) => sput_n (h.next hk) hs hx hp (v := v)
 obtain ⟨z, hzz⟩ : ∃ z, Hid (wpl x p = z) := ⟨_, rfl⟩
 simp only [hzz.out] at hpu
 generalize putO x p v = y at hpu ⊢
 go_enter Tryz.func30, Tryz.ntmps30
 go_wp2_with (first
  | go_skip
  | (with_reducible refine wpList_box rfl 63 _ rfl F rfl ?_; intro B V1 hNB hB hk)
  | ((with_reducible refine wpList_alloc rfl 43 rfl zC zero40 ?_); have hx := oF1; intro P1 U1 hN21 hPa1 hka1; clear hx)
  | ((with_reducible refine wpList_alloc rfl 43 rfl zC zero40 ?_); intro R V2 hNR hR hk2; replace hB := hB.next hk2; replace hk := hk.trans (hk2.mono hk.size); clear hk2)
  | (with_reducible refine wpList_part (by kernel_rfl) 43 _ rfl B 0 51 rfl F C _ hB ho hz _ Tryz.underlying43 rfl (size40C hz) ?_)
  | (with_reducible refine wpList_load1 (by kernel_rfl) _ _ rfl B _ rfl _ _ hB _ ha ga1 ?_)
  | (go_at_call 62; (with_reducible refine (hpu _ hk).mono ?_); rintro e w3 ⟨CF1, rfl, oF1, hb1⟩)
  | ((with_reducible refine wpList_store_blk rfl _ _ _ rfl P1 rfl CF1 rfl zC hPa1 (size40C oF1.size) (zC_size.trans oF1.size.symm) oF1.one ?_); intro X1 hP1 q1; obtain ⟨hbz, oG1⟩ := laidF hb1 oF1 hN21 hka1 q1; have zG1 := oG1.size; clear oF1 hb1 hN21 hka1 q1 hPa1; have nw1 : Hid (w.heap.size ≤ _) := hk.size; have nR1 : Hid (R < _) := hR.lt; replace hB := hB.next hbz; replace hR := hR.next hbz; replace hk := hk.trans (hbz.mono hk.size); clear hbz; skip)
  | (with_reducible refine wpList_loadb (by kernel_rfl) 43 _ rfl P1 rfl CF1 hP1 _ Tryz.underlying43 (by kernel_rfl) (size40C zG1) ?_)
  | ((with_reducible refine wpList_store_blk rfl _ _ _ rfl R rfl CF1 rfl zC hR (size40C zG1) (zC_size.trans zG1.symm) oG1.one ?_); intro V9 hR9 q9))
 have hRw : w.heap.size ≤ R := by have := hNB.out; have := hNR.out; omega
 refine bodyPost_ret (v := .agg CF1) (res40 Tryz.results30 rfl hR9 zG1) rfl ⟨CF1, rfl, (oG1.other q9 nR1.out).new nw1.out, q9.below _ _ hRw hk⟩
end Go.Proofs.YtiiaohejldchdaaGreat
