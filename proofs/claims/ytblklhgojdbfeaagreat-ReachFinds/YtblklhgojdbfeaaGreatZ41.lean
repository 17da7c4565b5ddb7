/-
 PROVED HERE: what the document's See and Change return when they are called (contracts over this translation); plain facts . What is asked stands at each.
-/
import Derived.Test.YtblklhgojdbfeaaGreatZ39
import Derived.Test.YtblklhgojdbfeaaGreatZ40
namespace Go.Proofs.YtblklhgojdbfeaaGreat
set_option maxRecDepth 100000
set_option maxHeartbeats 8000000
open Go.RowKit Go.Shelf
set_option linter.unusedVariables false
attribute [local go_sem] Oper.semAt_some

theorem cha_see (X : List Ob) (L : Lb) (c i kd : Int) : chaE X L c i kd = if seeE X L c i kd = 0 then (if chgB L (fO X i) = true then 0 else 2) else seeE X L c i kd := by
 unfold chaE seeE
 rcases all_cases X L c i kd (seeB L) with h | h | h | h
 ·rw [if_pos h.1]
  cases m : chgB L (fO X i) with
  | true => rw [if_pos rfl, all_ok h.2.1 h.2.2.1 m]
  | false => rw [if_neg (by decide), all_lab h.2.1 h.2.2.1 m]
 ·rw [h.1, if_neg (by decide), all_err (by rw [h.2]; decide), h.2]
 ·rw [h.1, if_neg (by decide), all_kind h.2.1 h.2.2]
 ·have m : chgB L (fO X i) = false := by unfold chgB; rw [h.2.2.2]; rfl
  rw [h.1, if_neg (by decide), all_lab h.2.1 h.2.2.1 m]
theorem rsee_a {w V0 : World} {t ke ro : Int} {ao : Option Addr} {n cap : Nat} {X : List Ob} {C : Array Value} {x : Ob} {G : Array Value} {c i kd : Int} (h : Rw w ao n cap X) (hk0 : Below w.heap.size w V0) (hx : ObD (LtN w) w C x) (fx : LbF x.label) (g0 : G[0]? = some (.int .u64 c)) (g1 : G[1]? = some (.int .u64 i)) (gz : G.size = 2) (hln : ∀ d ∈ X, ∀ j ∈ d.links, (fnd X j).isSome = true) (hl : lokE X x.label c i ≠ 0) (hE : seeE X x.label c i kd = lokE X x.label c i) : Calls Tryz.prog 11 #[.agg #[.int .i64 t, .int .u64 ke, .int .u64 ro, .slice ao n cap], .agg C, .agg G, .int .i64 kd] V0 (Rtl (seeE X x.label c i kd) (fO X i) w V0) := by
 rw [hE]
 clear hE
 have hz := hx.size
 have hzg : (Tryz.prog.info? 25).map (·.size) = some (#[.int .i64 t, .int .u64 ke, .int .u64 ro, .slice ao n cap] : Array Value).size := by kernel_rfl
 have ga2 := Tryz.isAgg3
 have ga1 := Tryz.isAgg22
 have hzr : (Tryz.prog.info? 32).map (·.size) = some G.size := by rw [gz]; kernel_rfl
 have hlo := fun (W : World) (hk : Below w.heap.size w W) => rlook_v (t := t) (ke := ke) (ro := ro) h hk hx fx g0 g1 gz hln
 have HE : Hid (lokE X x.label c i ≠ 0) := hl
 clear hl
 generalize lokE X x.label c i = ek at hlo HE ⊢
 have hb0 : (ek != 0) = true := by simpa using HE.out
 obtain ⟨D, hD⟩ : ∃ D : Array Value, D = #[.int .i64 t, .int .u64 ke, .int .u64 ro, .slice ao n cap] := ⟨_, rfl⟩
 rw [← hD] at hzg hlo
 rw [← hD]
 clear hD
 go_enter Tryz.func11, Tryz.ntmps11
 go_wp2_with (first
  | go_skip
  | (with_reducible refine wpList_box rfl 25 _ rfl D rfl ?_; intro B W1 hN1 hB hj)
  | (with_reducible refine wpList_box rfl 43 _ rfl C rfl ?_; intro T W3 hN3 hT hk3; replace hB := hB.next hk3; replace hj := hj.trans (hk3.mono hj.size); clear hk3)
  | (with_reducible refine wpList_box rfl 32 _ rfl G rfl ?_; intro Q W8 hN8 hQ hk8; replace hB := hB.next hk8; replace hT := hT.next hk8; replace hj := hj.trans (hk8.mono hj.size); clear hk8)
  | ((with_reducible refine wpList_alloc rfl _ rfl zC zero40 ?_); have hxx := oF; intro P W4 hN4 hP hk4; clear hxx)
  | ((with_reducible refine wpList_alloc rfl _ rfl zC zero40 ?_); intro R W2 hN2 hR hk2; replace hB := hB.next hk2; replace hT := hT.next hk2; replace hQ := hQ.next hk2; replace hj := hj.trans (hk2.mono hj.size); clear hk2)
  | (with_reducible refine wpList_loadb (by kernel_rfl) 25 _ rfl B rfl D hB _ Tryz.underlying25 (by kernel_rfl) hzg ?_)
  | (with_reducible refine wpList_loadb (by kernel_rfl) 43 _ rfl T rfl C hT _ Tryz.underlying43 (by kernel_rfl) (size40C hz) ?_)
  | (with_reducible refine wpList_loadb (by kernel_rfl) 32 _ rfl Q rfl G hQ _ Tryz.underlying32 (by kernel_rfl) hzr ?_)
  | (go_at_call 9; (with_reducible refine (hlo _ (hk0.trans (hj.mono hk0.size))).mono ?_); rintro e w3 ⟨CF, rfl, oF, hb3⟩)
  | ((with_reducible refine wpList_store_blk rfl _ _ _ rfl P rfl CF rfl zC hP (size40C oF.size) (zC_size.trans oF.size.symm) oF.one ?_); intro V4 hP4 q4; obtain ⟨hb5, oG⟩ := laidL (hk0.trans (hj.mono hk0.size)) hb3 oF hN4 hk4 q4; have zG := oG.size; clear oF hb3 hk4 q4 hN4 hP; replace hB := hB.next hb5; replace hT := hT.next hb5; replace hQ := hQ.next hb5; replace hR := hR.next hb5; replace hj := hj.trans (hb5.mono hj.size); clear hb5; skip)
  | (with_reducible refine wpList_load1 (by kernel_rfl) _ _ rfl P _ rfl _ _ hP4 _ k1 ga2 ?_)
  | (with_reducible refine wpList_loadb (by kernel_rfl) 43 _ rfl P rfl CF hP4 _ Tryz.underlying43 (by kernel_rfl) (size40C zG) ?_)
  | ((with_reducible refine wpList_build rfl _ [] rfl zC ?hf ?_); (case hf => exact built_z))
  | ((with_reducible refine wpList_store_blk rfl _ _ _ rfl R rfl zC rfl zC hR (size40C zC_size) rfl (zC_d (fun _ => True) w).one ?_); intro V5 hR5 q5))
 refine bodyPost_ret (v := .tuple #[.agg zC, .int .i64 ek]) (res40b Tryz.results11 rfl rfl hR5 zC_size) rfl ⟨zC, rfl, ?_, q5.below _ _ (by have := hN1.out; have := hN3.out; have := hN8.out; have := hN2.out; omega) hj⟩
 rw [res_err (HE.out)]
 exact zC_d _ _
theorem rsee_b {w V0 : World} {t ke ro : Int} {ao : Option Addr} {n cap : Nat} {X : List Ob} {C : Array Value} {x : Ob} {G : Array Value} {c i kd : Int} (h : Rw w ao n cap X) (hk0 : Below w.heap.size w V0) (hx : ObD (LtN w) w C x) (fx : LbF x.label) (g0 : G[0]? = some (.int .u64 c)) (g1 : G[1]? = some (.int .u64 i)) (gz : G.size = 2) (hln : ∀ d ∈ X, ∀ j ∈ d.links, (fnd X j).isSome = true) (hl : lokE X x.label c i = 0) (hk1 : ¬ kd = 0) (hk2 : ¬ kd = (fO X i).kind) (hE : seeE X x.label c i kd = 3) : Calls Tryz.prog 11 #[.agg #[.int .i64 t, .int .u64 ke, .int .u64 ro, .slice ao n cap], .agg C, .agg G, .int .i64 kd] V0 (Rtl (seeE X x.label c i kd) (fO X i) w V0) := by
 rw [hE]
 clear hE
 have hz := hx.size
 have hzg : (Tryz.prog.info? 25).map (·.size) = some (#[.int .i64 t, .int .u64 ke, .int .u64 ro, .slice ao n cap] : Array Value).size := by kernel_rfl
 have ga2 := Tryz.isAgg3
 have ga1 := Tryz.isAgg22
 have hzr : (Tryz.prog.info? 32).map (·.size) = some G.size := by rw [gz]; kernel_rfl
 have hlo := fun (W : World) (hk : Below w.heap.size w W) => rlook_v (t := t) (ke := ke) (ro := ro) h hk hx fx g0 g1 gz hln
 rw [hl] at hlo
 have k0 : (kd != 0) = true := by simpa using hk1
 have k2 : ((fO X i).kind != kd) = true := by simpa using fun e => hk2 e.symm
 clear hk1 hk2
 clear hl
 obtain ⟨D, hD⟩ : ∃ D : Array Value, D = #[.int .i64 t, .int .u64 ke, .int .u64 ro, .slice ao n cap] := ⟨_, rfl⟩
 rw [← hD] at hzg hlo
 rw [← hD]
 clear hD
 go_enter Tryz.func11, Tryz.ntmps11
 go_wp2_with (first
  | go_skip
  | (with_reducible refine wpList_box rfl 25 _ rfl D rfl ?_; intro B W1 hN1 hB hj)
  | (with_reducible refine wpList_box rfl 43 _ rfl C rfl ?_; intro T W3 hN3 hT hk3; replace hB := hB.next hk3; replace hj := hj.trans (hk3.mono hj.size); clear hk3)
  | (with_reducible refine wpList_box rfl 32 _ rfl G rfl ?_; intro Q W8 hN8 hQ hk8; replace hB := hB.next hk8; replace hT := hT.next hk8; replace hj := hj.trans (hk8.mono hj.size); clear hk8)
  | ((with_reducible refine wpList_alloc rfl _ rfl zC zero40 ?_); have hxx := oF; intro P W4 hN4 hP hk4; clear hxx)
  | ((with_reducible refine wpList_alloc rfl _ rfl zC zero40 ?_); intro R W2 hN2 hR hk2; replace hB := hB.next hk2; replace hT := hT.next hk2; replace hQ := hQ.next hk2; replace hj := hj.trans (hk2.mono hj.size); clear hk2)
  | (with_reducible refine wpList_loadb (by kernel_rfl) 25 _ rfl B rfl D hB _ Tryz.underlying25 (by kernel_rfl) hzg ?_)
  | (with_reducible refine wpList_loadb (by kernel_rfl) 43 _ rfl T rfl C hT _ Tryz.underlying43 (by kernel_rfl) (size40C hz) ?_)
  | (with_reducible refine wpList_loadb (by kernel_rfl) 32 _ rfl Q rfl G hQ _ Tryz.underlying32 (by kernel_rfl) hzr ?_)
  | (go_at_call 9; (with_reducible refine (hlo _ (hk0.trans (hj.mono hk0.size))).mono ?_); rintro e w3 ⟨CF, rfl, oF, hb3⟩; replace oF : ObD (LtN w) w3 CF (fO X i) := oF)
  | ((with_reducible refine wpList_store_blk rfl _ _ _ rfl P rfl CF rfl zC hP (size40C oF.size) (zC_size.trans oF.size.symm) oF.one ?_); intro V4 hP4 q4; obtain ⟨hb5, oG⟩ := laidL (hk0.trans (hj.mono hk0.size)) hb3 oF hN4 hk4 q4; have zG := oG.size; clear oF hb3 hk4 q4 hN4 hP; replace hB := hB.next hb5; replace hT := hT.next hb5; replace hQ := hQ.next hb5; replace hR := hR.next hb5; replace hj := hj.trans (hb5.mono hj.size); clear hb5; have k1 := oG.kind; skip)
  | (with_reducible refine wpList_load1 (by kernel_rfl) _ _ rfl P _ rfl _ _ hP4 _ k1 ga2 ?_)
  | (with_reducible refine wpList_loadb (by kernel_rfl) 43 _ rfl P rfl CF hP4 _ Tryz.underlying43 (by kernel_rfl) (size40C zG) ?_)
  | ((with_reducible refine wpList_build rfl _ [] rfl zC ?hf ?_); (case hf => exact built_z))
  | ((with_reducible refine wpList_store_blk rfl _ _ _ rfl R rfl zC rfl zC hR (size40C zC_size) rfl (zC_d (fun _ => True) w).one ?_); intro V5 hR5 q5))
 refine bodyPost_ret (v := .tuple #[.agg zC, .int .i64 3]) (res40b Tryz.results11 rfl rfl hR5 zC_size) rfl ⟨zC, rfl, ?_, q5.below _ _ (by have := hN1.out; have := hN3.out; have := hN8.out; have := hN2.out; omega) hj⟩
 rw [res_err (by decide)]
 exact zC_d _ _
theorem rsee_c0 {w V0 : World} {t ke ro : Int} {ao : Option Addr} {n cap : Nat} {X : List Ob} {C : Array Value} {x : Ob} {G : Array Value} {c i : Int} (h : Rw w ao n cap X) (hk0 : Below w.heap.size w V0) (hx : ObD (LtN w) w C x) (fx : LbF x.label) (g0 : G[0]? = some (.int .u64 c)) (g1 : G[1]? = some (.int .u64 i)) (gz : G.size = 2) (hln : ∀ d ∈ X, ∀ j ∈ d.links, (fnd X j).isSome = true) (hl : lokE X x.label c i = 0) (hf : (fnd X i).isSome = true) (hs : seeB x.label (fO X i) = true) (hE : seeE X x.label c i 0 = 0) : Calls Tryz.prog 11 #[.agg #[.int .i64 t, .int .u64 ke, .int .u64 ro, .slice ao n cap], .agg C, .agg G, .int .i64 0] V0 (Rtl (seeE X x.label c i 0) (fO X i) w V0) := by
 rw [hE]
 clear hE
 have hz := hx.size
 have hzg : (Tryz.prog.info? 25).map (·.size) = some (#[.int .i64 t, .int .u64 ke, .int .u64 ro, .slice ao n cap] : Array Value).size := by kernel_rfl
 have ga2 := Tryz.isAgg3
 have ga1 := Tryz.isAgg22
 have hzr : (Tryz.prog.info? 32).map (·.size) = some G.size := by rw [gz]; kernel_rfl
 have hlo := fun (W : World) (hk : Below w.heap.size w W) => rlook_v (t := t) (ke := ke) (ro := ro) h hk hx fx g0 g1 gz hln
 rw [hl] at hlo
 have hmem := (fO_mem hf).1
 have hsx := h.sml _ hmem
 have hsd := h.snd _ hmem
 have hlb := h.lab _ hmem
 have hse := fun (W : World) (K : Array Value) (hk : Below w.heap.size w W) (hC : ObD (LtN w) W K (fO X i)) => rsees_v (hx.next hk) (ob_up hC hk) fx hsd hsx hlb
 rw [hs] at hse
 clear hl hs hf
 obtain ⟨D, hD⟩ : ∃ D : Array Value, D = #[.int .i64 t, .int .u64 ke, .int .u64 ro, .slice ao n cap] := ⟨_, rfl⟩
 rw [← hD] at hzg hlo
 rw [← hD]
 clear hD
 go_enter Tryz.func11, Tryz.ntmps11
 go_wp2_with (first
  | go_skip
  | (with_reducible refine wpList_box rfl 25 _ rfl D rfl ?_; intro B W1 hN1 hB hj)
  | (with_reducible refine wpList_box rfl 43 _ rfl C rfl ?_; intro T W3 hN3 hT hk3; replace hB := hB.next hk3; replace hj := hj.trans (hk3.mono hj.size); clear hk3)
  | (with_reducible refine wpList_box rfl 32 _ rfl G rfl ?_; intro Q W8 hN8 hQ hk8; replace hB := hB.next hk8; replace hT := hT.next hk8; replace hj := hj.trans (hk8.mono hj.size); clear hk8)
  | ((with_reducible refine wpList_alloc rfl _ rfl zC zero40 ?_); have hxx := oF; intro P W4 hN4 hP hk4; clear hxx)
  | ((with_reducible refine wpList_alloc rfl _ rfl zC zero40 ?_); intro R W2 hN2 hR hk2; replace hB := hB.next hk2; replace hT := hT.next hk2; replace hQ := hQ.next hk2; replace hj := hj.trans (hk2.mono hj.size); clear hk2)
  | (with_reducible refine wpList_loadb (by kernel_rfl) 25 _ rfl B rfl D hB _ Tryz.underlying25 (by kernel_rfl) hzg ?_)
  | (with_reducible refine wpList_loadb (by kernel_rfl) 43 _ rfl T rfl C hT _ Tryz.underlying43 (by kernel_rfl) (size40C hz) ?_)
  | (with_reducible refine wpList_loadb (by kernel_rfl) 32 _ rfl Q rfl G hQ _ Tryz.underlying32 (by kernel_rfl) hzr ?_)
  | (go_at_call 9; (with_reducible refine (hlo _ (hk0.trans (hj.mono hk0.size))).mono ?_); rintro e w3 ⟨CF, rfl, oF, hb3⟩; replace oF : ObD (LtN w) w3 CF (fO X i) := oF)
  | ((with_reducible refine wpList_store_blk rfl _ _ _ rfl P rfl CF rfl zC hP (size40C oF.size) (zC_size.trans oF.size.symm) oF.one ?_); intro V4 hP4 q4; obtain ⟨hb5, oG⟩ := laidL (hk0.trans (hj.mono hk0.size)) hb3 oF hN4 hk4 q4; have zG := oG.size; clear oF hb3 hk4 q4 hN4 hP; replace hB := hB.next hb5; replace hT := hT.next hb5; replace hQ := hQ.next hb5; replace hR := hR.next hb5; replace hj := hj.trans (hb5.mono hj.size); clear hb5; have k1 := oG.kind; skip)
  | (with_reducible refine wpList_load1 (by kernel_rfl) _ _ rfl P _ rfl _ _ hP4 _ k1 ga2 ?_)
  | (with_reducible refine wpList_loadb (by kernel_rfl) 43 _ rfl P rfl CF hP4 _ Tryz.underlying43 (by kernel_rfl) (size40C zG) ?_)
  | (go_at_call 31; (with_reducible refine (hse _ _ (hk0.trans (hj.mono hk0.size)) oG).mono ?_); rintro e w6 ⟨rfl, hb6⟩; have hjo := hj; replace hB := hB.next hb6; replace hT := hT.next hb6; replace hR := hR.next hb6; replace hP4 := hP4.next hb6; replace hj := hj.trans (hb6.mono hj.size); replace oG := ob_lt oG (hk0.trans (hjo.mono hk0.size)) hb6; clear hb6)
  | ((with_reducible refine wpList_build rfl _ [] rfl zC ?hf ?_); (case hf => exact built_z))
  | ((with_reducible refine wpList_store_blk rfl _ _ _ rfl R rfl CF rfl zC hR (size40C zG) (zC_size.trans zG.symm) oG.one ?_); intro V5 hR5 q5))
 obtain ⟨o9, b9⟩ := retL hk0.size hj oG (by have := hN1.out; have := hN3.out; have := hN8.out; have := hN2.out; omega) q5
 exact bodyPost_ret (v := .tuple #[.agg CF, .int .i64 0]) (res40b Tryz.results11 rfl rfl hR5 zG) rfl ⟨CF, rfl, o9, b9⟩
theorem rsee_d0 {w V0 : World} {t ke ro : Int} {ao : Option Addr} {n cap : Nat} {X : List Ob} {C : Array Value} {x : Ob} {G : Array Value} {c i kd : Int} (h : Rw w ao n cap X) (hk0 : Below w.heap.size w V0) (hx : ObD (LtN w) w C x) (fx : LbF x.label) (g0 : G[0]? = some (.int .u64 c)) (g1 : G[1]? = some (.int .u64 i)) (gz : G.size = 2) (hln : ∀ d ∈ X, ∀ j ∈ d.links, (fnd X j).isSome = true) (hl : lokE X x.label c i = 0) (hf : (fnd X i).isSome = true) (hk1 : ¬ kd = 0) (hk2 : kd = (fO X i).kind) (hs : seeB x.label (fO X i) = true) (hE : seeE X x.label c i kd = 0) : Calls Tryz.prog 11 #[.agg #[.int .i64 t, .int .u64 ke, .int .u64 ro, .slice ao n cap], .agg C, .agg G, .int .i64 kd] V0 (Rtl (seeE X x.label c i kd) (fO X i) w V0) := by
 rw [hE]
 clear hE
 have hz := hx.size
 have hzg : (Tryz.prog.info? 25).map (·.size) = some (#[.int .i64 t, .int .u64 ke, .int .u64 ro, .slice ao n cap] : Array Value).size := by kernel_rfl
 have ga2 := Tryz.isAgg3
 have ga1 := Tryz.isAgg22
 have hzr : (Tryz.prog.info? 32).map (·.size) = some G.size := by rw [gz]; kernel_rfl
 have hlo := fun (W : World) (hk : Below w.heap.size w W) => rlook_v (t := t) (ke := ke) (ro := ro) h hk hx fx g0 g1 gz hln
 rw [hl] at hlo
 have hmem := (fO_mem hf).1
 have hsx := h.sml _ hmem
 have hsd := h.snd _ hmem
 have hlb := h.lab _ hmem
 have hse := fun (W : World) (K : Array Value) (hk : Below w.heap.size w W) (hC : ObD (LtN w) W K (fO X i)) => rsees_v (hx.next hk) (ob_up hC hk) fx hsd hsx hlb
 rw [hs] at hse
 have k0 : (kd != 0) = true := by simpa using hk1
 have k2 : ((fO X i).kind != kd) = false := by simpa using hk2.symm
 clear hk1 hk2
 clear hl hs hf
 obtain ⟨D, hD⟩ : ∃ D : Array Value, D = #[.int .i64 t, .int .u64 ke, .int .u64 ro, .slice ao n cap] := ⟨_, rfl⟩
 rw [← hD] at hzg hlo
 rw [← hD]
 clear hD
 go_enter Tryz.func11, Tryz.ntmps11
 go_wp2_with (first
  | go_skip
  | (with_reducible refine wpList_box rfl 25 _ rfl D rfl ?_; intro B W1 hN1 hB hj)
  | (with_reducible refine wpList_box rfl 43 _ rfl C rfl ?_; intro T W3 hN3 hT hk3; replace hB := hB.next hk3; replace hj := hj.trans (hk3.mono hj.size); clear hk3)
  | (with_reducible refine wpList_box rfl 32 _ rfl G rfl ?_; intro Q W8 hN8 hQ hk8; replace hB := hB.next hk8; replace hT := hT.next hk8; replace hj := hj.trans (hk8.mono hj.size); clear hk8)
  | ((with_reducible refine wpList_alloc rfl _ rfl zC zero40 ?_); have hxx := oF; intro P W4 hN4 hP hk4; clear hxx)
  | ((with_reducible refine wpList_alloc rfl _ rfl zC zero40 ?_); intro R W2 hN2 hR hk2; replace hB := hB.next hk2; replace hT := hT.next hk2; replace hQ := hQ.next hk2; replace hj := hj.trans (hk2.mono hj.size); clear hk2)
  | (with_reducible refine wpList_loadb (by kernel_rfl) 25 _ rfl B rfl D hB _ Tryz.underlying25 (by kernel_rfl) hzg ?_)
  | (with_reducible refine wpList_loadb (by kernel_rfl) 43 _ rfl T rfl C hT _ Tryz.underlying43 (by kernel_rfl) (size40C hz) ?_)
  | (with_reducible refine wpList_loadb (by kernel_rfl) 32 _ rfl Q rfl G hQ _ Tryz.underlying32 (by kernel_rfl) hzr ?_)
  | (go_at_call 9; (with_reducible refine (hlo _ (hk0.trans (hj.mono hk0.size))).mono ?_); rintro e w3 ⟨CF, rfl, oF, hb3⟩; replace oF : ObD (LtN w) w3 CF (fO X i) := oF)
  | ((with_reducible refine wpList_store_blk rfl _ _ _ rfl P rfl CF rfl zC hP (size40C oF.size) (zC_size.trans oF.size.symm) oF.one ?_); intro V4 hP4 q4; obtain ⟨hb5, oG⟩ := laidL (hk0.trans (hj.mono hk0.size)) hb3 oF hN4 hk4 q4; have zG := oG.size; clear oF hb3 hk4 q4 hN4 hP; replace hB := hB.next hb5; replace hT := hT.next hb5; replace hQ := hQ.next hb5; replace hR := hR.next hb5; replace hj := hj.trans (hb5.mono hj.size); clear hb5; have k1 := oG.kind; skip)
  | (with_reducible refine wpList_load1 (by kernel_rfl) _ _ rfl P _ rfl _ _ hP4 _ k1 ga2 ?_)
  | (with_reducible refine wpList_loadb (by kernel_rfl) 43 _ rfl P rfl CF hP4 _ Tryz.underlying43 (by kernel_rfl) (size40C zG) ?_)
  | (go_at_call 31; (with_reducible refine (hse _ _ (hk0.trans (hj.mono hk0.size)) oG).mono ?_); rintro e w6 ⟨rfl, hb6⟩; have hjo := hj; replace hB := hB.next hb6; replace hT := hT.next hb6; replace hR := hR.next hb6; replace hP4 := hP4.next hb6; replace hj := hj.trans (hb6.mono hj.size); replace oG := ob_lt oG (hk0.trans (hjo.mono hk0.size)) hb6; clear hb6)
  | ((with_reducible refine wpList_build rfl _ [] rfl zC ?hf ?_); (case hf => exact built_z))
  | ((with_reducible refine wpList_store_blk rfl _ _ _ rfl R rfl CF rfl zC hR (size40C zG) (zC_size.trans zG.symm) oG.one ?_); intro V5 hR5 q5))
 obtain ⟨o9, b9⟩ := retL hk0.size hj oG (by have := hN1.out; have := hN3.out; have := hN8.out; have := hN2.out; omega) q5
 exact bodyPost_ret (v := .tuple #[.agg CF, .int .i64 0]) (res40b Tryz.results11 rfl rfl hR5 zG) rfl ⟨CF, rfl, o9, b9⟩
theorem rsee_c2 {w V0 : World} {t ke ro : Int} {ao : Option Addr} {n cap : Nat} {X : List Ob} {C : Array Value} {x : Ob} {G : Array Value} {c i : Int} (h : Rw w ao n cap X) (hk0 : Below w.heap.size w V0) (hx : ObD (LtN w) w C x) (fx : LbF x.label) (g0 : G[0]? = some (.int .u64 c)) (g1 : G[1]? = some (.int .u64 i)) (gz : G.size = 2) (hln : ∀ d ∈ X, ∀ j ∈ d.links, (fnd X j).isSome = true) (hl : lokE X x.label c i = 0) (hf : (fnd X i).isSome = true) (hs : seeB x.label (fO X i) = false) (hE : seeE X x.label c i 0 = 2) : Calls Tryz.prog 11 #[.agg #[.int .i64 t, .int .u64 ke, .int .u64 ro, .slice ao n cap], .agg C, .agg G, .int .i64 0] V0 (Rtl (seeE X x.label c i 0) (fO X i) w V0) := by
 rw [hE]
 clear hE
 have hz := hx.size
 have hzg : (Tryz.prog.info? 25).map (·.size) = some (#[.int .i64 t, .int .u64 ke, .int .u64 ro, .slice ao n cap] : Array Value).size := by kernel_rfl
 have ga2 := Tryz.isAgg3
 have ga1 := Tryz.isAgg22
 have hzr : (Tryz.prog.info? 32).map (·.size) = some G.size := by rw [gz]; kernel_rfl
 have hlo := fun (W : World) (hk : Below w.heap.size w W) => rlook_v (t := t) (ke := ke) (ro := ro) h hk hx fx g0 g1 gz hln
 rw [hl] at hlo
 have hmem := (fO_mem hf).1
 have hsx := h.sml _ hmem
 have hsd := h.snd _ hmem
 have hlb := h.lab _ hmem
 have hse := fun (W : World) (K : Array Value) (hk : Below w.heap.size w W) (hC : ObD (LtN w) W K (fO X i)) => rsees_v (hx.next hk) (ob_up hC hk) fx hsd hsx hlb
 rw [hs] at hse
 clear hl hs hf
 obtain ⟨D, hD⟩ : ∃ D : Array Value, D = #[.int .i64 t, .int .u64 ke, .int .u64 ro, .slice ao n cap] := ⟨_, rfl⟩
 rw [← hD] at hzg hlo
 rw [← hD]
 clear hD
 go_enter Tryz.func11, Tryz.ntmps11
 go_wp2_with (first
  | go_skip
  | (with_reducible refine wpList_box rfl 25 _ rfl D rfl ?_; intro B W1 hN1 hB hj)
  | (with_reducible refine wpList_box rfl 43 _ rfl C rfl ?_; intro T W3 hN3 hT hk3; replace hB := hB.next hk3; replace hj := hj.trans (hk3.mono hj.size); clear hk3)
  | (with_reducible refine wpList_box rfl 32 _ rfl G rfl ?_; intro Q W8 hN8 hQ hk8; replace hB := hB.next hk8; replace hT := hT.next hk8; replace hj := hj.trans (hk8.mono hj.size); clear hk8)
  | ((with_reducible refine wpList_alloc rfl _ rfl zC zero40 ?_); have hxx := oF; intro P W4 hN4 hP hk4; clear hxx)
  | ((with_reducible refine wpList_alloc rfl _ rfl zC zero40 ?_); intro R W2 hN2 hR hk2; replace hB := hB.next hk2; replace hT := hT.next hk2; replace hQ := hQ.next hk2; replace hj := hj.trans (hk2.mono hj.size); clear hk2)
  | (with_reducible refine wpList_loadb (by kernel_rfl) 25 _ rfl B rfl D hB _ Tryz.underlying25 (by kernel_rfl) hzg ?_)
  | (with_reducible refine wpList_loadb (by kernel_rfl) 43 _ rfl T rfl C hT _ Tryz.underlying43 (by kernel_rfl) (size40C hz) ?_)
  | (with_reducible refine wpList_loadb (by kernel_rfl) 32 _ rfl Q rfl G hQ _ Tryz.underlying32 (by kernel_rfl) hzr ?_)
  | (go_at_call 9; (with_reducible refine (hlo _ (hk0.trans (hj.mono hk0.size))).mono ?_); rintro e w3 ⟨CF, rfl, oF, hb3⟩; replace oF : ObD (LtN w) w3 CF (fO X i) := oF)
  | ((with_reducible refine wpList_store_blk rfl _ _ _ rfl P rfl CF rfl zC hP (size40C oF.size) (zC_size.trans oF.size.symm) oF.one ?_); intro V4 hP4 q4; obtain ⟨hb5, oG⟩ := laidL (hk0.trans (hj.mono hk0.size)) hb3 oF hN4 hk4 q4; have zG := oG.size; clear oF hb3 hk4 q4 hN4 hP; replace hB := hB.next hb5; replace hT := hT.next hb5; replace hQ := hQ.next hb5; replace hR := hR.next hb5; replace hj := hj.trans (hb5.mono hj.size); clear hb5; have k1 := oG.kind; skip)
  | (with_reducible refine wpList_load1 (by kernel_rfl) _ _ rfl P _ rfl _ _ hP4 _ k1 ga2 ?_)
  | (with_reducible refine wpList_loadb (by kernel_rfl) 43 _ rfl P rfl CF hP4 _ Tryz.underlying43 (by kernel_rfl) (size40C zG) ?_)
  | (go_at_call 31; (with_reducible refine (hse _ _ (hk0.trans (hj.mono hk0.size)) oG).mono ?_); rintro e w6 ⟨rfl, hb6⟩; have hjo := hj; replace hB := hB.next hb6; replace hT := hT.next hb6; replace hR := hR.next hb6; replace hP4 := hP4.next hb6; replace hj := hj.trans (hb6.mono hj.size); replace oG := ob_lt oG (hk0.trans (hjo.mono hk0.size)) hb6; clear hb6)
  | ((with_reducible refine wpList_build rfl _ [] rfl zC ?hf ?_); (case hf => exact built_z))
  | ((with_reducible refine wpList_store_blk rfl _ _ _ rfl R rfl zC rfl zC hR (size40C zC_size) rfl (zC_d (fun _ => True) w).one ?_); intro V5 hR5 q5))
 refine bodyPost_ret (v := .tuple #[.agg zC, .int .i64 2]) (res40b Tryz.results11 rfl rfl hR5 zC_size) rfl ⟨zC, rfl, ?_, q5.below _ _ (by have := hN1.out; have := hN3.out; have := hN8.out; have := hN2.out; omega) hj⟩
 rw [res_err (by decide)]
 exact zC_d _ _
theorem rsee_d2 {w V0 : World} {t ke ro : Int} {ao : Option Addr} {n cap : Nat} {X : List Ob} {C : Array Value} {x : Ob} {G : Array Value} {c i kd : Int} (h : Rw w ao n cap X) (hk0 : Below w.heap.size w V0) (hx : ObD (LtN w) w C x) (fx : LbF x.label) (g0 : G[0]? = some (.int .u64 c)) (g1 : G[1]? = some (.int .u64 i)) (gz : G.size = 2) (hln : ∀ d ∈ X, ∀ j ∈ d.links, (fnd X j).isSome = true) (hl : lokE X x.label c i = 0) (hf : (fnd X i).isSome = true) (hk1 : ¬ kd = 0) (hk2 : kd = (fO X i).kind) (hs : seeB x.label (fO X i) = false) (hE : seeE X x.label c i kd = 2) : Calls Tryz.prog 11 #[.agg #[.int .i64 t, .int .u64 ke, .int .u64 ro, .slice ao n cap], .agg C, .agg G, .int .i64 kd] V0 (Rtl (seeE X x.label c i kd) (fO X i) w V0) := by
 rw [hE]
 clear hE
 have hz := hx.size
 have hzg : (Tryz.prog.info? 25).map (·.size) = some (#[.int .i64 t, .int .u64 ke, .int .u64 ro, .slice ao n cap] : Array Value).size := by kernel_rfl
 have ga2 := Tryz.isAgg3
 have ga1 := Tryz.isAgg22
 have hzr : (Tryz.prog.info? 32).map (·.size) = some G.size := by rw [gz]; kernel_rfl
 have hlo := fun (W : World) (hk : Below w.heap.size w W) => rlook_v (t := t) (ke := ke) (ro := ro) h hk hx fx g0 g1 gz hln
 rw [hl] at hlo
 have hmem := (fO_mem hf).1
 have hsx := h.sml _ hmem
 have hsd := h.snd _ hmem
 have hlb := h.lab _ hmem
 have hse := fun (W : World) (K : Array Value) (hk : Below w.heap.size w W) (hC : ObD (LtN w) W K (fO X i)) => rsees_v (hx.next hk) (ob_up hC hk) fx hsd hsx hlb
 rw [hs] at hse
 have k0 : (kd != 0) = true := by simpa using hk1
 have k2 : ((fO X i).kind != kd) = false := by simpa using hk2.symm
 clear hk1 hk2
 clear hl hs hf
 obtain ⟨D, hD⟩ : ∃ D : Array Value, D = #[.int .i64 t, .int .u64 ke, .int .u64 ro, .slice ao n cap] := ⟨_, rfl⟩
 rw [← hD] at hzg hlo
 rw [← hD]
 clear hD
 go_enter Tryz.func11, Tryz.ntmps11
 go_wp2_with (first
  | go_skip
  | (with_reducible refine wpList_box rfl 25 _ rfl D rfl ?_; intro B W1 hN1 hB hj)
  | (with_reducible refine wpList_box rfl 43 _ rfl C rfl ?_; intro T W3 hN3 hT hk3; replace hB := hB.next hk3; replace hj := hj.trans (hk3.mono hj.size); clear hk3)
  | (with_reducible refine wpList_box rfl 32 _ rfl G rfl ?_; intro Q W8 hN8 hQ hk8; replace hB := hB.next hk8; replace hT := hT.next hk8; replace hj := hj.trans (hk8.mono hj.size); clear hk8)
  | ((with_reducible refine wpList_alloc rfl _ rfl zC zero40 ?_); have hxx := oF; intro P W4 hN4 hP hk4; clear hxx)
  | ((with_reducible refine wpList_alloc rfl _ rfl zC zero40 ?_); intro R W2 hN2 hR hk2; replace hB := hB.next hk2; replace hT := hT.next hk2; replace hQ := hQ.next hk2; replace hj := hj.trans (hk2.mono hj.size); clear hk2)
  | (with_reducible refine wpList_loadb (by kernel_rfl) 25 _ rfl B rfl D hB _ Tryz.underlying25 (by kernel_rfl) hzg ?_)
  | (with_reducible refine wpList_loadb (by kernel_rfl) 43 _ rfl T rfl C hT _ Tryz.underlying43 (by kernel_rfl) (size40C hz) ?_)
  | (with_reducible refine wpList_loadb (by kernel_rfl) 32 _ rfl Q rfl G hQ _ Tryz.underlying32 (by kernel_rfl) hzr ?_)
  | (go_at_call 9; (with_reducible refine (hlo _ (hk0.trans (hj.mono hk0.size))).mono ?_); rintro e w3 ⟨CF, rfl, oF, hb3⟩; replace oF : ObD (LtN w) w3 CF (fO X i) := oF)
  | ((with_reducible refine wpList_store_blk rfl _ _ _ rfl P rfl CF rfl zC hP (size40C oF.size) (zC_size.trans oF.size.symm) oF.one ?_); intro V4 hP4 q4; obtain ⟨hb5, oG⟩ := laidL (hk0.trans (hj.mono hk0.size)) hb3 oF hN4 hk4 q4; have zG := oG.size; clear oF hb3 hk4 q4 hN4 hP; replace hB := hB.next hb5; replace hT := hT.next hb5; replace hQ := hQ.next hb5; replace hR := hR.next hb5; replace hj := hj.trans (hb5.mono hj.size); clear hb5; have k1 := oG.kind; skip)
  | (with_reducible refine wpList_load1 (by kernel_rfl) _ _ rfl P _ rfl _ _ hP4 _ k1 ga2 ?_)
  | (with_reducible refine wpList_loadb (by kernel_rfl) 43 _ rfl P rfl CF hP4 _ Tryz.underlying43 (by kernel_rfl) (size40C zG) ?_)
  | (go_at_call 31; (with_reducible refine (hse _ _ (hk0.trans (hj.mono hk0.size)) oG).mono ?_); rintro e w6 ⟨rfl, hb6⟩; have hjo := hj; replace hB := hB.next hb6; replace hT := hT.next hb6; replace hR := hR.next hb6; replace hP4 := hP4.next hb6; replace hj := hj.trans (hb6.mono hj.size); replace oG := ob_lt oG (hk0.trans (hjo.mono hk0.size)) hb6; clear hb6)
  | ((with_reducible refine wpList_build rfl _ [] rfl zC ?hf ?_); (case hf => exact built_z))
  | ((with_reducible refine wpList_store_blk rfl _ _ _ rfl R rfl zC rfl zC hR (size40C zC_size) rfl (zC_d (fun _ => True) w).one ?_); intro V5 hR5 q5))
 refine bodyPost_ret (v := .tuple #[.agg zC, .int .i64 2]) (res40b Tryz.results11 rfl rfl hR5 zC_size) rfl ⟨zC, rfl, ?_, q5.below _ _ (by have := hN1.out; have := hN3.out; have := hN8.out; have := hN2.out; omega) hj⟩
 rw [res_err (by decide)]
 exact zC_d _ _
theorem rsee_v {w V0 : World} {t ke ro : Int} {ao : Option Addr} {n cap : Nat} {X : List Ob} {C : Array Value} {x : Ob} {G : Array Value} {c i kd : Int} (h : Rw w ao n cap X) (hk0 : Below w.heap.size w V0) (hx : ObD (LtN w) w C x) (fx : LbF x.label) (g0 : G[0]? = some (.int .u64 c)) (g1 : G[1]? = some (.int .u64 i)) (gz : G.size = 2) (hln : ∀ d ∈ X, ∀ j ∈ d.links, (fnd X j).isSome = true) : Calls Tryz.prog 11 #[.agg #[.int .i64 t, .int .u64 ke, .int .u64 ro, .slice ao n cap], .agg C, .agg G, .int .i64 kd] V0 (Rtl (seeE X x.label c i kd) (fO X i) w V0) := by
 rcases lok_cases X x.label c i with hl | hl
 ·obtain ⟨hl, _, _, hf⟩ := hl
  by_cases hk1 : kd = 0
  ·subst hk1
   cases hs : seeB x.label (fO X i) with
   | true => exact rsee_c0 h hk0 hx fx g0 g1 gz hln hl hf hs (all_ok hl (.inl rfl) hs)
   | false => exact rsee_c2 h hk0 hx fx g0 g1 gz hln hl hf hs (all_lab hl (.inl rfl) hs)
  ·by_cases hk2 : kd = (fO X i).kind
   ·cases hs : seeB x.label (fO X i) with
    | true => exact rsee_d0 h hk0 hx fx g0 g1 gz hln hl hf hk1 hk2 hs (all_ok hl (.inr hk2) hs)
    | false => exact rsee_d2 h hk0 hx fx g0 g1 gz hln hl hf hk1 hk2 hs (all_lab hl (.inr hk2) hs)
   ·exact rsee_b h hk0 hx fx g0 g1 gz hln hl hk1 hk2 (all_kind hl (fun q => q.elim hk1 hk2))
 ·have hl' : lokE X x.label c i ≠ 0 := by rw [hl]; decide
  exact rsee_a h hk0 hx fx g0 g1 gz hln hl' (all_err hl')
theorem rcha_a {w V0 : World} {t ke ro : Int} {ao : Option Addr} {n cap : Nat} {X : List Ob} {C : Array Value} {x : Ob} {G : Array Value} {c i kd : Int} (h : Rw w ao n cap X) (hk0 : Below w.heap.size w V0) (hx : ObD (LtN w) w C x) (fx : LbF x.label) (g0 : G[0]? = some (.int .u64 c)) (g1 : G[1]? = some (.int .u64 i)) (gz : G.size = 2) (hln : ∀ d ∈ X, ∀ j ∈ d.links, (fnd X j).isSome = true) (hl : seeE X x.label c i kd ≠ 0) (hE : chaE X x.label c i kd = seeE X x.label c i kd) : Calls Tryz.prog 13 #[.agg #[.int .i64 t, .int .u64 ke, .int .u64 ro, .slice ao n cap], .agg C, .agg G, .int .i64 kd] V0 (Rtl (chaE X x.label c i kd) (fO X i) w V0) := by
 rw [hE]
 clear hE
 have hz := hx.size
 have hzg : (Tryz.prog.info? 25).map (·.size) = some (#[.int .i64 t, .int .u64 ke, .int .u64 ro, .slice ao n cap] : Array Value).size := by kernel_rfl
 have ga2 := Tryz.isAgg3
 have ga1 := Tryz.isAgg22
 have hzr : (Tryz.prog.info? 32).map (·.size) = some G.size := by rw [gz]; kernel_rfl
 have hlo := fun (W : World) (hk : Below w.heap.size w W) => rsee_v (t := t) (ke := ke) (ro := ro) (kd := kd) h hk hx fx g0 g1 gz hln
 have HE : Hid (seeE X x.label c i kd ≠ 0) := hl
 clear hl
 generalize seeE X x.label c i kd = ek at hlo HE ⊢
 have hb0 : (ek != 0) = true := by simpa using HE.out
 obtain ⟨D, hD⟩ : ∃ D : Array Value, D = #[.int .i64 t, .int .u64 ke, .int .u64 ro, .slice ao n cap] := ⟨_, rfl⟩
 rw [← hD] at hzg hlo
 rw [← hD]
 clear hD
 go_enter Tryz.func13, Tryz.ntmps13
 go_wp2_with (first
  | go_skip
  | (with_reducible refine wpList_box rfl 25 _ rfl D rfl ?_; intro B W1 hN1 hB hj)
  | (with_reducible refine wpList_box rfl 43 _ rfl C rfl ?_; intro T W3 hN3 hT hk3; replace hB := hB.next hk3; replace hj := hj.trans (hk3.mono hj.size); clear hk3)
  | (with_reducible refine wpList_box rfl 32 _ rfl G rfl ?_; intro Q W8 hN8 hQ hk8; replace hB := hB.next hk8; replace hT := hT.next hk8; replace hj := hj.trans (hk8.mono hj.size); clear hk8)
  | ((with_reducible refine wpList_alloc rfl _ rfl zC zero40 ?_); have hxx := oF; intro P W4 hN4 hP hk4; clear hxx)
  | ((with_reducible refine wpList_alloc rfl _ rfl zC zero40 ?_); intro R W2 hN2 hR hk2; replace hB := hB.next hk2; replace hT := hT.next hk2; replace hQ := hQ.next hk2; replace hj := hj.trans (hk2.mono hj.size); clear hk2)
  | (with_reducible refine wpList_loadb (by kernel_rfl) 25 _ rfl B rfl D hB _ Tryz.underlying25 (by kernel_rfl) hzg ?_)
  | (with_reducible refine wpList_loadb (by kernel_rfl) 43 _ rfl T rfl C hT _ Tryz.underlying43 (by kernel_rfl) (size40C hz) ?_)
  | (with_reducible refine wpList_loadb (by kernel_rfl) 32 _ rfl Q rfl G hQ _ Tryz.underlying32 (by kernel_rfl) hzr ?_)
  | (go_at_call 11; (with_reducible refine (hlo _ (hk0.trans (hj.mono hk0.size))).mono ?_); rintro e w3 ⟨CF, rfl, oF, hb3⟩)
  | ((with_reducible refine wpList_store_blk rfl _ _ _ rfl P rfl CF rfl zC hP (size40C oF.size) (zC_size.trans oF.size.symm) oF.one ?_); intro V4 hP4 q4; obtain ⟨hb5, oG⟩ := laidL (hk0.trans (hj.mono hk0.size)) hb3 oF hN4 hk4 q4; have zG := oG.size; clear oF hb3 hk4 q4 hN4 hP; replace hB := hB.next hb5; replace hT := hT.next hb5; replace hQ := hQ.next hb5; replace hR := hR.next hb5; replace hj := hj.trans (hb5.mono hj.size); clear hb5; skip)
  | (with_reducible refine wpList_loadb (by kernel_rfl) 43 _ rfl P rfl CF hP4 _ Tryz.underlying43 (by kernel_rfl) (size40C zG) ?_)
  | ((with_reducible refine wpList_build rfl _ [] rfl zC ?hf ?_); (case hf => exact built_z))
  | ((with_reducible refine wpList_store_blk rfl _ _ _ rfl R rfl zC rfl zC hR (size40C zC_size) rfl (zC_d (fun _ => True) w).one ?_); intro V5 hR5 q5))
 refine bodyPost_ret (v := .tuple #[.agg zC, .int .i64 ek]) (res40b Tryz.results13 rfl rfl hR5 zC_size) rfl ⟨zC, rfl, ?_, q5.below _ _ (by have := hN1.out; have := hN3.out; have := hN8.out; have := hN2.out; omega) hj⟩
 rw [res_err (HE.out)]
 exact zC_d _ _
theorem rcha_b {w V0 : World} {t ke ro : Int} {ao : Option Addr} {n cap : Nat} {X : List Ob} {C : Array Value} {x : Ob} {G : Array Value} {c i kd : Int} (h : Rw w ao n cap X) (hk0 : Below w.heap.size w V0) (hx : ObD (LtN w) w C x) (fx : LbF x.label) (g0 : G[0]? = some (.int .u64 c)) (g1 : G[1]? = some (.int .u64 i)) (gz : G.size = 2) (hln : ∀ d ∈ X, ∀ j ∈ d.links, (fnd X j).isSome = true) (hl : seeE X x.label c i kd = 0) (hf : (fnd X i).isSome = true) (hs : chgB x.label (fO X i) = true) (hE : chaE X x.label c i kd = 0) : Calls Tryz.prog 13 #[.agg #[.int .i64 t, .int .u64 ke, .int .u64 ro, .slice ao n cap], .agg C, .agg G, .int .i64 kd] V0 (Rtl (chaE X x.label c i kd) (fO X i) w V0) := by
 rw [hE]
 clear hE
 have hz := hx.size
 have hzg : (Tryz.prog.info? 25).map (·.size) = some (#[.int .i64 t, .int .u64 ke, .int .u64 ro, .slice ao n cap] : Array Value).size := by kernel_rfl
 have ga2 := Tryz.isAgg3
 have ga1 := Tryz.isAgg22
 have hzr : (Tryz.prog.info? 32).map (·.size) = some G.size := by rw [gz]; kernel_rfl
 have hlo := fun (W : World) (hk : Below w.heap.size w W) => rsee_v (t := t) (ke := ke) (ro := ro) (kd := kd) h hk hx fx g0 g1 gz hln
 rw [hl] at hlo
 have hmem := (fO_mem hf).1
 have hsx := h.sml _ hmem
 have hsd := h.snd _ hmem
 have hlb := h.lab _ hmem
 have hse := fun (W : World) (K : Array Value) (hk : Below w.heap.size w W) (hC : ObD (LtN w) W K (fO X i)) => rchanges_v (hx.next hk) (ob_up hC hk) fx hsd hsx hlb
 rw [hs] at hse
 clear hl hs hf
 obtain ⟨D, hD⟩ : ∃ D : Array Value, D = #[.int .i64 t, .int .u64 ke, .int .u64 ro, .slice ao n cap] := ⟨_, rfl⟩
 rw [← hD] at hzg hlo
 rw [← hD]
 clear hD
 go_enter Tryz.func13, Tryz.ntmps13
 go_wp2_with (first
  | go_skip
  | (with_reducible refine wpList_box rfl 25 _ rfl D rfl ?_; intro B W1 hN1 hB hj)
  | (with_reducible refine wpList_box rfl 43 _ rfl C rfl ?_; intro T W3 hN3 hT hk3; replace hB := hB.next hk3; replace hj := hj.trans (hk3.mono hj.size); clear hk3)
  | (with_reducible refine wpList_box rfl 32 _ rfl G rfl ?_; intro Q W8 hN8 hQ hk8; replace hB := hB.next hk8; replace hT := hT.next hk8; replace hj := hj.trans (hk8.mono hj.size); clear hk8)
  | ((with_reducible refine wpList_alloc rfl _ rfl zC zero40 ?_); have hxx := oF; intro P W4 hN4 hP hk4; clear hxx)
  | ((with_reducible refine wpList_alloc rfl _ rfl zC zero40 ?_); intro R W2 hN2 hR hk2; replace hB := hB.next hk2; replace hT := hT.next hk2; replace hQ := hQ.next hk2; replace hj := hj.trans (hk2.mono hj.size); clear hk2)
  | (with_reducible refine wpList_loadb (by kernel_rfl) 25 _ rfl B rfl D hB _ Tryz.underlying25 (by kernel_rfl) hzg ?_)
  | (with_reducible refine wpList_loadb (by kernel_rfl) 43 _ rfl T rfl C hT _ Tryz.underlying43 (by kernel_rfl) (size40C hz) ?_)
  | (with_reducible refine wpList_loadb (by kernel_rfl) 32 _ rfl Q rfl G hQ _ Tryz.underlying32 (by kernel_rfl) hzr ?_)
  | (go_at_call 11; (with_reducible refine (hlo _ (hk0.trans (hj.mono hk0.size))).mono ?_); rintro e w3 ⟨CF, rfl, oF, hb3⟩; replace oF : ObD (LtN w) w3 CF (fO X i) := oF)
  | ((with_reducible refine wpList_store_blk rfl _ _ _ rfl P rfl CF rfl zC hP (size40C oF.size) (zC_size.trans oF.size.symm) oF.one ?_); intro V4 hP4 q4; obtain ⟨hb5, oG⟩ := laidL (hk0.trans (hj.mono hk0.size)) hb3 oF hN4 hk4 q4; have zG := oG.size; clear oF hb3 hk4 q4 hN4 hP; replace hB := hB.next hb5; replace hT := hT.next hb5; replace hQ := hQ.next hb5; replace hR := hR.next hb5; replace hj := hj.trans (hb5.mono hj.size); clear hb5; skip)
  | (with_reducible refine wpList_loadb (by kernel_rfl) 43 _ rfl P rfl CF hP4 _ Tryz.underlying43 (by kernel_rfl) (size40C zG) ?_)
  | (go_at_call 34; (with_reducible refine (hse _ _ (hk0.trans (hj.mono hk0.size)) oG).mono ?_); rintro e w6 ⟨rfl, hb6⟩; have hjo := hj; replace hB := hB.next hb6; replace hT := hT.next hb6; replace hR := hR.next hb6; replace hP4 := hP4.next hb6; replace hj := hj.trans (hb6.mono hj.size); replace oG := ob_lt oG (hk0.trans (hjo.mono hk0.size)) hb6; clear hb6)
  | ((with_reducible refine wpList_build rfl _ [] rfl zC ?hf ?_); (case hf => exact built_z))
  | ((with_reducible refine wpList_store_blk rfl _ _ _ rfl R rfl CF rfl zC hR (size40C zG) (zC_size.trans zG.symm) oG.one ?_); intro V5 hR5 q5))
 obtain ⟨o9, b9⟩ := retL hk0.size hj oG (by have := hN1.out; have := hN3.out; have := hN8.out; have := hN2.out; omega) q5
 exact bodyPost_ret (v := .tuple #[.agg CF, .int .i64 0]) (res40b Tryz.results13 rfl rfl hR5 zG) rfl ⟨CF, rfl, o9, b9⟩
theorem rcha_c {w V0 : World} {t ke ro : Int} {ao : Option Addr} {n cap : Nat} {X : List Ob} {C : Array Value} {x : Ob} {G : Array Value} {c i kd : Int} (h : Rw w ao n cap X) (hk0 : Below w.heap.size w V0) (hx : ObD (LtN w) w C x) (fx : LbF x.label) (g0 : G[0]? = some (.int .u64 c)) (g1 : G[1]? = some (.int .u64 i)) (gz : G.size = 2) (hln : ∀ d ∈ X, ∀ j ∈ d.links, (fnd X j).isSome = true) (hl : seeE X x.label c i kd = 0) (hf : (fnd X i).isSome = true) (hs : chgB x.label (fO X i) = false) (hE : chaE X x.label c i kd = 2) : Calls Tryz.prog 13 #[.agg #[.int .i64 t, .int .u64 ke, .int .u64 ro, .slice ao n cap], .agg C, .agg G, .int .i64 kd] V0 (Rtl (chaE X x.label c i kd) (fO X i) w V0) := by
 rw [hE]
 clear hE
 have hz := hx.size
 have hzg : (Tryz.prog.info? 25).map (·.size) = some (#[.int .i64 t, .int .u64 ke, .int .u64 ro, .slice ao n cap] : Array Value).size := by kernel_rfl
 have ga2 := Tryz.isAgg3
 have ga1 := Tryz.isAgg22
 have hzr : (Tryz.prog.info? 32).map (·.size) = some G.size := by rw [gz]; kernel_rfl
 have hlo := fun (W : World) (hk : Below w.heap.size w W) => rsee_v (t := t) (ke := ke) (ro := ro) (kd := kd) h hk hx fx g0 g1 gz hln
 rw [hl] at hlo
 have hmem := (fO_mem hf).1
 have hsx := h.sml _ hmem
 have hsd := h.snd _ hmem
 have hlb := h.lab _ hmem
 have hse := fun (W : World) (K : Array Value) (hk : Below w.heap.size w W) (hC : ObD (LtN w) W K (fO X i)) => rchanges_v (hx.next hk) (ob_up hC hk) fx hsd hsx hlb
 rw [hs] at hse
 clear hl hs hf
 obtain ⟨D, hD⟩ : ∃ D : Array Value, D = #[.int .i64 t, .int .u64 ke, .int .u64 ro, .slice ao n cap] := ⟨_, rfl⟩
 rw [← hD] at hzg hlo
 rw [← hD]
 clear hD
 go_enter Tryz.func13, Tryz.ntmps13
 go_wp2_with (first
  | go_skip
  | (with_reducible refine wpList_box rfl 25 _ rfl D rfl ?_; intro B W1 hN1 hB hj)
  | (with_reducible refine wpList_box rfl 43 _ rfl C rfl ?_; intro T W3 hN3 hT hk3; replace hB := hB.next hk3; replace hj := hj.trans (hk3.mono hj.size); clear hk3)
  | (with_reducible refine wpList_box rfl 32 _ rfl G rfl ?_; intro Q W8 hN8 hQ hk8; replace hB := hB.next hk8; replace hT := hT.next hk8; replace hj := hj.trans (hk8.mono hj.size); clear hk8)
  | ((with_reducible refine wpList_alloc rfl _ rfl zC zero40 ?_); have hxx := oF; intro P W4 hN4 hP hk4; clear hxx)
  | ((with_reducible refine wpList_alloc rfl _ rfl zC zero40 ?_); intro R W2 hN2 hR hk2; replace hB := hB.next hk2; replace hT := hT.next hk2; replace hQ := hQ.next hk2; replace hj := hj.trans (hk2.mono hj.size); clear hk2)
  | (with_reducible refine wpList_loadb (by kernel_rfl) 25 _ rfl B rfl D hB _ Tryz.underlying25 (by kernel_rfl) hzg ?_)
  | (with_reducible refine wpList_loadb (by kernel_rfl) 43 _ rfl T rfl C hT _ Tryz.underlying43 (by kernel_rfl) (size40C hz) ?_)
  | (with_reducible refine wpList_loadb (by kernel_rfl) 32 _ rfl Q rfl G hQ _ Tryz.underlying32 (by kernel_rfl) hzr ?_)
  | (go_at_call 11; (with_reducible refine (hlo _ (hk0.trans (hj.mono hk0.size))).mono ?_); rintro e w3 ⟨CF, rfl, oF, hb3⟩; replace oF : ObD (LtN w) w3 CF (fO X i) := oF)
  | ((with_reducible refine wpList_store_blk rfl _ _ _ rfl P rfl CF rfl zC hP (size40C oF.size) (zC_size.trans oF.size.symm) oF.one ?_); intro V4 hP4 q4; obtain ⟨hb5, oG⟩ := laidL (hk0.trans (hj.mono hk0.size)) hb3 oF hN4 hk4 q4; have zG := oG.size; clear oF hb3 hk4 q4 hN4 hP; replace hB := hB.next hb5; replace hT := hT.next hb5; replace hQ := hQ.next hb5; replace hR := hR.next hb5; replace hj := hj.trans (hb5.mono hj.size); clear hb5; skip)
  | (with_reducible refine wpList_loadb (by kernel_rfl) 43 _ rfl P rfl CF hP4 _ Tryz.underlying43 (by kernel_rfl) (size40C zG) ?_)
  | (go_at_call 34; (with_reducible refine (hse _ _ (hk0.trans (hj.mono hk0.size)) oG).mono ?_); rintro e w6 ⟨rfl, hb6⟩; have hjo := hj; replace hB := hB.next hb6; replace hT := hT.next hb6; replace hR := hR.next hb6; replace hP4 := hP4.next hb6; replace hj := hj.trans (hb6.mono hj.size); replace oG := ob_lt oG (hk0.trans (hjo.mono hk0.size)) hb6; clear hb6)
  | ((with_reducible refine wpList_build rfl _ [] rfl zC ?hf ?_); (case hf => exact built_z))
  | ((with_reducible refine wpList_store_blk rfl _ _ _ rfl R rfl zC rfl zC hR (size40C zC_size) rfl (zC_d (fun _ => True) w).one ?_); intro V5 hR5 q5))
 refine bodyPost_ret (v := .tuple #[.agg zC, .int .i64 2]) (res40b Tryz.results13 rfl rfl hR5 zC_size) rfl ⟨zC, rfl, ?_, q5.below _ _ (by have := hN1.out; have := hN3.out; have := hN8.out; have := hN2.out; omega) hj⟩
 rw [res_err (by decide)]
 exact zC_d _ _
theorem rcha_v {w V0 : World} {t ke ro : Int} {ao : Option Addr} {n cap : Nat} {X : List Ob} {C : Array Value} {x : Ob} {G : Array Value} {c i kd : Int} (h : Rw w ao n cap X) (hk0 : Below w.heap.size w V0) (hx : ObD (LtN w) w C x) (fx : LbF x.label) (g0 : G[0]? = some (.int .u64 c)) (g1 : G[1]? = some (.int .u64 i)) (gz : G.size = 2) (hln : ∀ d ∈ X, ∀ j ∈ d.links, (fnd X j).isSome = true) : Calls Tryz.prog 13 #[.agg #[.int .i64 t, .int .u64 ke, .int .u64 ro, .slice ao n cap], .agg C, .agg G, .int .i64 kd] V0 (Rtl (chaE X x.label c i kd) (fO X i) w V0) := by
 have hc := cha_see X x.label c i kd
 by_cases hl : seeE X x.label c i kd = 0
 ·rw [if_pos hl] at hc
  have hf : (fnd X i).isSome = true := by
   rcases all_cases X x.label c i kd (seeB x.label) with q | q | q | q
   ·rcases lok_cases X x.label c i with z | z
    ·exact z.2.2.2
    ·rw [q.2.1] at z; exact absurd z (by decide)
   ·exact absurd (hl.symm.trans q.1) (by decide)
   ·exact absurd (hl.symm.trans q.1) (by decide)
   ·exact absurd (hl.symm.trans q.1) (by decide)
  cases hs : chgB x.label (fO X i) with
  | true => exact rcha_b h hk0 hx fx g0 g1 gz hln hl hf hs (by rw [hc, if_pos hs])
  | false => exact rcha_c h hk0 hx fx g0 g1 gz hln hl hf hs (by rw [hc, hs]; rfl)
 ·rw [if_neg hl] at hc
  exact rcha_a h hk0 hx fx g0 g1 gz hln hl hc
end Go.Proofs.YtblklhgojdbfeaaGreat
namespace Go.Proofs.YtblklhgojdbfeaaGreat
set_option maxRecDepth 100000
set_option maxHeartbeats 8000000
open Go.RowKit Go.Shelf
set_option linter.unusedVariables false

theorem tellX {k : Int} {x : Ob} {w W w' : World} {e : Ending} (hk : Below w.heap.size w W) (h : ∃ C, e = .returned (.tuple #[.agg C, .int .i64 k]) ∧ ObD (New W w') w' C (resO k x) ∧ Below W.heap.size W w') : ∃ C, e = .returned (.tuple #[.agg C, .int .i64 k]) ∧ ObD (LtN w') w' C (resO k x) ∧ Below W.heap.size W w' := by
 obtain ⟨C, e1, o, hb⟩ := h
 exact ⟨C, e1, o.wide fun _ q => q.2, hb⟩
theorem rtellX {k : Int} {x : Ob} {w W w' : World} {e : Ending} (hk : Below w.heap.size w W) (h : Rtl k x w W e w') : ∃ C, e = .returned (.tuple #[.agg C, .int .i64 k]) ∧ ObD (LtN w') w' C (resO k x) ∧ Below W.heap.size W w' := by
 obtain ⟨C, e1, o, hb⟩ := h
 exact ⟨C, e1, ob_up o (hk.trans (hb.mono hk.size)), hb⟩
theorem laidX {w W2 w3 W4 V4 : World} {P : Nat} {C : Array Value} {x : Ob} (hk : Below w.heap.size w W2) (hb3 : Below W2.heap.size W2 w3) (oF : ObD (LtN w3) w3 C x) (hN4 : Hid (w3.heap.size = P ∧ W4.heap.size = P + 1)) (hk4 : Below w3.heap.size w3 W4) (q4 : Oth P W4 V4) : Below W2.heap.size W2 V4 ∧ ObD (LtN V4) V4 C x := by
 have h1 := hN4.out
 have h2 := hb3.size
 have h3 := q4.size
 refine ⟨q4.below _ _ (by omega) (hb3.trans (hk4.mono h2)), (oF.laterK fun b hb => ?_).wide fun b hb => ?_⟩
 ·have h5 : b < w3.heap.size := hb
  rw [q4.block b (by omega), hk4.block b h5]
 ·have h5 : b < w3.heap.size := hb
  show b < V4.heap.size
  omega
end Go.Proofs.YtblklhgojdbfeaaGreat
