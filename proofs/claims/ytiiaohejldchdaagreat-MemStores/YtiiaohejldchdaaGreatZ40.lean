/-
 PROVED HERE: what the document's sees, changes, Dir, Look, See and Change return when they are called (contracts over this . What is asked stands at each.
-/
import Derived.Test.YtiiaohejldchdaaGreatZ21
import Derived.Test.YtiiaohejldchdaaGreatZ31
import Derived.Test.YtiiaohejldchdaaGreatZ38
import Derived.Test.YtiiaohejldchdaaGreatZ39
namespace Go.Proofs.YtiiaohejldchdaaGreat
set_option maxRecDepth 100000
set_option maxHeartbeats 8000000
open Go.RowKit Go.Shelf
set_option linter.unusedVariables false
attribute [local go_sem] Oper.semAt_some

theorem robs_v {w : World} {aT aO : Option Addr} {nT cT nO cO : Nat} {T O : List (Int × Int)} (hT : Lab w.heap.size w aT nT cT T) (hO : Lab w.heap.size w aO nO cO O) (kT : nT < 1048576) (fT : Fit T) (fO : Fit O) :
  Calls Tryz.prog 19 #[.slice aT nT cT, .slice aO nO cO] w fun e w' => e = .returned (.bool (leqB O (raiseL T))) ∧ Below w.heap.size w w' := by
 have hra := rraise_f hT (by omega) fT
 go_enter Tryz.func19, Tryz.ntmps19
 go_wp2_with (first
  | (go_at_call 43; (with_reducible refine hra.mono ?_); rintro e w1 ⟨a1, m1, c1, rfl, hl, kn, kb⟩; have hO1 := hO.next kb)
  | (go_at_call 20; (with_reducible refine (rleq_f hO1 hl fO (raiseL_fit fT)).mono ?_); rintro e w2 ⟨rfl, kb2⟩))
 go_ret
 exact ⟨rfl, kb.trans (kb2.mono kb.size)⟩
theorem sho_fit {y : Ob} (h : Fit y.label) : Fit (shoC y) := by
 unfold shoC
 split
 ·exact raiseL_fit h
 ·exact h
theorem rsees_v {w : World} {C K : Array Value} {x y : Ob} (hx : ObD (LtN w) w C x) (hy : ObD (LtN w) w K y) (fx : LbF x.label) (sy : soundB y = true) (my : Small y) (fy : LbF y.label) : Calls Tryz.prog 56 #[.agg C, .agg K] w fun e w' => e = .returned (.bool (seeB x.label y)) ∧ Below w.heap.size w w' := by
 have hmx : Tryz.prog.follows .mixedOrders = true := by kernel_rfl
 have hz := hx.size
 have hz2 := hy.size
 obtain ⟨aL, nL, cL, hl, hL⟩ := hx.label
 have kL : nL < 1048576 := by rw [← hL.1]; exact fx.2
 have HE := sho_eq sy
 have fS := sho_fit fy.1
 go_enter Tryz.func56, Tryz.ntmps56
 go_wp2_with (first
  | (with_reducible refine wpList_box rfl 43 (.tmp 0) rfl C rfl ?_; intro B W1 hN1 hB hk)
  | (with_reducible refine wpList_box rfl 43 (.tmp 1) rfl K rfl ?_; intro O W2 hN2 hO hk2; replace hB := hB.next hk2; replace hk := hk.trans (hk2.mono hk.size); clear hk2))
 refine PgM.region_out (S := fun W => Below W2.heap.size W2 W) hmx ((Below.refl _ _).drew) (fun hS => ?_)
 generalize W2.drew = v5 at hS ⊢
 refine wpAnyH_sym (by kernel_rfl) (fun _ _ _ _ _ h => h) hS [(0, none), (1, some (.slice aL nL cL)), (2, some (.agg K))] (l' := #[true, true, true, false, false, false]) (a' := { tmps := #[.agg C, .agg K, .pointer (some ⟨B, 0, none⟩), .pointer (some ⟨O, 0, none⟩), .bool false, .pointer (some ⟨B, 2, none⟩), .slice aL nL cL, .agg K, ud, undef], defers := [] }) (obs := [.load 27 B 2 (.slice aL nL cL), .load 43 O 0 (.agg K)]) (n := 3) (by kernel_rfl) (by kernel_rfl) ⟨ob_load1 (fun _ h => hB.next h) hl Tryz.isAgg27, ob_loadb (fun _ h => hO.next h) Tryz.underlying43 (by kernel_rfl) (size40C hz2), trivial⟩ ?_
 refine wpAnyH_callL (i := 3) (fuel := 2) (f := 82) (vs := [.agg K]) (d := some 8) (by kernel_rfl) (by kernel_rfl) (by kernel_rfl) Tryz.call82 (rshown_any (hy.next (hk.trans (hS.mono hk.size))) my) ?_
 rintro e v6 ⟨aS, nS, cS, rfl, lS, hb6⟩
 have hS6 : Below W2.heap.size W2 v6 := hS.trans (hb6.mono hS.size)
 rw [← HE] at lS
 refine ⟨_, rfl, hS6, ?_⟩
 refine wpAnyH_callL (i := 4) (fuel := 1) (f := 19) (vs := [.slice aL nL cL, .slice aS nS cS]) (d := some 9) (by kernel_rfl) (by kernel_rfl) (by kernel_rfl) Tryz.call19 (robs_v (LabD.lab' hL (hk.trans (hS6.mono hk.size))) lS kL fx.1 fS) ?_
 rintro e v7 ⟨rfl, hb7⟩
 have hS7 : Below W2.heap.size W2 v7 := hS6.trans (hb7.mono hS6.size)
 refine ⟨_, rfl, hS7, ?_⟩
 refine wpAnyH_sym (by kernel_rfl) (fun _ _ _ _ _ h => h) hS7 [(5, none)] (l' := #[true, true, true, true, true, true]) (a' := { tmps := #[.agg C, .agg K, .pointer (some ⟨B, 0, none⟩), .pointer (some ⟨O, 0, none⟩), .bool (leqB (shoC y) (raiseL x.label)), .pointer (some ⟨B, 2, none⟩), .slice aL nL cL, .agg K, .slice aS nS cS, .bool (leqB (shoC y) (raiseL x.label))], defers := [] }) (obs := []) (n := 0) (by kernel_rfl) (by kernel_rfl) trivial ?_
 refine wpAnyH_done (by kernel_rfl) ?_ _
 go_wp2
 go_ret
 exact ⟨rfl, hk.trans (hS7.mono hk.size)⟩
theorem rchanges_yes {w : World} {C K : Array Value} {x y : Ob} (hx : ObD (LtN w) w C x) (hy : ObD (LtN w) w K y) (fx : LbF x.label) (sy : soundB y = true) (my : Small y) (fy : LbF y.label) (hv : seeB x.label y = true) : Calls Tryz.prog 104 #[.agg C, .agg K] w fun e w' => e = .returned (.bool (chgB x.label y)) ∧ Below w.heap.size w w' := by
 have hse := fun (W : World) (hk : Below w.heap.size w W) => rsees_v (hx.next hk) (hy.next hk) fx sy my fy
 rw [hv] at hse
 have hr : Hid (chgB x.label y = leqB x.label y.label) := by show chgB x.label y = _; unfold chgB; rw [hv]; rfl
 obtain ⟨RV, hRV⟩ : ∃ RV, Hid (chgB x.label y = RV) := ⟨_, rfl⟩
 rw [hRV.out] at hr ⊢
 have hz := hx.size
 have hz2 := hy.size
 obtain ⟨a1, n1, c1, e1, l1⟩ := hx.label
 obtain ⟨a2, n2, c2, e2, l2⟩ := hy.label
 have ga0 := Tryz.isAgg27
 have fx1 := fx.1
 have fy1 := fy.1
 clear hv
 go_enter Tryz.func104, Tryz.ntmps104
 go_wp2_with (first
  | go_skip
  | (with_reducible refine wpList_box rfl 43 (.tmp 0) rfl C rfl ?_; intro B W1 hN1 hB hk)
  | (with_reducible refine wpList_box rfl 43 (.tmp 1) rfl K rfl ?_; intro O W2 hN2 hO hk2; replace hB := hB.next hk2; replace hk := hk.trans (hk2.mono hk.size); clear hk2)
  | (with_reducible refine wpList_loadb (by kernel_rfl) 43 _ rfl B rfl C hB _ Tryz.underlying43 (by kernel_rfl) (size40C hz) ?_)
  | (with_reducible refine wpList_loadb (by kernel_rfl) 43 _ rfl O rfl K hO _ Tryz.underlying43 (by kernel_rfl) (size40C hz2) ?_)
  | (go_at_call 56; (with_reducible refine (hse _ hk).mono ?_); rintro e w3 ⟨rfl, hb3⟩; replace hB := hB.next hb3; replace hO := hO.next hb3; replace hk := hk.trans (hb3.mono hk.size); clear hb3)
  | (with_reducible refine wpList_load1 (by kernel_rfl) _ _ rfl B _ rfl _ _ hB _ e1 ga0 ?_)
  | (with_reducible refine wpList_load1 (by kernel_rfl) _ _ rfl O _ rfl _ _ hO _ e2 ga0 ?_)
  | (go_at_call 20; (with_reducible refine (rleq_f (LabD.lab' l1 hk) (LabD.lab' l2 hk) fx1 fy1).mono ?_); rintro e w4 ⟨rfl, hb4⟩; replace hk := hk.trans (hb4.mono hk.size); clear hb4))
 go_ret
 exact ⟨by rw [hr.out]; rfl, hk⟩
theorem rchanges_no {w : World} {C K : Array Value} {x y : Ob} (hx : ObD (LtN w) w C x) (hy : ObD (LtN w) w K y) (fx : LbF x.label) (sy : soundB y = true) (my : Small y) (fy : LbF y.label) (hv : seeB x.label y = false) : Calls Tryz.prog 104 #[.agg C, .agg K] w fun e w' => e = .returned (.bool (chgB x.label y)) ∧ Below w.heap.size w w' := by
 have hse := fun (W : World) (hk : Below w.heap.size w W) => rsees_v (hx.next hk) (hy.next hk) fx sy my fy
 rw [hv] at hse
 have hr : Hid (chgB x.label y = false) := by show chgB x.label y = _; unfold chgB; rw [hv]; rfl
 obtain ⟨RV, hRV⟩ : ∃ RV, Hid (chgB x.label y = RV) := ⟨_, rfl⟩
 rw [hRV.out] at hr ⊢
 have hz := hx.size
 have hz2 := hy.size
 obtain ⟨a1, n1, c1, e1, l1⟩ := hx.label
 obtain ⟨a2, n2, c2, e2, l2⟩ := hy.label
 have ga0 := Tryz.isAgg27
 have fx1 := fx.1
 have fy1 := fy.1
 clear hv
 go_enter Tryz.func104, Tryz.ntmps104
 go_wp2_with (first
  | go_skip
  | (with_reducible refine wpList_box rfl 43 (.tmp 0) rfl C rfl ?_; intro B W1 hN1 hB hk)
  | (with_reducible refine wpList_box rfl 43 (.tmp 1) rfl K rfl ?_; intro O W2 hN2 hO hk2; replace hB := hB.next hk2; replace hk := hk.trans (hk2.mono hk.size); clear hk2)
  | (with_reducible refine wpList_loadb (by kernel_rfl) 43 _ rfl B rfl C hB _ Tryz.underlying43 (by kernel_rfl) (size40C hz) ?_)
  | (with_reducible refine wpList_loadb (by kernel_rfl) 43 _ rfl O rfl K hO _ Tryz.underlying43 (by kernel_rfl) (size40C hz2) ?_)
  | (go_at_call 56; (with_reducible refine (hse _ hk).mono ?_); rintro e w3 ⟨rfl, hb3⟩; replace hB := hB.next hb3; replace hO := hO.next hb3; replace hk := hk.trans (hb3.mono hk.size); clear hb3))
 go_ret
 exact ⟨by rw [hr.out]; rfl, hk⟩
theorem rchanges_v {w : World} {C K : Array Value} {x y : Ob} (hx : ObD (LtN w) w C x) (hy : ObD (LtN w) w K y) (fx : LbF x.label) (sy : soundB y = true) (my : Small y) (fy : LbF y.label) : Calls Tryz.prog 104 #[.agg C, .agg K] w fun e w' => e = .returned (.bool (chgB x.label y)) ∧ Below w.heap.size w w' := by
 cases hv : seeB x.label y with
 | true => exact rchanges_yes hx hy fx sy my fy hv
 | false => exact rchanges_no hx hy fx sy my fy hv
def Rtl (k : Int) (x : Ob) (w W : World) (e : Ending) (w' : World) : Prop := ∃ C, e = .returned (.tuple #[.agg C, .int .i64 k]) ∧ ObD (LtN w) w' C (resO k x) ∧ Below W.heap.size W w'
structure Rw (w : World) (ao : Option Addr) (n cap : Nat) (X : List Ob) : Prop where
 obs : Obs w ao n cap X
 snd : ∀ x ∈ X, soundB x = true
 sml : Smalls X
 lab : ∀ x ∈ X, LbF x.label
theorem retL {w W0 W V : World} {R : Nat} {C : Array Value} {x : Ob} (h0 : w.heap.size ≤ W0.heap.size) (hk : Below W0.heap.size W0 W) (o : ObD (LtN w) W C x) (hR : W0.heap.size ≤ R) (q : Oth R W V) : ObD (LtN w) V C x ∧ Below W0.heap.size W0 V :=
 ⟨o.laterK fun b hb => q.block b (by have : b < w.heap.size := hb; omega), q.below _ _ hR hk⟩
theorem res_err {k : Int} (h : k ≠ 0) (x : Ob) : resO k x = zOb := by unfold resO; rw [if_neg h]
theorem rdir_a {w V0 : World} {t ke ro : Int} {ao : Option Addr} {n cap : Nat} {X : List Ob} {C : Array Value} {x : Ob} {i : Int} (h : Rw w ao n cap X) (hk0 : Below w.heap.size w V0) (hx : ObD (LtN w) w C x) (fx : LbF x.label) (hf : (fnd X i).isSome = false) {wr : Bool} (hE : dirE X x.label i wr = 1) : Calls Tryz.prog 81 #[.agg #[.int .i64 t, .int .u64 ke, .int .u64 ro, .slice ao n cap], .agg C, .int .u64 i, .bool wr] V0 (Rtl (dirE X x.label i wr) (fO X i) w V0) := by
 rw [hE]
 clear hE
 have hz := hx.size
 have hzg : (Tryz.prog.info? 25).map (·.size) = some (#[.int .i64 t, .int .u64 ke, .int .u64 ro, .slice ao n cap] : Array Value).size := by kernel_rfl
 have ga2 := Tryz.isAgg3
 have ga1 := Tryz.isAgg22
 have hff := fun (W : World) (hk : Below w.heap.size w W) => rfind_at (t := t) (ke := ke) (ro := ro) (i := i) h.obs hk
 rw [hf] at hff
 clear hf
 obtain ⟨D, hD⟩ : ∃ D : Array Value, D = #[.int .i64 t, .int .u64 ke, .int .u64 ro, .slice ao n cap] := ⟨_, rfl⟩
 rw [← hD] at hzg hff
 rw [← hD]
 clear hD
 go_enter Tryz.func81, Tryz.ntmps81
 go_wp2_with (first
  | go_skip
  | (with_reducible refine wpList_box rfl 25 _ rfl D rfl ?_; intro B W1 hN1 hB hj)
  | (with_reducible refine wpList_box rfl 43 _ rfl C rfl ?_; intro T W3 hN3 hT hk3; replace hB := hB.next hk3; replace hj := hj.trans (hk3.mono hj.size); clear hk3)
  | ((with_reducible refine wpList_alloc rfl _ rfl zC zero40 ?_); have hxx := oF; intro P W4 hN4 hP hk4; clear hxx)
  | ((with_reducible refine wpList_alloc rfl _ rfl zC zero40 ?_); intro R W2 hN2 hR hk2; replace hB := hB.next hk2; replace hT := hT.next hk2; replace hj := hj.trans (hk2.mono hj.size); clear hk2)
  | (with_reducible refine wpList_loadb (by kernel_rfl) 25 _ rfl B rfl D hB _ Tryz.underlying25 (by kernel_rfl) hzg ?_)
  | (with_reducible refine wpList_loadb (by kernel_rfl) 43 _ rfl T rfl C hT _ Tryz.underlying43 (by kernel_rfl) (size40C hz) ?_)
  | (go_at_call 38; (with_reducible refine (hff _ (hk0.trans (hj.mono hk0.size))).mono ?_); rintro e w3 ⟨CF, rfl, oF, hb3⟩)
  | ((with_reducible refine wpList_store_blk rfl _ _ _ rfl P rfl CF rfl zC hP (size40C oF.size) (zC_size.trans oF.size.symm) oF.one ?_); intro V4 hP4 q4; obtain ⟨hb5, oG⟩ := laidL (hk0.trans (hj.mono hk0.size)) hb3 oF hN4 hk4 q4; have zG := oG.size; clear oF hb3 hk4 q4 hN4 hP; replace hB := hB.next hb5; replace hT := hT.next hb5; replace hR := hR.next hb5; replace hj := hj.trans (hb5.mono hj.size); clear hb5; have k1 := oG.kind; skip)
  | (with_reducible refine wpList_load1 (by kernel_rfl) _ _ rfl P _ rfl _ _ hP4 _ k1 ga2 ?_)
  | (with_reducible refine wpList_loadb (by kernel_rfl) 43 _ rfl P rfl CF hP4 _ Tryz.underlying43 (by kernel_rfl) (size40C zG) ?_)
  | ((with_reducible refine wpList_build rfl _ [] rfl zC ?hf ?_); (case hf => exact built_z))
  | ((with_reducible refine wpList_store_blk rfl _ _ _ rfl R rfl zC rfl zC hR (size40C zC_size) rfl (zC_d (fun _ => True) w).one ?_); intro V5 hR5 q5))
 refine bodyPost_ret (v := .tuple #[.agg zC, .int .i64 1]) (res40b Tryz.results81 rfl rfl hR5 zC_size) rfl ⟨zC, rfl, ?_, q5.below _ _ (by have := hN1.out; have := hN3.out; have := hN2.out; omega) hj⟩
 rw [res_err (by decide)]
 exact zC_d _ _
theorem rdir_b {w V0 : World} {t ke ro : Int} {ao : Option Addr} {n cap : Nat} {X : List Ob} {C : Array Value} {x : Ob} {i : Int} (h : Rw w ao n cap X) (hk0 : Below w.heap.size w V0) (hx : ObD (LtN w) w C x) (fx : LbF x.label) (hf : (fnd X i).isSome = true) (hd : ¬ (fO X i).kind = 2) {wr : Bool} (hE : dirE X x.label i wr = 1) : Calls Tryz.prog 81 #[.agg #[.int .i64 t, .int .u64 ke, .int .u64 ro, .slice ao n cap], .agg C, .int .u64 i, .bool wr] V0 (Rtl (dirE X x.label i wr) (fO X i) w V0) := by
 rw [hE]
 clear hE
 have hz := hx.size
 have hzg : (Tryz.prog.info? 25).map (·.size) = some (#[.int .i64 t, .int .u64 ke, .int .u64 ro, .slice ao n cap] : Array Value).size := by kernel_rfl
 have ga2 := Tryz.isAgg3
 have ga1 := Tryz.isAgg22
 have hff := fun (W : World) (hk : Below w.heap.size w W) => rfind_at (t := t) (ke := ke) (ro := ro) (i := i) h.obs hk
 rw [hf] at hff
 have hmem := (fO_mem hf).1
 have hsx := h.sml _ hmem
 have hsd := h.snd _ hmem
 have hlb := h.lab _ hmem
 have g1 : ((fO X i).kind != 2) = true := by simpa using hd
 clear hf hd
 obtain ⟨D, hD⟩ : ∃ D : Array Value, D = #[.int .i64 t, .int .u64 ke, .int .u64 ro, .slice ao n cap] := ⟨_, rfl⟩
 rw [← hD] at hzg hff
 rw [← hD]
 clear hD
 go_enter Tryz.func81, Tryz.ntmps81
 go_wp2_with (first
  | go_skip
  | (with_reducible refine wpList_box rfl 25 _ rfl D rfl ?_; intro B W1 hN1 hB hj)
  | (with_reducible refine wpList_box rfl 43 _ rfl C rfl ?_; intro T W3 hN3 hT hk3; replace hB := hB.next hk3; replace hj := hj.trans (hk3.mono hj.size); clear hk3)
  | ((with_reducible refine wpList_alloc rfl _ rfl zC zero40 ?_); have hxx := oF; intro P W4 hN4 hP hk4; clear hxx)
  | ((with_reducible refine wpList_alloc rfl _ rfl zC zero40 ?_); intro R W2 hN2 hR hk2; replace hB := hB.next hk2; replace hT := hT.next hk2; replace hj := hj.trans (hk2.mono hj.size); clear hk2)
  | (with_reducible refine wpList_loadb (by kernel_rfl) 25 _ rfl B rfl D hB _ Tryz.underlying25 (by kernel_rfl) hzg ?_)
  | (with_reducible refine wpList_loadb (by kernel_rfl) 43 _ rfl T rfl C hT _ Tryz.underlying43 (by kernel_rfl) (size40C hz) ?_)
  | (go_at_call 38; (with_reducible refine (hff _ (hk0.trans (hj.mono hk0.size))).mono ?_); rintro e w3 ⟨CF, rfl, oF, hb3⟩)
  | ((with_reducible refine wpList_store_blk rfl _ _ _ rfl P rfl CF rfl zC hP (size40C oF.size) (zC_size.trans oF.size.symm) oF.one ?_); intro V4 hP4 q4; obtain ⟨hb5, oG⟩ := laidL (hk0.trans (hj.mono hk0.size)) hb3 oF hN4 hk4 q4; have zG := oG.size; clear oF hb3 hk4 q4 hN4 hP; replace hB := hB.next hb5; replace hT := hT.next hb5; replace hR := hR.next hb5; replace hj := hj.trans (hb5.mono hj.size); clear hb5; have k1 := oG.kind; skip)
  | (with_reducible refine wpList_load1 (by kernel_rfl) _ _ rfl P _ rfl _ _ hP4 _ k1 ga2 ?_)
  | (with_reducible refine wpList_loadb (by kernel_rfl) 43 _ rfl P rfl CF hP4 _ Tryz.underlying43 (by kernel_rfl) (size40C zG) ?_)
  | ((with_reducible refine wpList_build rfl _ [] rfl zC ?hf ?_); (case hf => exact built_z))
  | ((with_reducible refine wpList_store_blk rfl _ _ _ rfl R rfl zC rfl zC hR (size40C zC_size) rfl (zC_d (fun _ => True) w).one ?_); intro V5 hR5 q5))
 refine bodyPost_ret (v := .tuple #[.agg zC, .int .i64 1]) (res40b Tryz.results81 rfl rfl hR5 zC_size) rfl ⟨zC, rfl, ?_, q5.below _ _ (by have := hN1.out; have := hN3.out; have := hN2.out; omega) hj⟩
 rw [res_err (by decide)]
 exact zC_d _ _
theorem rdir_c {w V0 : World} {t ke ro : Int} {ao : Option Addr} {n cap : Nat} {X : List Ob} {C : Array Value} {x : Ob} {i : Int} (h : Rw w ao n cap X) (hk0 : Below w.heap.size w V0) (hx : ObD (LtN w) w C x) (fx : LbF x.label) (hf : (fnd X i).isSome = true) (hd : (fO X i).kind = 2) (hs : seeB x.label (fO X i) = false) {wr : Bool} (hE : dirE X x.label i wr = 1) : Calls Tryz.prog 81 #[.agg #[.int .i64 t, .int .u64 ke, .int .u64 ro, .slice ao n cap], .agg C, .int .u64 i, .bool wr] V0 (Rtl (dirE X x.label i wr) (fO X i) w V0) := by
 rw [hE]
 clear hE
 have hz := hx.size
 have hzg : (Tryz.prog.info? 25).map (·.size) = some (#[.int .i64 t, .int .u64 ke, .int .u64 ro, .slice ao n cap] : Array Value).size := by kernel_rfl
 have ga2 := Tryz.isAgg3
 have ga1 := Tryz.isAgg22
 have hff := fun (W : World) (hk : Below w.heap.size w W) => rfind_at (t := t) (ke := ke) (ro := ro) (i := i) h.obs hk
 rw [hf] at hff
 have hmem := (fO_mem hf).1
 have hsx := h.sml _ hmem
 have hsd := h.snd _ hmem
 have hlb := h.lab _ hmem
 have hse := fun (W : World) (K : Array Value) (hk : Below w.heap.size w W) (hC : ObD (LtN w) W K (fO X i)) => rsees_v (hx.next hk) (ob_up hC hk) fx hsd hsx hlb
 rw [hs] at hse
 have HD : Hid ((fO X i).kind = 2) := hd
 clear hf hd hs
 obtain ⟨D, hD⟩ : ∃ D : Array Value, D = #[.int .i64 t, .int .u64 ke, .int .u64 ro, .slice ao n cap] := ⟨_, rfl⟩
 rw [← hD] at hzg hff
 rw [← hD]
 clear hD
 go_enter Tryz.func81, Tryz.ntmps81
 go_wp2_with (first
  | go_skip
  | (with_reducible refine wpList_box rfl 25 _ rfl D rfl ?_; intro B W1 hN1 hB hj)
  | (with_reducible refine wpList_box rfl 43 _ rfl C rfl ?_; intro T W3 hN3 hT hk3; replace hB := hB.next hk3; replace hj := hj.trans (hk3.mono hj.size); clear hk3)
  | ((with_reducible refine wpList_alloc rfl _ rfl zC zero40 ?_); have hxx := oF; intro P W4 hN4 hP hk4; clear hxx)
  | ((with_reducible refine wpList_alloc rfl _ rfl zC zero40 ?_); intro R W2 hN2 hR hk2; replace hB := hB.next hk2; replace hT := hT.next hk2; replace hj := hj.trans (hk2.mono hj.size); clear hk2)
  | (with_reducible refine wpList_loadb (by kernel_rfl) 25 _ rfl B rfl D hB _ Tryz.underlying25 (by kernel_rfl) hzg ?_)
  | (with_reducible refine wpList_loadb (by kernel_rfl) 43 _ rfl T rfl C hT _ Tryz.underlying43 (by kernel_rfl) (size40C hz) ?_)
  | (go_at_call 38; (with_reducible refine (hff _ (hk0.trans (hj.mono hk0.size))).mono ?_); rintro e w3 ⟨CF, rfl, oF, hb3⟩)
  | ((with_reducible refine wpList_store_blk rfl _ _ _ rfl P rfl CF rfl zC hP (size40C oF.size) (zC_size.trans oF.size.symm) oF.one ?_); intro V4 hP4 q4; obtain ⟨hb5, oG⟩ := laidL (hk0.trans (hj.mono hk0.size)) hb3 oF hN4 hk4 q4; have zG := oG.size; clear oF hb3 hk4 q4 hN4 hP; replace hB := hB.next hb5; replace hT := hT.next hb5; replace hR := hR.next hb5; replace hj := hj.trans (hb5.mono hj.size); clear hb5; have k1 := oG.kind; rw [HD.out] at k1; skip)
  | (with_reducible refine wpList_load1 (by kernel_rfl) _ _ rfl P _ rfl _ _ hP4 _ k1 ga2 ?_)
  | (with_reducible refine wpList_loadb (by kernel_rfl) 43 _ rfl P rfl CF hP4 _ Tryz.underlying43 (by kernel_rfl) (size40C zG) ?_)
  | (go_at_call 56; (with_reducible refine (hse _ _ (hk0.trans (hj.mono hk0.size)) oG).mono ?_); rintro e w6 ⟨rfl, hb6⟩; have hjo := hj; replace hB := hB.next hb6; replace hT := hT.next hb6; replace hR := hR.next hb6; replace hP4 := hP4.next hb6; replace hj := hj.trans (hb6.mono hj.size); replace oG := ob_lt oG (hk0.trans (hjo.mono hk0.size)) hb6; clear hb6)
  | ((with_reducible refine wpList_build rfl _ [] rfl zC ?hf ?_); (case hf => exact built_z))
  | ((with_reducible refine wpList_store_blk rfl _ _ _ rfl R rfl zC rfl zC hR (size40C zC_size) rfl (zC_d (fun _ => True) w).one ?_); intro V5 hR5 q5))
 refine bodyPost_ret (v := .tuple #[.agg zC, .int .i64 1]) (res40b Tryz.results81 rfl rfl hR5 zC_size) rfl ⟨zC, rfl, ?_, q5.below _ _ (by have := hN1.out; have := hN3.out; have := hN2.out; omega) hj⟩
 rw [res_err (by decide)]
 exact zC_d _ _
theorem rdir_d {w V0 : World} {t ke ro : Int} {ao : Option Addr} {n cap : Nat} {X : List Ob} {C : Array Value} {x : Ob} {i : Int} (h : Rw w ao n cap X) (hk0 : Below w.heap.size w V0) (hx : ObD (LtN w) w C x) (fx : LbF x.label) (hf : (fnd X i).isSome = true) (hd : (fO X i).kind = 2) (hs : seeB x.label (fO X i) = true) (hE : dirE X x.label i false = 0) : Calls Tryz.prog 81 #[.agg #[.int .i64 t, .int .u64 ke, .int .u64 ro, .slice ao n cap], .agg C, .int .u64 i, .bool false] V0 (Rtl (dirE X x.label i false) (fO X i) w V0) := by
 rw [hE]
 clear hE
 have hz := hx.size
 have hzg : (Tryz.prog.info? 25).map (·.size) = some (#[.int .i64 t, .int .u64 ke, .int .u64 ro, .slice ao n cap] : Array Value).size := by kernel_rfl
 have ga2 := Tryz.isAgg3
 have ga1 := Tryz.isAgg22
 have hff := fun (W : World) (hk : Below w.heap.size w W) => rfind_at (t := t) (ke := ke) (ro := ro) (i := i) h.obs hk
 rw [hf] at hff
 have hmem := (fO_mem hf).1
 have hsx := h.sml _ hmem
 have hsd := h.snd _ hmem
 have hlb := h.lab _ hmem
 have hse := fun (W : World) (K : Array Value) (hk : Below w.heap.size w W) (hC : ObD (LtN w) W K (fO X i)) => rsees_v (hx.next hk) (ob_up hC hk) fx hsd hsx hlb
 rw [hs] at hse
 have HD : Hid ((fO X i).kind = 2) := hd
 clear hf hd hs
 obtain ⟨D, hD⟩ : ∃ D : Array Value, D = #[.int .i64 t, .int .u64 ke, .int .u64 ro, .slice ao n cap] := ⟨_, rfl⟩
 rw [← hD] at hzg hff
 rw [← hD]
 clear hD
 go_enter Tryz.func81, Tryz.ntmps81
 go_wp2_with (first
  | go_skip
  | (with_reducible refine wpList_box rfl 25 _ rfl D rfl ?_; intro B W1 hN1 hB hj)
  | (with_reducible refine wpList_box rfl 43 _ rfl C rfl ?_; intro T W3 hN3 hT hk3; replace hB := hB.next hk3; replace hj := hj.trans (hk3.mono hj.size); clear hk3)
  | ((with_reducible refine wpList_alloc rfl _ rfl zC zero40 ?_); have hxx := oF; intro P W4 hN4 hP hk4; clear hxx)
  | ((with_reducible refine wpList_alloc rfl _ rfl zC zero40 ?_); intro R W2 hN2 hR hk2; replace hB := hB.next hk2; replace hT := hT.next hk2; replace hj := hj.trans (hk2.mono hj.size); clear hk2)
  | (with_reducible refine wpList_loadb (by kernel_rfl) 25 _ rfl B rfl D hB _ Tryz.underlying25 (by kernel_rfl) hzg ?_)
  | (with_reducible refine wpList_loadb (by kernel_rfl) 43 _ rfl T rfl C hT _ Tryz.underlying43 (by kernel_rfl) (size40C hz) ?_)
  | (go_at_call 38; (with_reducible refine (hff _ (hk0.trans (hj.mono hk0.size))).mono ?_); rintro e w3 ⟨CF, rfl, oF, hb3⟩)
  | ((with_reducible refine wpList_store_blk rfl _ _ _ rfl P rfl CF rfl zC hP (size40C oF.size) (zC_size.trans oF.size.symm) oF.one ?_); intro V4 hP4 q4; obtain ⟨hb5, oG⟩ := laidL (hk0.trans (hj.mono hk0.size)) hb3 oF hN4 hk4 q4; have zG := oG.size; clear oF hb3 hk4 q4 hN4 hP; replace hB := hB.next hb5; replace hT := hT.next hb5; replace hR := hR.next hb5; replace hj := hj.trans (hb5.mono hj.size); clear hb5; have k1 := oG.kind; rw [HD.out] at k1; skip)
  | (with_reducible refine wpList_load1 (by kernel_rfl) _ _ rfl P _ rfl _ _ hP4 _ k1 ga2 ?_)
  | (with_reducible refine wpList_loadb (by kernel_rfl) 43 _ rfl P rfl CF hP4 _ Tryz.underlying43 (by kernel_rfl) (size40C zG) ?_)
  | (go_at_call 56; (with_reducible refine (hse _ _ (hk0.trans (hj.mono hk0.size)) oG).mono ?_); rintro e w6 ⟨rfl, hb6⟩; have hjo := hj; replace hB := hB.next hb6; replace hT := hT.next hb6; replace hR := hR.next hb6; replace hP4 := hP4.next hb6; replace hj := hj.trans (hb6.mono hj.size); replace oG := ob_lt oG (hk0.trans (hjo.mono hk0.size)) hb6; clear hb6)
  | ((with_reducible refine wpList_build rfl _ [] rfl zC ?hf ?_); (case hf => exact built_z))
  | ((with_reducible refine wpList_store_blk rfl _ _ _ rfl R rfl CF rfl zC hR (size40C zG) (zC_size.trans zG.symm) oG.one ?_); intro V5 hR5 q5))
 obtain ⟨o9, b9⟩ := retL hk0.size hj oG (by have := hN1.out; have := hN3.out; have := hN2.out; omega) q5
 exact bodyPost_ret (v := .tuple #[.agg CF, .int .i64 0]) (res40b Tryz.results81 rfl rfl hR5 zG) rfl ⟨CF, rfl, o9, b9⟩
theorem rdir_e {w V0 : World} {t ke ro : Int} {ao : Option Addr} {n cap : Nat} {X : List Ob} {C : Array Value} {x : Ob} {i : Int} (h : Rw w ao n cap X) (hk0 : Below w.heap.size w V0) (hx : ObD (LtN w) w C x) (fx : LbF x.label) (hf : (fnd X i).isSome = true) (hd : (fO X i).kind = 2) (hs : seeB x.label (fO X i) = true) (hc : chgB x.label (fO X i) = true) (hE : dirE X x.label i true = 0) : Calls Tryz.prog 81 #[.agg #[.int .i64 t, .int .u64 ke, .int .u64 ro, .slice ao n cap], .agg C, .int .u64 i, .bool true] V0 (Rtl (dirE X x.label i true) (fO X i) w V0) := by
 rw [hE]
 clear hE
 have hz := hx.size
 have hzg : (Tryz.prog.info? 25).map (·.size) = some (#[.int .i64 t, .int .u64 ke, .int .u64 ro, .slice ao n cap] : Array Value).size := by kernel_rfl
 have ga2 := Tryz.isAgg3
 have ga1 := Tryz.isAgg22
 have hff := fun (W : World) (hk : Below w.heap.size w W) => rfind_at (t := t) (ke := ke) (ro := ro) (i := i) h.obs hk
 rw [hf] at hff
 have hmem := (fO_mem hf).1
 have hsx := h.sml _ hmem
 have hsd := h.snd _ hmem
 have hlb := h.lab _ hmem
 have hse := fun (W : World) (K : Array Value) (hk : Below w.heap.size w W) (hC : ObD (LtN w) W K (fO X i)) => rsees_v (hx.next hk) (ob_up hC hk) fx hsd hsx hlb
 rw [hs] at hse
 have hch := fun (W : World) (K : Array Value) (hk : Below w.heap.size w W) (hC : ObD (LtN w) W K (fO X i)) => rchanges_v (hx.next hk) (ob_up hC hk) fx hsd hsx hlb
 rw [hc] at hch
 have HD : Hid ((fO X i).kind = 2) := hd
 clear hf hd hs hc
 obtain ⟨D, hD⟩ : ∃ D : Array Value, D = #[.int .i64 t, .int .u64 ke, .int .u64 ro, .slice ao n cap] := ⟨_, rfl⟩
 rw [← hD] at hzg hff
 rw [← hD]
 clear hD
 go_enter Tryz.func81, Tryz.ntmps81
 go_wp2_with (first
  | go_skip
  | (with_reducible refine wpList_box rfl 25 _ rfl D rfl ?_; intro B W1 hN1 hB hj)
  | (with_reducible refine wpList_box rfl 43 _ rfl C rfl ?_; intro T W3 hN3 hT hk3; replace hB := hB.next hk3; replace hj := hj.trans (hk3.mono hj.size); clear hk3)
  | ((with_reducible refine wpList_alloc rfl _ rfl zC zero40 ?_); have hxx := oF; intro P W4 hN4 hP hk4; clear hxx)
  | ((with_reducible refine wpList_alloc rfl _ rfl zC zero40 ?_); intro R W2 hN2 hR hk2; replace hB := hB.next hk2; replace hT := hT.next hk2; replace hj := hj.trans (hk2.mono hj.size); clear hk2)
  | (with_reducible refine wpList_loadb (by kernel_rfl) 25 _ rfl B rfl D hB _ Tryz.underlying25 (by kernel_rfl) hzg ?_)
  | (with_reducible refine wpList_loadb (by kernel_rfl) 43 _ rfl T rfl C hT _ Tryz.underlying43 (by kernel_rfl) (size40C hz) ?_)
  | (go_at_call 38; (with_reducible refine (hff _ (hk0.trans (hj.mono hk0.size))).mono ?_); rintro e w3 ⟨CF, rfl, oF, hb3⟩)
  | ((with_reducible refine wpList_store_blk rfl _ _ _ rfl P rfl CF rfl zC hP (size40C oF.size) (zC_size.trans oF.size.symm) oF.one ?_); intro V4 hP4 q4; obtain ⟨hb5, oG⟩ := laidL (hk0.trans (hj.mono hk0.size)) hb3 oF hN4 hk4 q4; have zG := oG.size; clear oF hb3 hk4 q4 hN4 hP; replace hB := hB.next hb5; replace hT := hT.next hb5; replace hR := hR.next hb5; replace hj := hj.trans (hb5.mono hj.size); clear hb5; have k1 := oG.kind; rw [HD.out] at k1; skip)
  | (with_reducible refine wpList_load1 (by kernel_rfl) _ _ rfl P _ rfl _ _ hP4 _ k1 ga2 ?_)
  | (with_reducible refine wpList_loadb (by kernel_rfl) 43 _ rfl P rfl CF hP4 _ Tryz.underlying43 (by kernel_rfl) (size40C zG) ?_)
  | (go_at_call 56; (with_reducible refine (hse _ _ (hk0.trans (hj.mono hk0.size)) oG).mono ?_); rintro e w6 ⟨rfl, hb6⟩; have hjo := hj; replace hB := hB.next hb6; replace hT := hT.next hb6; replace hR := hR.next hb6; replace hP4 := hP4.next hb6; replace hj := hj.trans (hb6.mono hj.size); replace oG := ob_lt oG (hk0.trans (hjo.mono hk0.size)) hb6; clear hb6)
  | (go_at_call 104; (with_reducible refine (hch _ _ (hk0.trans (hj.mono hk0.size)) oG).mono ?_); rintro e w7 ⟨rfl, hb6⟩; have hjo := hj; replace hB := hB.next hb6; replace hT := hT.next hb6; replace hR := hR.next hb6; replace hP4 := hP4.next hb6; replace hj := hj.trans (hb6.mono hj.size); replace oG := ob_lt oG (hk0.trans (hjo.mono hk0.size)) hb6; clear hb6)
  | ((with_reducible refine wpList_build rfl _ [] rfl zC ?hf ?_); (case hf => exact built_z))
  | ((with_reducible refine wpList_store_blk rfl _ _ _ rfl R rfl CF rfl zC hR (size40C zG) (zC_size.trans zG.symm) oG.one ?_); intro V5 hR5 q5))
 obtain ⟨o9, b9⟩ := retL hk0.size hj oG (by have := hN1.out; have := hN3.out; have := hN2.out; omega) q5
 exact bodyPost_ret (v := .tuple #[.agg CF, .int .i64 0]) (res40b Tryz.results81 rfl rfl hR5 zG) rfl ⟨CF, rfl, o9, b9⟩
theorem rdir_f {w V0 : World} {t ke ro : Int} {ao : Option Addr} {n cap : Nat} {X : List Ob} {C : Array Value} {x : Ob} {i : Int} (h : Rw w ao n cap X) (hk0 : Below w.heap.size w V0) (hx : ObD (LtN w) w C x) (fx : LbF x.label) (hf : (fnd X i).isSome = true) (hd : (fO X i).kind = 2) (hs : seeB x.label (fO X i) = true) (hc : chgB x.label (fO X i) = false) (hE : dirE X x.label i true = 2) : Calls Tryz.prog 81 #[.agg #[.int .i64 t, .int .u64 ke, .int .u64 ro, .slice ao n cap], .agg C, .int .u64 i, .bool true] V0 (Rtl (dirE X x.label i true) (fO X i) w V0) := by
 rw [hE]
 clear hE
 have hz := hx.size
 have hzg : (Tryz.prog.info? 25).map (·.size) = some (#[.int .i64 t, .int .u64 ke, .int .u64 ro, .slice ao n cap] : Array Value).size := by kernel_rfl
 have ga2 := Tryz.isAgg3
 have ga1 := Tryz.isAgg22
 have hff := fun (W : World) (hk : Below w.heap.size w W) => rfind_at (t := t) (ke := ke) (ro := ro) (i := i) h.obs hk
 rw [hf] at hff
 have hmem := (fO_mem hf).1
 have hsx := h.sml _ hmem
 have hsd := h.snd _ hmem
 have hlb := h.lab _ hmem
 have hse := fun (W : World) (K : Array Value) (hk : Below w.heap.size w W) (hC : ObD (LtN w) W K (fO X i)) => rsees_v (hx.next hk) (ob_up hC hk) fx hsd hsx hlb
 rw [hs] at hse
 have hch := fun (W : World) (K : Array Value) (hk : Below w.heap.size w W) (hC : ObD (LtN w) W K (fO X i)) => rchanges_v (hx.next hk) (ob_up hC hk) fx hsd hsx hlb
 rw [hc] at hch
 have HD : Hid ((fO X i).kind = 2) := hd
 clear hf hd hs hc
 obtain ⟨D, hD⟩ : ∃ D : Array Value, D = #[.int .i64 t, .int .u64 ke, .int .u64 ro, .slice ao n cap] := ⟨_, rfl⟩
 rw [← hD] at hzg hff
 rw [← hD]
 clear hD
 go_enter Tryz.func81, Tryz.ntmps81
 go_wp2_with (first
  | go_skip
  | (with_reducible refine wpList_box rfl 25 _ rfl D rfl ?_; intro B W1 hN1 hB hj)
  | (with_reducible refine wpList_box rfl 43 _ rfl C rfl ?_; intro T W3 hN3 hT hk3; replace hB := hB.next hk3; replace hj := hj.trans (hk3.mono hj.size); clear hk3)
  | ((with_reducible refine wpList_alloc rfl _ rfl zC zero40 ?_); have hxx := oF; intro P W4 hN4 hP hk4; clear hxx)
  | ((with_reducible refine wpList_alloc rfl _ rfl zC zero40 ?_); intro R W2 hN2 hR hk2; replace hB := hB.next hk2; replace hT := hT.next hk2; replace hj := hj.trans (hk2.mono hj.size); clear hk2)
  | (with_reducible refine wpList_loadb (by kernel_rfl) 25 _ rfl B rfl D hB _ Tryz.underlying25 (by kernel_rfl) hzg ?_)
  | (with_reducible refine wpList_loadb (by kernel_rfl) 43 _ rfl T rfl C hT _ Tryz.underlying43 (by kernel_rfl) (size40C hz) ?_)
  | (go_at_call 38; (with_reducible refine (hff _ (hk0.trans (hj.mono hk0.size))).mono ?_); rintro e w3 ⟨CF, rfl, oF, hb3⟩)
  | ((with_reducible refine wpList_store_blk rfl _ _ _ rfl P rfl CF rfl zC hP (size40C oF.size) (zC_size.trans oF.size.symm) oF.one ?_); intro V4 hP4 q4; obtain ⟨hb5, oG⟩ := laidL (hk0.trans (hj.mono hk0.size)) hb3 oF hN4 hk4 q4; have zG := oG.size; clear oF hb3 hk4 q4 hN4 hP; replace hB := hB.next hb5; replace hT := hT.next hb5; replace hR := hR.next hb5; replace hj := hj.trans (hb5.mono hj.size); clear hb5; have k1 := oG.kind; rw [HD.out] at k1; skip)
  | (with_reducible refine wpList_load1 (by kernel_rfl) _ _ rfl P _ rfl _ _ hP4 _ k1 ga2 ?_)
  | (with_reducible refine wpList_loadb (by kernel_rfl) 43 _ rfl P rfl CF hP4 _ Tryz.underlying43 (by kernel_rfl) (size40C zG) ?_)
  | (go_at_call 56; (with_reducible refine (hse _ _ (hk0.trans (hj.mono hk0.size)) oG).mono ?_); rintro e w6 ⟨rfl, hb6⟩; have hjo := hj; replace hB := hB.next hb6; replace hT := hT.next hb6; replace hR := hR.next hb6; replace hP4 := hP4.next hb6; replace hj := hj.trans (hb6.mono hj.size); replace oG := ob_lt oG (hk0.trans (hjo.mono hk0.size)) hb6; clear hb6)
  | (go_at_call 104; (with_reducible refine (hch _ _ (hk0.trans (hj.mono hk0.size)) oG).mono ?_); rintro e w7 ⟨rfl, hb6⟩; have hjo := hj; replace hB := hB.next hb6; replace hT := hT.next hb6; replace hR := hR.next hb6; replace hP4 := hP4.next hb6; replace hj := hj.trans (hb6.mono hj.size); replace oG := ob_lt oG (hk0.trans (hjo.mono hk0.size)) hb6; clear hb6)
  | ((with_reducible refine wpList_build rfl _ [] rfl zC ?hf ?_); (case hf => exact built_z))
  | ((with_reducible refine wpList_store_blk rfl _ _ _ rfl R rfl zC rfl zC hR (size40C zC_size) rfl (zC_d (fun _ => True) w).one ?_); intro V5 hR5 q5))
 refine bodyPost_ret (v := .tuple #[.agg zC, .int .i64 2]) (res40b Tryz.results81 rfl rfl hR5 zC_size) rfl ⟨zC, rfl, ?_, q5.below _ _ (by have := hN1.out; have := hN3.out; have := hN2.out; omega) hj⟩
 rw [res_err (by decide)]
 exact zC_d _ _
theorem rdir_v {w V0 : World} {t ke ro : Int} {ao : Option Addr} {n cap : Nat} {X : List Ob} {C : Array Value} {x : Ob} {i : Int} {wr : Bool} (h : Rw w ao n cap X) (hk0 : Below w.heap.size w V0) (hx : ObD (LtN w) w C x) (fx : LbF x.label) : Calls Tryz.prog 81 #[.agg #[.int .i64 t, .int .u64 ke, .int .u64 ro, .slice ao n cap], .agg C, .int .u64 i, .bool wr] V0 (Rtl (dirE X x.label i wr) (fO X i) w V0) := by
 cases hf : (fnd X i).isSome with
 | false => exact rdir_a h hk0 hx fx hf (dir_hid (by rw [hf]; exact fun q => absurd q.1 (by decide)))
 | true =>
  by_cases hd : (fO X i).kind = 2
  ·cases hs : seeB x.label (fO X i) with
   | false => exact rdir_c h hk0 hx fx hf hd hs (dir_hid (by rw [hs]; exact fun q => absurd q.2.2 (by decide)))
   | true =>
    cases wr with
    | false => exact rdir_d h hk0 hx fx hf hd hs (dir_ok ⟨hf, hd, hs⟩ (fun q => absurd q.1 (by decide)))
    | true =>
     cases hc : chgB x.label (fO X i) with
     | true => exact rdir_e h hk0 hx fx hf hd hs hc (dir_ok ⟨hf, hd, hs⟩ (by rw [hc]; exact fun q => absurd q.2 (by decide)))
     | false => exact rdir_f h hk0 hx fx hf hd hs hc (dir_two ⟨hf, hd, hs⟩ ⟨rfl, hc⟩)
  ·exact rdir_b h hk0 hx fx hf hd (dir_hid fun q => hd q.2.1)
theorem rlook_no {w V0 : World} {t ke ro : Int} {ao : Option Addr} {n cap : Nat} {X : List Ob} {C : Array Value} {x : Ob} {G : Array Value} {c i : Int} (h : Rw w ao n cap X) (hk0 : Below w.heap.size w V0) (hx : ObD (LtN w) w C x) (fx : LbF x.label) (g0 : G[0]? = some (.int .u64 c)) (g1 : G[1]? = some (.int .u64 i)) (gz : G.size = 2) (hln : ∀ d ∈ X, ∀ j ∈ d.links, (fnd X j).isSome = true) (hd : dirE X x.label c false ≠ 0) : Calls Tryz.prog 55 #[.agg #[.int .i64 t, .int .u64 ke, .int .u64 ro, .slice ao n cap], .agg C, .agg G] V0 (Rtl (lokE X x.label c i) (fO X i) w V0) := by
 have hz := hx.size
 have hzg : (Tryz.prog.info? 25).map (·.size) = some (#[.int .i64 t, .int .u64 ke, .int .u64 ro, .slice ao n cap] : Array Value).size := by kernel_rfl
 have ga2 := Tryz.isAgg3
 have ga1 := Tryz.isAgg22
 have hzr : (Tryz.prog.info? 32).map (·.size) = some G.size := by rw [gz]; kernel_rfl
 have hdi := fun (W : World) (hk : Below w.heap.size w W) => rdir_v (t := t) (ke := ke) (ro := ro) (i := c) (wr := false) h hk hx fx
 have HE : Hid (dirE X x.label c false ≠ 0) := hd
 have hl : lokE X x.label c i = dirE X x.label c false := lok_err hd
 rw [hl]
 clear hl hd
 generalize dirE X x.label c false = ek at hdi HE ⊢
 have hb0 : (ek != 0) = true := by simpa using HE.out
 obtain ⟨D, hD⟩ : ∃ D : Array Value, D = #[.int .i64 t, .int .u64 ke, .int .u64 ro, .slice ao n cap] := ⟨_, rfl⟩
 rw [← hD] at hzg hdi
 rw [← hD]
 clear hD
 go_enter Tryz.func55, Tryz.ntmps55
 go_wp2_with (first
  | go_skip
  | (with_reducible refine wpList_box rfl 25 _ rfl D rfl ?_; intro B W1 hN1 hB hj)
  | (with_reducible refine wpList_box rfl 43 _ rfl C rfl ?_; intro T W3 hN3 hT hk3; replace hB := hB.next hk3; replace hj := hj.trans (hk3.mono hj.size); clear hk3)
  | (with_reducible refine wpList_box rfl 32 _ rfl G rfl ?_; intro Q W8 hN8 hQ hk8; replace hB := hB.next hk8; replace hT := hT.next hk8; replace hj := hj.trans (hk8.mono hj.size); clear hk8)
  | ((with_reducible refine wpList_alloc rfl _ rfl zC zero40 ?_); have hxx := oF; intro P W4 hN4 hP hk4; clear hxx)
  | ((with_reducible refine wpList_alloc rfl _ rfl zC zero40 ?_); intro R W2 hN2 hR hk2; replace hB := hB.next hk2; replace hT := hT.next hk2; replace hQ := hQ.next hk2; replace hj := hj.trans (hk2.mono hj.size); clear hk2)
  | (with_reducible refine wpList_loadb (by kernel_rfl) 25 _ rfl B rfl D hB _ Tryz.underlying25 (by kernel_rfl) hzg ?_)
  | (with_reducible refine wpList_loadb (by kernel_rfl) 43 _ rfl T rfl C hT _ Tryz.underlying43 (by kernel_rfl) (size40C hz) ?_)
  | (with_reducible refine wpList_load1 (by kernel_rfl) _ _ rfl Q _ rfl _ _ hQ _ g0 ga1 ?_)
  | (go_at_call 81; (with_reducible refine (hdi _ (hk0.trans (hj.mono hk0.size))).mono ?_); rintro e w3 ⟨CF, rfl, oF, hb3⟩)
  | ((with_reducible refine wpList_store_blk rfl _ _ _ rfl P rfl CF rfl zC hP (size40C oF.size) (zC_size.trans oF.size.symm) oF.one ?_); intro V4 hP4 q4; obtain ⟨hb5, oG⟩ := laidL (hk0.trans (hj.mono hk0.size)) hb3 oF hN4 hk4 q4; have zG := oG.size; clear oF hb3 hk4 q4 hN4 hP; replace hB := hB.next hb5; replace hT := hT.next hb5; replace hQ := hQ.next hb5; replace hR := hR.next hb5; replace hj := hj.trans (hb5.mono hj.size); clear hb5; skip)
  | ((with_reducible refine wpList_build rfl _ [] rfl zC ?hf ?_); (case hf => exact built_z))
  | ((with_reducible refine wpList_store_blk rfl _ _ _ rfl R rfl zC rfl zC hR (size40C zC_size) rfl (zC_d (fun _ => True) w).one ?_); intro V5 hR5 q5))
 refine bodyPost_ret (v := .tuple #[.agg zC, .int .i64 ek]) (res40b Tryz.results55 rfl rfl hR5 zC_size) rfl ⟨zC, rfl, ?_, q5.below _ _ (by have := hN1.out; have := hN3.out; have := hN8.out; have := hN2.out; omega) hj⟩
 rw [res_err (HE.out)]
 exact zC_d _ _
theorem rlook_ok {w V0 : World} {t ke ro : Int} {ao : Option Addr} {n cap : Nat} {X : List Ob} {C : Array Value} {x : Ob} {G : Array Value} {c i : Int} (h : Rw w ao n cap X) (hk0 : Below w.heap.size w V0) (hx : ObD (LtN w) w C x) (fx : LbF x.label) (g0 : G[0]? = some (.int .u64 c)) (g1 : G[1]? = some (.int .u64 i)) (gz : G.size = 2) (hln : ∀ d ∈ X, ∀ j ∈ d.links, (fnd X j).isSome = true) (hd : dirE X x.label c false = 0) : Calls Tryz.prog 55 #[.agg #[.int .i64 t, .int .u64 ke, .int .u64 ro, .slice ao n cap], .agg C, .agg G] V0 (Rtl (lokE X x.label c i) (fO X i) w V0) := by
 have hz := hx.size
 have hzg : (Tryz.prog.info? 25).map (·.size) = some (#[.int .i64 t, .int .u64 ke, .int .u64 ro, .slice ao n cap] : Array Value).size := by kernel_rfl
 have ga2 := Tryz.isAgg3
 have ga1 := Tryz.isAgg22
 have hzr : (Tryz.prog.info? 32).map (·.size) = some G.size := by rw [gz]; kernel_rfl
 have hdi := fun (W : World) (hk : Below w.heap.size w W) => rdir_v (t := t) (ke := ke) (ro := ro) (i := c) (wr := false) h hk hx fx
 have hmx : Tryz.prog.follows .mixedOrders = true := by kernel_rfl
 have hdm : fO X c ∈ X := by
  rcases dir_cases X x.label c false with q | q | q
  ·exact (fO_mem q.2.1).1
  ·rw [hd] at q; exact absurd q (by decide)
  ·exact absurd q.2 (by decide)
 have HL := hln _ hdm
 rw [hd] at hdi
 have hff := fun (W : World) (hk : Below w.heap.size w W) => rfind_at (t := t) (ke := ke) (ro := ro) (i := i) h.obs hk
 have Hno : Hid ((∀ k, k < (fO X c).links.length → (fO X c).links.getD k 0 ≠ i) → lokE X x.label c i = 1) := fun q => lok_no hd fun e => by
  obtain ⟨k, hk, e2⟩ := List.getElem_of_mem e.1
  exact q k hk (by rw [List.getD_eq_getElem?_getD, List.getElem?_eq_getElem hk]; exact e2)
 have Hyes : Hid (∀ k, k < (fO X c).links.length → (fO X c).links.getD k 0 = i → lokE X x.label c i = 0 ∧ (fnd X i).isSome = true) := fun k hk e => by
  have hm : i ∈ (fO X c).links := by rw [← e, List.getD_eq_getElem?_getD, List.getElem?_eq_getElem hk]; exact List.getElem_mem hk
  exact ⟨lok_ok hd ⟨hm, HL i hm⟩, HL i hm⟩
 generalize lokE X x.label c i = ek at Hno Hyes ⊢
 clear hd HL
 obtain ⟨D, hD⟩ : ∃ D : Array Value, D = #[.int .i64 t, .int .u64 ke, .int .u64 ro, .slice ao n cap] := ⟨_, rfl⟩
 rw [← hD] at hzg hdi hff
 rw [← hD]
 clear hD
 go_enter Tryz.func55, Tryz.ntmps55
 go_wp2_with (first
  | go_skip
  | (with_reducible refine wpList_box rfl 25 _ rfl D rfl ?_; intro B W1 hN1 hB hj)
  | (with_reducible refine wpList_box rfl 43 _ rfl C rfl ?_; intro T W3 hN3 hT hk3; replace hB := hB.next hk3; replace hj := hj.trans (hk3.mono hj.size); clear hk3)
  | (with_reducible refine wpList_box rfl 32 _ rfl G rfl ?_; intro Q W8 hN8 hQ hk8; replace hB := hB.next hk8; replace hT := hT.next hk8; replace hj := hj.trans (hk8.mono hj.size); clear hk8)
  | ((with_reducible refine wpList_alloc rfl _ rfl zC zero40 ?_); have hxx := oF; intro P W4 hN4 hP hk4; clear hxx)
  | ((with_reducible refine wpList_alloc rfl _ rfl zC zero40 ?_); intro R W2 hN2 hR hk2; replace hB := hB.next hk2; replace hT := hT.next hk2; replace hQ := hQ.next hk2; replace hj := hj.trans (hk2.mono hj.size); clear hk2)
  | (with_reducible refine wpList_loadb (by kernel_rfl) 25 _ rfl B rfl D hB _ Tryz.underlying25 (by kernel_rfl) hzg ?_)
  | (with_reducible refine wpList_loadb (by kernel_rfl) 43 _ rfl T rfl C hT _ Tryz.underlying43 (by kernel_rfl) (size40C hz) ?_)
  | (with_reducible refine wpList_load1 (by kernel_rfl) _ _ rfl Q _ rfl _ _ hQ _ g0 ga1 ?_)
  | (go_at_call 81; (with_reducible refine (hdi _ (hk0.trans (hj.mono hk0.size))).mono ?_); rintro e w3 ⟨CF, rfl, oF, hb3⟩; replace oF : ObD (LtN w) w3 CF (fO X c) := oF)
  | ((with_reducible refine wpList_store_blk rfl _ _ _ rfl P rfl CF rfl zC hP (size40C oF.size) (zC_size.trans oF.size.symm) oF.one ?_); intro V4 hP4 q4; obtain ⟨hb5, oG⟩ := laidL (hk0.trans (hj.mono hk0.size)) hb3 oF hN4 hk4 q4; have zG := oG.size; clear oF hb3 hk4 q4 hN4 hP; replace hB := hB.next hb5; replace hT := hT.next hb5; replace hQ := hQ.next hb5; replace hR := hR.next hb5; replace hj := hj.trans (hb5.mono hj.size); clear hb5; skip))
 obtain ⟨al, nl, cl, c5, hLk⟩ := oG.links
 have hRl : Hid (V0.heap.size ≤ R) := (by have := hN1.out; have := hN3.out; have := hN8.out; have := hN2.out; omega : V0.heap.size ≤ R)
 have hln2 : Hid ((fO X c).links.length = nl) := hLk.1
 have hlc := hLk.2.1
 have hlm := hLk.2.2.1.1
 rw [hln2.out] at Hno Hyes
 clear hN1 hN3 hN8 hN2
 go_loopw [10] (fun j wr => ∃ k : Nat, k ≤ nl ∧ j = .int .i64 k ∧ Hid (∀ q, q < k → (fO X c).links.getD q 0 ≠ i) ∧ Below V4.heap.size V4 wr) (fun j _ => nl - (intOf j).toNat)
 case atStart => exact ⟨0, Nat.zero_le _, rfl, fun q hq => absurd hq (by omega), Below.refl _ _⟩
 case round =>
  obtain ⟨k, hkn1, rfl, hall, hb7⟩ := hrel
  replace hB := hB.next hb7
  replace hQ := hQ.next hb7
  replace hR := hR.next hb7
  replace hP4 := hP4.next hb7
  have hkw : Below w.heap.size w V4 := hk0.trans (hj.mono hk0.size)
  have hjw := hj.trans (hb7.mono hj.size)
  replace hk0 := hk0
  by_cases hkn : k < nl
  ·obtain ⟨b, off, rfl, hbb, hc⟩ := ct_at hLk hkn
   have hkn' : (k : Int) < nl := by omega
   have hb2 : b < w.heap.size := hbb
   obtain ⟨wd, hwd⟩ : ∃ wd, Hid ((fO X c).links.getD k 0 = wd) := ⟨_, rfl⟩
   rw [hwd.out] at hc
   replace hc := (World.cell?_of_block (w := V4) (a := ⟨b, off + k, none⟩) (hb7.block b (Nat.lt_of_lt_of_le hb2 hkw.size))).trans hc
   go_wp2_with (first
    | (with_reducible refine wpList_load1 (by kernel_rfl) _ _ rfl P _ rfl _ _ hP4 _ c5 Tryz.isAgg28 ?_))
   refine PgM.region_out (S := fun W => Below wr.heap.size wr W) hmx ((Below.refl _ _).drew) (fun hS => ?_)
   generalize wr.drew = v6 at hS ⊢
   by_cases hw : wd = i
   ·subst hw
    refine wpAnyH_sym (by kernel_rfl) (fun _ _ _ _ _ h => h) hS [(0, none), (1, some (.slice (some ⟨b, off, none⟩) nl cl)), (2, none), (3, some (.pointer (some ⟨b, off + k, none⟩))), (4, some (.int .u64 wd)), (5, none), (6, some (.int .u64 wd)), (7, some (.bool true))] (l' := #[true, true, true, true, true, true, true, true]) (a' := { tmps := #[.agg D, .agg C, .agg G, .pointer (some ⟨B, 0, none⟩), .pointer (some ⟨T, 0, none⟩), .pointer (some ⟨Q, 0, none⟩), .pointer (some ⟨R, 0, none⟩), u7, .pointer (some ⟨P, 0, none⟩), .int .i64 0, .int .i64 k, u11, u12, .tuple #[.agg CF, .int .i64 0], .agg D, .agg C, .pointer (some ⟨Q, 0, none⟩), .int .u64 c, .tuple #[.agg CF, .int .i64 0], .agg CF, .int .i64 0, .int .i64 0, .bool false, undef, undef, .int .i64 k, .pointer (some ⟨P, 5, none⟩), .slice (some ⟨b, off, none⟩) nl cl, .int .i64 nl, .bool true, u30, u31, .pointer (some ⟨P, 5, none⟩), .slice (some ⟨b, off, none⟩) nl cl, .int .i64 k, .pointer (some ⟨b, off + k, none⟩), .int .u64 wd, .pointer (some ⟨Q, 1, none⟩), .int .u64 wd, .bool true, u40, u41, u42, u43, u44, u45, u46, u47, undef], defers := [] }) (obs := [.load 28 P 5 (.slice (some ⟨b, off, none⟩) nl cl), .ia 28 (.slice (some ⟨b, off, none⟩) nl cl) (.int .i64 k) (.pointer (some ⟨b, off + k, none⟩)), .load 22 b (off + k) (.int .u64 wd), .load 22 Q 1 (.int .u64 wd), .test .eql 22 (.tmp 36) (.tmp 38) (.int .u64 wd) (.int .u64 wd) (.bool true)]) (n := 0) (by kernel_rfl) (by kernel_rfl) ⟨ob_load1 (fun _ h => hP4.next h) c5 Tryz.isAgg28, iaw_at hkn, ob_word (fun W h => (World.cell?_of_block (w := wr) (a := ⟨b, off + k, none⟩) (h.block b (Nat.lt_of_lt_of_le hb2 (hkw.trans (hb7.mono hkw.size)).size))).trans hc) Tryz.isAgg22, ob_load1 (fun _ h => hQ.next h) g1 Tryz.isAgg22, ob_yes (fun _ => eqg_int _ _ _ _ _ _) (show Hid (wd = wd) from rfl), trivial⟩ ?_
    refine wpAnyH_done (by kernel_rfl) ?_ _
    obtain ⟨he0, hfs⟩ := Hyes.out k hkn hwd.out
    subst he0
    rw [hfs] at hff
    clear hall Hno Hyes
    replace hB := hB.next hS
    replace hQ := hQ.next hS
    replace hR := hR.next hS
    replace hjw := hjw.trans (hS.mono hjw.size)
    replace hj := hjw
    clear hjw oG hP4 zG
    have hnlab := h.lab
    go_wp2_with (first
     | go_skip
     | ((with_reducible refine wpList_alloc rfl _ rfl zC zero40 ?_); have hxx := oF; intro P' W4 hN4 hP hk4; clear hxx)
     | (with_reducible refine wpList_loadb (by kernel_rfl) 25 _ rfl B rfl D hB _ Tryz.underlying25 (by kernel_rfl) hzg ?_)
     | (with_reducible refine wpList_load1 (by kernel_rfl) _ _ rfl Q _ rfl _ _ hQ _ g1 ga1 ?_)
     | (go_at_call 38; (with_reducible refine (hff _ (hk0.trans (hj.mono hk0.size))).mono ?_); rintro e w9 ⟨CG, rfl, oF, hb3⟩)
     | ((with_reducible refine wpList_store_blk rfl _ _ _ rfl P' rfl CG rfl zC hP (size40C oF.size) (zC_size.trans oF.size.symm) oF.one ?_); intro V8 hP8 q4; obtain ⟨hb5, oG⟩ := laidL (hk0.trans (hj.mono hk0.size)) hb3 oF hN4 hk4 q4; have zG := oG.size; clear oF hb3 hk4 q4 hN4 hP; replace hR := hR.next hb5; replace hj := hj.trans (hb5.mono hj.size); clear hb5)
     | (with_reducible refine wpList_loadb (by kernel_rfl) 43 _ rfl P' rfl CG hP8 _ Tryz.underlying43 (by kernel_rfl) (size40C zG) ?_)
     | ((with_reducible refine wpList_store_blk rfl _ _ _ rfl R rfl CG rfl zC hR (size40C zG) (zC_size.trans zG.symm) oG.one ?_); intro V5 hR5 q5))
    obtain ⟨o9, b9⟩ := retL hk0.size hj oG hRl.out q5
    exact bodyPost_ret (v := .tuple #[.agg CG, .int .i64 0]) (res40b Tryz.results55 rfl rfl hR5 zG) rfl ⟨CG, rfl, o9, b9⟩
   ·have hw' : Hid (¬ wd = i) := hw
    clear hw
    refine wpAnyH_sym (by kernel_rfl) (fun _ _ _ _ _ h => h) hS [(0, none), (1, some (.slice (some ⟨b, off, none⟩) nl cl)), (2, none), (3, some (.pointer (some ⟨b, off + k, none⟩))), (4, some (.int .u64 wd)), (5, none), (6, some (.int .u64 i)), (7, some (.bool false))] (l' := #[true, true, true, true, true, true, true, true]) (a' := { tmps := #[.agg D, .agg C, .agg G, .pointer (some ⟨B, 0, none⟩), .pointer (some ⟨T, 0, none⟩), .pointer (some ⟨Q, 0, none⟩), .pointer (some ⟨R, 0, none⟩), u7, .pointer (some ⟨P, 0, none⟩), .int .i64 0, .int .i64 k, u11, u12, .tuple #[.agg CF, .int .i64 0], .agg D, .agg C, .pointer (some ⟨Q, 0, none⟩), .int .u64 c, .tuple #[.agg CF, .int .i64 0], .agg CF, .int .i64 0, .int .i64 0, .bool false, undef, undef, .int .i64 k, .pointer (some ⟨P, 5, none⟩), .slice (some ⟨b, off, none⟩) nl cl, .int .i64 nl, .bool true, u30, u31, .pointer (some ⟨P, 5, none⟩), .slice (some ⟨b, off, none⟩) nl cl, .int .i64 k, .pointer (some ⟨b, off + k, none⟩), .int .u64 wd, .pointer (some ⟨Q, 1, none⟩), .int .u64 i, .bool false, u40, u41, u42, u43, u44, u45, u46, u47, undef], defers := [] }) (obs := [.load 28 P 5 (.slice (some ⟨b, off, none⟩) nl cl), .ia 28 (.slice (some ⟨b, off, none⟩) nl cl) (.int .i64 k) (.pointer (some ⟨b, off + k, none⟩)), .load 22 b (off + k) (.int .u64 wd), .load 22 Q 1 (.int .u64 i), .test .eql 22 (.tmp 36) (.tmp 38) (.int .u64 wd) (.int .u64 i) (.bool false)]) (n := 0) (by kernel_rfl) (by kernel_rfl) ⟨ob_load1 (fun _ h => hP4.next h) c5 Tryz.isAgg28, iaw_at hkn, ob_word (fun W h => (World.cell?_of_block (w := wr) (a := ⟨b, off + k, none⟩) (h.block b (Nat.lt_of_lt_of_le hb2 (hkw.trans (hb7.mono hkw.size)).size))).trans hc) Tryz.isAgg22, ob_load1 (fun _ h => hQ.next h) g1 Tryz.isAgg22, ob_no (fun _ => eqg_int _ _ _ _ _ _) hw', trivial⟩ ?_
    refine wpAnyH_done (by kernel_rfl) ?_ _
    go_wp2
    go_roundw
    case rel => exact ⟨k + 1, by omega, by go_num, (fun q hq => (Nat.lt_or_eq_of_le (Nat.le_of_lt_succ hq)).elim (fun h => hall.out q h) fun e => by rw [e, hwd.out]; exact hw'.out), hb7.trans (hS.mono hb7.size)⟩
    case measure => simp [intOf]; omega
  ·obtain rfl : k = nl := by omega
   have he1 : Hid (ek = 1) := Hno.out hall.out
   obtain rfl : ek = 1 := he1.out
   go_wp2_with (first
    | (with_reducible refine wpList_load1 (by kernel_rfl) _ _ rfl P _ rfl _ _ hP4 _ c5 Tryz.isAgg28 ?_)
    | ((with_reducible refine wpList_build rfl _ [] rfl zC ?hf ?_); (case hf => exact built_z))
    | ((with_reducible refine wpList_store_blk rfl _ _ _ rfl R rfl zC rfl zC hR (size40C zC_size) rfl (zC_d (fun _ => True) w).one ?_); intro V5 hR5 q5))
   refine bodyPost_ret (v := .tuple #[.agg zC, .int .i64 1]) (res40b Tryz.results55 rfl rfl hR5 zC_size) rfl ⟨zC, rfl, ?_, q5.below _ _ hRl.out hjw⟩
   rw [res_err (by decide)]
   exact zC_d _ _
theorem rlook_v {w V0 : World} {t ke ro : Int} {ao : Option Addr} {n cap : Nat} {X : List Ob} {C : Array Value} {x : Ob} {G : Array Value} {c i : Int} (h : Rw w ao n cap X) (hk0 : Below w.heap.size w V0) (hx : ObD (LtN w) w C x) (fx : LbF x.label) (g0 : G[0]? = some (.int .u64 c)) (g1 : G[1]? = some (.int .u64 i)) (gz : G.size = 2) (hln : ∀ d ∈ X, ∀ j ∈ d.links, (fnd X j).isSome = true) : Calls Tryz.prog 55 #[.agg #[.int .i64 t, .int .u64 ke, .int .u64 ro, .slice ao n cap], .agg C, .agg G] V0 (Rtl (lokE X x.label c i) (fO X i) w V0) := by
 by_cases hd : dirE X x.label c false = 0
 ·exact rlook_ok h hk0 hx fx g0 g1 gz hln hd
 ·exact rlook_no h hk0 hx fx g0 g1 gz hln hd
end Go.Proofs.YtiiaohejldchdaaGreat
