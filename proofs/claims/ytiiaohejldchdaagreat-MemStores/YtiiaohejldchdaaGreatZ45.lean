/-
 PROVED HERE: what the document's Walk of chapter 18 returns when it is called (a contract over this translation). What is asked stands at each.
-/
import Derived.Test.YtiiaohejldchdaaGreatZ41
import Derived.Test.YtiiaohejldchdaaGreatZ42
import Derived.Test.YtiiaohejldchdaaGreatZ44
namespace Go.Proofs.YtiiaohejldchdaaGreat
set_option maxRecDepth 100000
set_option maxHeartbeats 8000000
open Go.RowKit Go.Shelf
set_option linter.unusedVariables false
attribute [local go_sem] Oper.semAt_some

theorem laidO {w W2 w3 W4 V4 : World} {P : Nat} {C : Array Value} {x : Ob} (hk : Below w.heap.size w W2) (hb3 : Below W2.heap.size W2 w3) (oF : ObD (LtN w) w3 C x) (hN4 : Hid (w3.heap.size = P ∧ W4.heap.size = P + 1)) (hk4 : Below w3.heap.size w3 W4) (q4 : Oth P W4 V4) : Below W2.heap.size W2 V4 ∧ ObF 0 w.heap.size V4 C x := by
 obtain ⟨h1, h2⟩ := laidL hk hb3 oF hN4 hk4 q4
 exact ⟨h1, h2.wide fun b hb => ⟨Nat.zero_le _, hb⟩, Nat.le_trans hk.size h1.size⟩
theorem ObF.old {w W : World} {C : Array Value} {x : Ob} (h : ObF 0 w.heap.size W C x) : ObD (LtN w) W C x := h.ob.wide fun b hb => hb.2
def convOf (ops : Array Oper) (o : Oper) (a : Act) : Option (TypeId × TypeId × Value × Option Tmp) :=
 if Region.wanted o (yielded ops a.tmps) then
  match o.op with
  | .convert s t x => some (s, t, a.eval x, o.dst)
  | _ => none
 else none
theorem wpAnyH_conv {P : Program} {md : Region.Mode} {ops : Array Oper} {Q : Exit → Act → World → Prop} {S : World → Prop} {w : World} {a : Act} {l : Array Bool} {n m : Nat} (hs : Region.noSelect ops = true) (hQ : ∀ c a d v w, Q (.panic c) (Act.put a (some d) v) w → Q (.panic c) a w) (hS : S w) (hm : m = n + 1) (i : Nat) {s t : TypeId} {u v : Value} {d : Option Tmp} (hf : (Region.free md ops l i && (Region.ready md ops l).contains i) = true) (hi : (ops[i]?).bind (fun o => convOf ops o a) = some (s, t, u, d)) (hr : ∀ w, (convert s t u).run P w = .ok v w)
  (h : wpAnyH P md ops Q S n (l.setIfInBounds i true) (a.put d v) w) : wpAnyH P md ops Q S m l a w := by
 subst hm
 rw [Bool.and_eq_true] at hf
 cases ho : ops[i]? with
 | none => rw [ho] at hi; cases hi
 | some o =>
  rw [ho] at hi
  have hi' : convOf ops o a = _ := hi
  unfold convOf at hi'
  split at hi'
  ·rename_i hw
   split at hi'
   ·rename_i s' t' x hop
    cases hi'
    refine wpAnyH_take ho hs hf.1 hf.2 (fun c a w h => putQ hQ h) (.inl ⟨hw, fun w _ => ?_⟩) hS h
    unfold execOp
    simp only [hop]
    rw [Sem.run_bind, hr]
    rfl
   ·cases hi'
  ·cases hi'
theorem conv_iu {A : Nat} (h : A < 18446744073709551616) (w : World) : (convert 3 22 (.int .i64 (A : Int))).run Tryz.prog w = .ok (.int .u64 (A : Int)) w := by
 have hw : IntKind.u64.wrap (A : Int) = A := by rw [IntKind.wrap_u64]; omega
 simp [go_sem, convert, run_underlying Tryz.underlying3, run_underlying Tryz.underlying22, hw]
def RwO (k : Int) (y : Ob) (p : Nat) (b : Bool) (w W : World) (e : Ending) (w' : World) : Prop := ∃ C, e = .returned (.tuple #[.agg C, .int .u64 ((if k = 0 then p else 0 : Nat) : Int), .bool (if k = 0 then b else false), .int .i64 k]) ∧ ObD (LtN w) w' C (resO k y) ∧ Below W.heap.size W w'
theorem rwo_err {k : Int} {y : Ob} {p : Nat} {b : Bool} {w W w' : World} (hk : k ≠ 0) (hb : Below W.heap.size W w') : RwO k y p b w W (.returned (.tuple #[.agg zC, .int .u64 0, .bool false, .int .i64 k])) w' := by
 refine ⟨zC, ?_, ?_, hb⟩
 ·rw [if_neg hk, if_neg hk]; rfl
 ·rw [res_err hk]; exact zC_d _ _
structure Rm (w : World) (ao : Option Addr) (n cap : Nat) (X : List Ob) (C : Array Value) (x : Ob) : Prop where
 rw : Rw w ao n cap X
 thr : ObD (LtN w) w C x
 lab : LbF x.label
 lnk : ∀ d ∈ X, ∀ j ∈ d.links, (fnd X j).isSome = true
theorem rwk_a {w V0 : World} {t ke ro : Int} {ao : Option Addr} {n cap : Nat} {X : List Ob} {C : Array Value} {x : Ob} {a : Int} (h : Rm w ao n cap X C x) (hk0 : Below w.heap.size w V0) (ha : 0 ≤ a ∧ a ≤ 18446744073709551615) (hE : spE X x ≠ 0) : Calls Tryz.prog 11 #[.agg #[.int .i64 t, .int .u64 ke, .int .u64 ro, .slice ao n cap], .agg C, .int .u64 a] V0 (RwO (wkE X x a) (wkO X x a) (mpA X x a) (mpM X x a).wr w V0) := by
 have hm : mpE X x a = spE X x := by unfold mpE; rw [if_neg hE]
 have hw : wkE X x a = spE X x := by unfold wkE; rw [if_neg (by rw [hm]; exact hE), hm]
 rw [hw]
 clear hw hm
 have hz := h.thr.size
 have hzg : (Tryz.prog.info? 25).map (·.size) = some (#[.int .i64 t, .int .u64 ke, .int .u64 ro, .slice ao n cap] : Array Value).size := by kernel_rfl
 obtain ⟨g0, g1, gz⟩ := sp_ref h.thr
 have hse := fun (W : World) (hk : Below w.heap.size w W) => rsee_v (t := t) (ke := ke) (ro := ro) (kd := 3) h.rw hk h.thr h.lab g0 g1 gz h.lnk
 change ∀ (W : World) (_ : Below w.heap.size w W), Calls Tryz.prog _ _ W (Rtl (spE X x) (fO X x.th.si) w W) at hse
 have HE : Hid (spE X x ≠ 0) := hE
 clear hE
 generalize spE X x = ek at hse HE ⊢
 have hb0 : (ek != 0) = true := by simpa using HE.out
 obtain ⟨D, hD⟩ : ∃ D : Array Value, D = #[.int .i64 t, .int .u64 ke, .int .u64 ro, .slice ao n cap] := ⟨_, rfl⟩
 rw [← hD] at hse hzg
 rw [← hD]
 clear hD
 go_enter Tryz.func11, Tryz.ntmps11
 go_wp2_with (first
  | go_skip
  | (with_reducible refine wpList_box rfl 25 _ rfl D rfl ?_; intro B V1 hNB hB hk)
  | (with_reducible refine wpList_box rfl 43 _ rfl C rfl ?_; intro T V2 hNT hT hk2; replace hB := hB.next hk2; replace hk := hk.trans (hk2.mono hk.size); clear hk2)
  | ((with_reducible refine wpList_alloc rfl 43 rfl zC zero40 ?_); have hx := oF1; intro P1 U1 hN21 hPa1 hka1; clear hx)
  | ((with_reducible refine wpList_alloc rfl 43 rfl zC zero40 ?_); intro R V3 hNR hR hk3; replace hB := hB.next hk3; replace hT := hT.next hk3; replace hk := hk.trans (hk3.mono hk.size); clear hk3)
  | (with_reducible refine wpList_loadb (by kernel_rfl) 25 _ rfl B rfl D hB _ Tryz.underlying25 (by kernel_rfl) hzg ?_)
  | (with_reducible refine wpList_loadb (by kernel_rfl) 43 _ rfl T rfl C hT _ Tryz.underlying43 (by kernel_rfl) (size40C hz) ?_)
  | (with_reducible refine wpList_load_part rfl 32 _ rfl T 26 2 rfl C _ hT (by rw [hz]; decide) _ Tryz.underlying32 rfl infoR2 ?_)
  | (go_at_call 23; (with_reducible refine (hse _ (hk0.trans (hk.mono hk0.size))).mono ?_); rintro e w3 ⟨CF1, rfl, oF1, hb1⟩; clear hse)
  | ((with_reducible refine wpList_store_blk rfl _ _ _ rfl P1 rfl CF1 rfl zC hPa1 (size40C oF1.size) (zC_size.trans oF1.size.symm) oF1.one ?_); intro X1 hP1 q1; obtain ⟨hbz, oG1⟩ := laidO (hk0.trans (hk.mono hk0.size)) hb1 oF1 hN21 hka1 q1; have zG1 := oG1.size; have nRP1 : Hid (R < P1 ∧ w.heap.size ≤ P1) := (by have h1 := hN21.out.1; have h2 := hb1.size; have h3 := hR.lt; have h4 := hk.size; have h5 := hk0.size; exact ⟨by omega, by omega⟩); clear oF1 hb1 hN21 hka1 q1 hPa1; replace hB := hB.next hbz; replace hT := hT.next hbz; replace hR := hR.next hbz; replace hk := hk.trans (hbz.mono hk.size); clear hbz; skip)
  | (with_reducible refine wpList_loadb (by kernel_rfl) 43 _ rfl P1 rfl CF1 hP1 _ Tryz.underlying43 (by kernel_rfl) (size40C zG1) ?_)
  | ((with_reducible refine wpList_build rfl 43 [] rfl zC ?hf ?_); (case hf => exact built_z))
  | ((with_reducible refine wpList_store_blk rfl _ _ _ rfl R rfl zC rfl zC hR (size40C zC_size) rfl (zC_d (fun _ => True) w).one ?_); intro V9 hR9 q9))
 exact bodyPost_ret (v := .tuple #[.agg zC, .int .u64 0, .bool false, .int .i64 ek]) (resC4 Tryz.results11 hR9 Tryz.underlying43 rfl (size40C zC_size) rfl rfl rfl rfl) rfl (rwo_err HE.out (q9.below _ _ (by have := hNB.out; have := hNT.out; have := hNR.out; omega) hk))
theorem rwk_b {w V0 : World} {t ke ro : Int} {ao : Option Addr} {n cap : Nat} {X : List Ob} {C : Array Value} {x : Ob} {a : Int} (h : Rm w ao n cap X C x) (hk0 : Below w.heap.size w V0) (ha : 0 ≤ a ∧ a ≤ 18446744073709551615) (hE : spE X x = 0) (hb : PgM.Pg.spB a = false) : Calls Tryz.prog 11 #[.agg #[.int .i64 t, .int .u64 ke, .int .u64 ro, .slice ao n cap], .agg C, .int .u64 a] V0 (RwO (wkE X x a) (wkO X x a) (mpA X x a) (mpM X x a).wr w V0) := by
 have hm : mpE X x a = 13 := by unfold mpE mpB; rw [if_pos hE, hb]; rfl
 have hw : wkE X x a = 13 := by unfold wkE; rw [if_neg (by rw [hm]; decide), hm]
 rw [hw]
 clear hw hm
 have hz := h.thr.size
 have hzg : (Tryz.prog.info? 25).map (·.size) = some (#[.int .i64 t, .int .u64 ke, .int .u64 ro, .slice ao n cap] : Array Value).size := by kernel_rfl
 obtain ⟨g0, g1, gz⟩ := sp_ref h.thr
 have hse := fun (W : World) (hk : Below w.heap.size w W) => rsee_v (t := t) (ke := ke) (ro := ro) (kd := 3) h.rw hk h.thr h.lab g0 g1 gz h.lnk
 change ∀ (W : World) (_ : Below w.heap.size w W), Calls Tryz.prog _ _ W (Rtl (spE X x) (fO X x.th.si) w W) at hse
 rw [hE] at hse
 have hsf := sp_fit h.rw.snd hE
 unfold Rtl at hse
 have hres : resO 0 (fO X x.th.si) = fO X x.th.si := rfl
 rw [hres] at hse
 clear hres
 have hfi := fun (W : World) (ao : Option Addr) (n cap : Nat) (l : MpD (LtN W) W ao n cap (spM X x)) => PgM.rfind_any (show PgM.Mps W.heap.size W ao n cap (spM X x) from l) hsf (PgM.Pg.spP a)
 have hsp := fun (W : World) => PgM.rsplit_any a ha.1 ha.2 W
 have ga9 := Tryz.isAgg29
 rw [hb] at hsp
 generalize PgM.Pg.fF (spM X x) (PgM.Pg.spP a) = fb at hfi
 have hMz : zM.size = (PgM.mpV (PgM.Pg.fM (spM X x) (PgM.Pg.spP a))).size := by rfl
 have oneM := mpV_one (PgM.Pg.fM (spM X x) (PgM.Pg.spP a))
 have hM : (PgM.mpV (PgM.Pg.fM (spM X x) (PgM.Pg.spP a))).size = 6 := by rfl
 generalize PgM.Pg.fN (spM X x) (PgM.Pg.spP a) = f at hfi
 generalize PgM.mpV (PgM.Pg.fM (spM X x) (PgM.Pg.spP a)) = M at hfi hMz oneM hM
 clear hE
 have hmE : (fO X x.th.si).maps = spM X x := rfl
 generalize fO X x.th.si = oS at hse hmE
 generalize spM X x = lM at hfi hmE
 subst hmE
 obtain ⟨D, hD⟩ : ∃ D : Array Value, D = #[.int .i64 t, .int .u64 ke, .int .u64 ro, .slice ao n cap] := ⟨_, rfl⟩
 rw [← hD] at hse hzg
 rw [← hD]
 clear hD
 go_enter Tryz.func11, Tryz.ntmps11
 go_wp2_with (first
  | go_skip
  | (with_reducible refine wpList_box rfl 25 _ rfl D rfl ?_; intro B V1 hNB hB hk)
  | (with_reducible refine wpList_box rfl 43 _ rfl C rfl ?_; intro T V2 hNT hT hk2; replace hB := hB.next hk2; replace hk := hk.trans (hk2.mono hk.size); clear hk2)
  | ((with_reducible refine wpList_alloc rfl 43 rfl zC zero40 ?_); have hx := oF1; intro P1 U1 hN21 hPa1 hka1; clear hx)
  | ((with_reducible refine wpList_alloc rfl 43 rfl zC zero40 ?_); intro R V3 hNR hR hk3; replace hB := hB.next hk3; replace hT := hT.next hk3; replace hk := hk.trans (hk3.mono hk.size); clear hk3)
  | (with_reducible refine wpList_loadb (by kernel_rfl) 25 _ rfl B rfl D hB _ Tryz.underlying25 (by kernel_rfl) hzg ?_)
  | (with_reducible refine wpList_loadb (by kernel_rfl) 43 _ rfl T rfl C hT _ Tryz.underlying43 (by kernel_rfl) (size40C hz) ?_)
  | (with_reducible refine wpList_load_part rfl 32 _ rfl T 26 2 rfl C _ hT (by rw [hz]; decide) _ Tryz.underlying32 rfl infoR2 ?_)
  | (go_at_call 23; (with_reducible refine (hse _ (hk0.trans (hk.mono hk0.size))).mono ?_); rintro e w3 ⟨CF1, rfl, oF1, hb1⟩; clear hse)
  | ((with_reducible refine wpList_store_blk rfl _ _ _ rfl P1 rfl CF1 rfl zC hPa1 (size40C oF1.size) (zC_size.trans oF1.size.symm) oF1.one ?_); intro X1 hP1 q1; obtain ⟨hbz, oG1⟩ := laidO (hk0.trans (hk.mono hk0.size)) hb1 oF1 hN21 hka1 q1; have zG1 := oG1.size; have nRP1 : Hid (R < P1 ∧ w.heap.size ≤ P1) := (by have h1 := hN21.out.1; have h2 := hb1.size; have h3 := hR.lt; have h4 := hk.size; have h5 := hk0.size; exact ⟨by omega, by omega⟩); clear oF1 hb1 hN21 hka1 q1 hPa1; replace hB := hB.next hbz; replace hT := hT.next hbz; replace hR := hR.next hbz; replace hk := hk.trans (hbz.mono hk.size); clear hbz; obtain ⟨am, nm, cm, e7, l7⟩ := oG1.lt.maps; skip)
  | (with_reducible refine wpList_loadb (by kernel_rfl) 43 _ rfl P1 rfl CF1 hP1 _ Tryz.underlying43 (by kernel_rfl) (size40C zG1) ?_)
  | (go_at_call 24; (with_reducible refine (hsp _).mono ?_); rintro e w4 ⟨rfl, rfl⟩; skip)
  | (with_reducible refine wpList_load1 (by kernel_rfl) _ _ rfl P1 _ rfl _ _ hP1 _ e7 ga9 ?_)
  | (go_at_call 25; (with_reducible refine (hfi _ _ _ _ l7).mono ?_); rintro e w5 ⟨rfl, hb6⟩; replace hB := hB.next hb6; replace hT := hT.next hb6; replace hR := hR.next hb6; replace hP1 := hP1.next hb6; replace oG1 := oG1.next hb6; replace hk := hk.trans (hb6.mono hk.size); clear hb6; have oM := ga9; clear l7; skip)
  | ((with_reducible refine wpList_alloc rfl 71 rfl zM zeroM ?_); intro Q VQ hNQ hQa hkq; have nQ : Hid (R < Q ∧ P1 < Q ∧ B < Q ∧ T < Q ∧ V0.heap.size ≤ Q) := (by have := hNQ.out.1; have := hR.lt; have := hP1.lt; have := hB.lt; have := hT.lt; have := hk.size; exact ⟨by omega, by omega, by omega, by omega, by omega⟩); replace hB := hB.next hkq; replace hT := hT.next hkq; replace hR := hR.next hkq; replace hP1 := hP1.next hkq; replace oG1 := oG1.next hkq; replace hk := hk.trans (hkq.mono hk.size); clear hkq)
  | ((with_reducible refine wpList_store_blk rfl _ _ _ rfl Q rfl M rfl zM hQa (infoMp hM) hMz oneM ?_); intro VS hQ qS; replace hR := hR.other qS (Nat.ne_of_lt nQ.out.1); replace hP1 := hP1.other qS (Nat.ne_of_lt nQ.out.2.1); replace hB := hB.other qS (Nat.ne_of_lt nQ.out.2.2.1); replace hT := hT.other qS (Nat.ne_of_lt nQ.out.2.2.2.1); replace hk := qS.below _ _ nQ.out.2.2.2.2 hk; clear qS hQa oG1)
  | ((with_reducible refine wpList_build rfl 43 [] rfl zC ?hf ?_); (case hf => exact built_z))
  | ((with_reducible refine wpList_store_blk rfl _ _ _ rfl R rfl zC rfl zC hR (size40C zC_size) rfl (zC_d (fun _ => True) w).one ?_); intro V9 hR9 q9))
 exact bodyPost_ret (v := .tuple #[.agg zC, .int .u64 0, .bool false, .int .i64 13]) (resC4 Tryz.results11 hR9 Tryz.underlying43 rfl (size40C zC_size) rfl rfl rfl rfl) rfl (rwo_err (by decide) (q9.below _ _ (by have := hNB.out; have := hNT.out; have := hNR.out; omega) hk))
theorem rwk_c {w V0 : World} {t ke ro : Int} {ao : Option Addr} {n cap : Nat} {X : List Ob} {C : Array Value} {x : Ob} {a : Int} (h : Rm w ao n cap X C x) (hk0 : Below w.heap.size w V0) (ha : 0 ≤ a ∧ a ≤ 18446744073709551615) (hE : spE X x = 0) (hb : PgM.Pg.spB a = true) (hf : PgM.Pg.fF (spM X x) (PgM.Pg.spP a) = false) : Calls Tryz.prog 11 #[.agg #[.int .i64 t, .int .u64 ke, .int .u64 ro, .slice ao n cap], .agg C, .int .u64 a] V0 (RwO (wkE X x a) (wkO X x a) (mpA X x a) (mpM X x a).wr w V0) := by
 have hm : mpE X x a = 13 := by unfold mpE mpB; rw [if_pos hE, hb, hf]; rfl
 have hw : wkE X x a = 13 := by unfold wkE; rw [if_neg (by rw [hm]; decide), hm]
 rw [hw]
 clear hw hm
 have hz := h.thr.size
 have hzg : (Tryz.prog.info? 25).map (·.size) = some (#[.int .i64 t, .int .u64 ke, .int .u64 ro, .slice ao n cap] : Array Value).size := by kernel_rfl
 obtain ⟨g0, g1, gz⟩ := sp_ref h.thr
 have hse := fun (W : World) (hk : Below w.heap.size w W) => rsee_v (t := t) (ke := ke) (ro := ro) (kd := 3) h.rw hk h.thr h.lab g0 g1 gz h.lnk
 change ∀ (W : World) (_ : Below w.heap.size w W), Calls Tryz.prog _ _ W (Rtl (spE X x) (fO X x.th.si) w W) at hse
 rw [hE] at hse
 have hsf := sp_fit h.rw.snd hE
 unfold Rtl at hse
 have hres : resO 0 (fO X x.th.si) = fO X x.th.si := rfl
 rw [hres] at hse
 clear hres
 have hfi := fun (W : World) (ao : Option Addr) (n cap : Nat) (l : MpD (LtN W) W ao n cap (spM X x)) => PgM.rfind_any (show PgM.Mps W.heap.size W ao n cap (spM X x) from l) hsf (PgM.Pg.spP a)
 have hsp := fun (W : World) => PgM.rsplit_any a ha.1 ha.2 W
 have ga9 := Tryz.isAgg29
 rw [hb] at hsp
 rw [hf] at hfi
 have hMz : zM.size = (PgM.mpV (PgM.Pg.fM (spM X x) (PgM.Pg.spP a))).size := by rfl
 have oneM := mpV_one (PgM.Pg.fM (spM X x) (PgM.Pg.spP a))
 have hM : (PgM.mpV (PgM.Pg.fM (spM X x) (PgM.Pg.spP a))).size = 6 := by rfl
 generalize PgM.Pg.fN (spM X x) (PgM.Pg.spP a) = f at hfi
 generalize PgM.mpV (PgM.Pg.fM (spM X x) (PgM.Pg.spP a)) = M at hfi hMz oneM hM
 clear hE
 have hmE : (fO X x.th.si).maps = spM X x := rfl
 generalize fO X x.th.si = oS at hse hmE
 generalize spM X x = lM at hfi hmE
 subst hmE
 obtain ⟨D, hD⟩ : ∃ D : Array Value, D = #[.int .i64 t, .int .u64 ke, .int .u64 ro, .slice ao n cap] := ⟨_, rfl⟩
 rw [← hD] at hse hzg
 rw [← hD]
 clear hD
 go_enter Tryz.func11, Tryz.ntmps11
 go_wp2_with (first
  | go_skip
  | (with_reducible refine wpList_box rfl 25 _ rfl D rfl ?_; intro B V1 hNB hB hk)
  | (with_reducible refine wpList_box rfl 43 _ rfl C rfl ?_; intro T V2 hNT hT hk2; replace hB := hB.next hk2; replace hk := hk.trans (hk2.mono hk.size); clear hk2)
  | ((with_reducible refine wpList_alloc rfl 43 rfl zC zero40 ?_); have hx := oF1; intro P1 U1 hN21 hPa1 hka1; clear hx)
  | ((with_reducible refine wpList_alloc rfl 43 rfl zC zero40 ?_); intro R V3 hNR hR hk3; replace hB := hB.next hk3; replace hT := hT.next hk3; replace hk := hk.trans (hk3.mono hk.size); clear hk3)
  | (with_reducible refine wpList_loadb (by kernel_rfl) 25 _ rfl B rfl D hB _ Tryz.underlying25 (by kernel_rfl) hzg ?_)
  | (with_reducible refine wpList_loadb (by kernel_rfl) 43 _ rfl T rfl C hT _ Tryz.underlying43 (by kernel_rfl) (size40C hz) ?_)
  | (with_reducible refine wpList_load_part rfl 32 _ rfl T 26 2 rfl C _ hT (by rw [hz]; decide) _ Tryz.underlying32 rfl infoR2 ?_)
  | (go_at_call 23; (with_reducible refine (hse _ (hk0.trans (hk.mono hk0.size))).mono ?_); rintro e w3 ⟨CF1, rfl, oF1, hb1⟩; clear hse)
  | ((with_reducible refine wpList_store_blk rfl _ _ _ rfl P1 rfl CF1 rfl zC hPa1 (size40C oF1.size) (zC_size.trans oF1.size.symm) oF1.one ?_); intro X1 hP1 q1; obtain ⟨hbz, oG1⟩ := laidO (hk0.trans (hk.mono hk0.size)) hb1 oF1 hN21 hka1 q1; have zG1 := oG1.size; have nRP1 : Hid (R < P1 ∧ w.heap.size ≤ P1) := (by have h1 := hN21.out.1; have h2 := hb1.size; have h3 := hR.lt; have h4 := hk.size; have h5 := hk0.size; exact ⟨by omega, by omega⟩); clear oF1 hb1 hN21 hka1 q1 hPa1; replace hB := hB.next hbz; replace hT := hT.next hbz; replace hR := hR.next hbz; replace hk := hk.trans (hbz.mono hk.size); clear hbz; obtain ⟨am, nm, cm, e7, l7⟩ := oG1.lt.maps; skip)
  | (with_reducible refine wpList_loadb (by kernel_rfl) 43 _ rfl P1 rfl CF1 hP1 _ Tryz.underlying43 (by kernel_rfl) (size40C zG1) ?_)
  | (go_at_call 24; (with_reducible refine (hsp _).mono ?_); rintro e w4 ⟨rfl, rfl⟩; skip)
  | (with_reducible refine wpList_load1 (by kernel_rfl) _ _ rfl P1 _ rfl _ _ hP1 _ e7 ga9 ?_)
  | (go_at_call 25; (with_reducible refine (hfi _ _ _ _ l7).mono ?_); rintro e w5 ⟨rfl, hb6⟩; replace hB := hB.next hb6; replace hT := hT.next hb6; replace hR := hR.next hb6; replace hP1 := hP1.next hb6; replace oG1 := oG1.next hb6; replace hk := hk.trans (hb6.mono hk.size); clear hb6; have oM := ga9; clear l7; skip)
  | ((with_reducible refine wpList_alloc rfl 71 rfl zM zeroM ?_); intro Q VQ hNQ hQa hkq; have nQ : Hid (R < Q ∧ P1 < Q ∧ B < Q ∧ T < Q ∧ V0.heap.size ≤ Q) := (by have := hNQ.out.1; have := hR.lt; have := hP1.lt; have := hB.lt; have := hT.lt; have := hk.size; exact ⟨by omega, by omega, by omega, by omega, by omega⟩); replace hB := hB.next hkq; replace hT := hT.next hkq; replace hR := hR.next hkq; replace hP1 := hP1.next hkq; replace oG1 := oG1.next hkq; replace hk := hk.trans (hkq.mono hk.size); clear hkq)
  | ((with_reducible refine wpList_store_blk rfl _ _ _ rfl Q rfl M rfl zM hQa (infoMp hM) hMz oneM ?_); intro VS hQ qS; replace hR := hR.other qS (Nat.ne_of_lt nQ.out.1); replace hP1 := hP1.other qS (Nat.ne_of_lt nQ.out.2.1); replace hB := hB.other qS (Nat.ne_of_lt nQ.out.2.2.1); replace hT := hT.other qS (Nat.ne_of_lt nQ.out.2.2.2.1); replace hk := qS.below _ _ nQ.out.2.2.2.2 hk; clear qS hQa oG1)
  | ((with_reducible refine wpList_build rfl 43 [] rfl zC ?hf ?_); (case hf => exact built_z))
  | ((with_reducible refine wpList_store_blk rfl _ _ _ rfl R rfl zC rfl zC hR (size40C zC_size) rfl (zC_d (fun _ => True) w).one ?_); intro V9 hR9 q9))
 exact bodyPost_ret (v := .tuple #[.agg zC, .int .u64 0, .bool false, .int .i64 13]) (resC4 Tryz.results11 hR9 Tryz.underlying43 rfl (size40C zC_size) rfl rfl rfl rfl) rfl (rwo_err (by decide) (q9.below _ _ (by have := hNB.out; have := hNT.out; have := hNR.out; omega) hk))
theorem rwk_d {w V0 : World} {t ke ro : Int} {ao : Option Addr} {n cap : Nat} {X : List Ob} {C : Array Value} {x : Ob} {a : Int} (h : Rm w ao n cap X C x) (hk0 : Below w.heap.size w V0) (ha : 0 ≤ a ∧ a ≤ 18446744073709551615) (hE : spE X x = 0) (hb : PgM.Pg.spB a = true) (hf : PgM.Pg.fF (spM X x) (PgM.Pg.spP a) = true) (hS : sgE X x a ≠ 0) : Calls Tryz.prog 11 #[.agg #[.int .i64 t, .int .u64 ke, .int .u64 ro, .slice ao n cap], .agg C, .int .u64 a] V0 (RwO (wkE X x a) (wkO X x a) (mpA X x a) (mpM X x a).wr w V0) := by
 have hmE0 : mpE X x a = 0 := by unfold mpE mpB; rw [if_pos hE, hb, hf]; rfl
 obtain ⟨f0, f1, r0, r1, hI, hA⟩ := mp_place h.rw.snd hE (a := a) (by unfold mpB; rw [hb, hf]; rfl) ha.1
 have hw : wkE X x a = sgE X x a := by unfold wkE; rw [if_pos hmE0, if_neg hS]
 rw [hw]
 clear hw hmE0
 have hz := h.thr.size
 have hzg : (Tryz.prog.info? 25).map (·.size) = some (#[.int .i64 t, .int .u64 ke, .int .u64 ro, .slice ao n cap] : Array Value).size := by kernel_rfl
 obtain ⟨g0, g1, gz⟩ := sp_ref h.thr
 have hse := fun (W : World) (hk : Below w.heap.size w W) => rsee_v (t := t) (ke := ke) (ro := ro) (kd := 3) h.rw hk h.thr h.lab g0 g1 gz h.lnk
 change ∀ (W : World) (_ : Below w.heap.size w W), Calls Tryz.prog _ _ W (Rtl (spE X x) (fO X x.th.si) w W) at hse
 rw [hE] at hse
 have hsf := sp_fit h.rw.snd hE
 unfold Rtl at hse
 have hres : resO 0 (fO X x.th.si) = fO X x.th.si := rfl
 rw [hres] at hse
 clear hres
 have hfi := fun (W : World) (ao : Option Addr) (n cap : Nat) (l : MpD (LtN W) W ao n cap (spM X x)) => PgM.rfind_any (show PgM.Mps W.heap.size W ao n cap (spM X x) from l) hsf (PgM.Pg.spP a)
 have hsp := fun (W : World) => PgM.rsplit_any a ha.1 ha.2 W
 have ga9 := Tryz.isAgg29
 have hse2 := fun (W : World) (hk : Below w.heap.size w W) => rsee_v (t := t) (ke := ke) (ro := ro) (kd := 1) (G := #[.int .u64 (mpM X x a).cont, .int .u64 (mpM X x a).seg]) h.rw hk h.thr h.lab rfl rfl rfl h.lnk
 change ∀ (W : World) (_ : Below w.heap.size w W), Calls Tryz.prog _ _ W (Rtl (sgE X x a) (wkO X x a) w W) at hse2
 have hbr := built_ref (mpM X x a).cont (mpM X x a).seg
 have ga1 := Tryz.isAgg22
 have ga3 := Tryz.isAgg4
 have ga4 := Tryz.isAgg28
 obtain ⟨m0, m1, m2, hM⟩ := mp_at (mpM X x a)
 have hMz : zM.size = (PgM.mpV (mpM X x a)).size := by rfl
 have oneM := mpV_one (mpM X x a)
 change ∀ (W : World) (ao : Option Addr) (n cap : Nat) (_ : MpD (LtN W) W ao n cap (spM X x)), Calls Tryz.prog _ _ W (fun e w' => e = .returned (.tuple #[.agg (PgM.mpV (mpM X x a)), .int .i64 (PgM.Pg.fN (spM X x) (PgM.Pg.spP a)), .bool (PgM.Pg.fF (spM X x) (PgM.Pg.spP a))]) ∧ Below W.heap.size W w') at hfi
 rw [hb] at hsp
 rw [hf] at hfi
 unfold mpI at hI
 have HE : Hid (sgE X x a ≠ 0) := hS
 clear hS hE
 generalize sgE X x a = ek at hse2 HE ⊢
 have hb0 : (ek != 0) = true := by simpa using HE.out
 generalize mpA X x a = A at hI hA ⊢
 generalize wkO X x a = y at hse2 ⊢
 generalize (mpM X x a).cont = mc at m0 hse2 hbr
 generalize (mpM X x a).seg = ms at m1 hse2 hbr
 generalize (mpM X x a).wr = mw at m2 ⊢
 generalize PgM.mpV (mpM X x a) = M at hfi m0 m1 m2 hM hMz oneM
 generalize PgM.Pg.fN (spM X x) (PgM.Pg.spP a) = f at f0 f1 hI hfi
 generalize PgM.Pg.spW a = r at r0 r1 hI hsp
 generalize PgM.Pg.spP a = pp at hsp hfi
 have hw1 : IntKind.i64.wrap (f * 16) = f * 16 := by rw [IntKind.wrap_i64]; omega
 have hw2 : IntKind.i64.wrap (f * 16 + r) = (A : Int) := by rw [IntKind.wrap_i64]; omega
 have hw3 : IntKind.u64.wrap (A : Int) = (A : Int) := by rw [IntKind.wrap_u64]; omega
 clear hI
 have hmE : (fO X x.th.si).maps = spM X x := rfl
 generalize fO X x.th.si = oS at hse hmE
 generalize spM X x = lM at hfi hmE
 subst hmE
 obtain ⟨D, hD⟩ : ∃ D : Array Value, D = #[.int .i64 t, .int .u64 ke, .int .u64 ro, .slice ao n cap] := ⟨_, rfl⟩
 rw [← hD] at hse hse2 hzg
 rw [← hD]
 clear hD
 go_enter Tryz.func11, Tryz.ntmps11
 go_wp2_with (first
  | go_skip
  | (with_reducible refine wpList_box rfl 25 _ rfl D rfl ?_; intro B V1 hNB hB hk)
  | (with_reducible refine wpList_box rfl 43 _ rfl C rfl ?_; intro T V2 hNT hT hk2; replace hB := hB.next hk2; replace hk := hk.trans (hk2.mono hk.size); clear hk2)
  | ((with_reducible refine wpList_alloc rfl 43 rfl zC zero40 ?_); have hx := oF1; intro P1 U1 hN21 hPa1 hka1; clear hx)
  | ((with_reducible refine wpList_alloc rfl 43 rfl zC zero40 ?_); have hx := oF2; intro P2 U2 hN22 hPa2 hka2; clear hx)
  | ((with_reducible refine wpList_alloc rfl 43 rfl zC zero40 ?_); intro R V3 hNR hR hk3; replace hB := hB.next hk3; replace hT := hT.next hk3; replace hk := hk.trans (hk3.mono hk.size); clear hk3)
  | (with_reducible refine wpList_loadb (by kernel_rfl) 25 _ rfl B rfl D hB _ Tryz.underlying25 (by kernel_rfl) hzg ?_)
  | (with_reducible refine wpList_loadb (by kernel_rfl) 43 _ rfl T rfl C hT _ Tryz.underlying43 (by kernel_rfl) (size40C hz) ?_)
  | (with_reducible refine wpList_load_part rfl 32 _ rfl T 26 2 rfl C _ hT (by rw [hz]; decide) _ Tryz.underlying32 rfl infoR2 ?_)
  | (go_at_call 23; (with_reducible refine (hse _ (hk0.trans (hk.mono hk0.size))).mono ?_); rintro e w3 ⟨CF1, rfl, oF1, hb1⟩; clear hse)
  | ((with_reducible refine wpList_store_blk rfl _ _ _ rfl P1 rfl CF1 rfl zC hPa1 (size40C oF1.size) (zC_size.trans oF1.size.symm) oF1.one ?_); intro X1 hP1 q1; obtain ⟨hbz, oG1⟩ := laidO (hk0.trans (hk.mono hk0.size)) hb1 oF1 hN21 hka1 q1; have zG1 := oG1.size; have nRP1 : Hid (R < P1 ∧ w.heap.size ≤ P1) := (by have h1 := hN21.out.1; have h2 := hb1.size; have h3 := hR.lt; have h4 := hk.size; have h5 := hk0.size; exact ⟨by omega, by omega⟩); clear oF1 hb1 hN21 hka1 q1 hPa1; replace hB := hB.next hbz; replace hT := hT.next hbz; replace hR := hR.next hbz; replace hk := hk.trans (hbz.mono hk.size); clear hbz; obtain ⟨am, nm, cm, e7, l7⟩ := oG1.lt.maps; skip)
  | (with_reducible refine wpList_loadb (by kernel_rfl) 43 _ rfl P1 rfl CF1 hP1 _ Tryz.underlying43 (by kernel_rfl) (size40C zG1) ?_)
  | (go_at_call 24; (with_reducible refine (hsp _).mono ?_); rintro e w4 ⟨rfl, rfl⟩; skip)
  | (with_reducible refine wpList_load1 (by kernel_rfl) _ _ rfl P1 _ rfl _ _ hP1 _ e7 ga9 ?_)
  | (go_at_call 25; (with_reducible refine (hfi _ _ _ _ l7).mono ?_); rintro e w5 ⟨rfl, hb6⟩; replace hB := hB.next hb6; replace hT := hT.next hb6; replace hR := hR.next hb6; replace hP1 := hP1.next hb6; replace oG1 := oG1.next hb6; replace hk := hk.trans (hb6.mono hk.size); clear hb6; have oM := ga9; clear l7; skip)
  | ((with_reducible refine wpList_alloc rfl 71 rfl zM zeroM ?_); intro Q VQ hNQ hQa hkq; have nQ : Hid (R < Q ∧ P1 < Q ∧ B < Q ∧ T < Q ∧ V0.heap.size ≤ Q) := (by have := hNQ.out.1; have := hR.lt; have := hP1.lt; have := hB.lt; have := hT.lt; have := hk.size; exact ⟨by omega, by omega, by omega, by omega, by omega⟩); replace hB := hB.next hkq; replace hT := hT.next hkq; replace hR := hR.next hkq; replace hP1 := hP1.next hkq; replace oG1 := oG1.next hkq; replace hk := hk.trans (hkq.mono hk.size); clear hkq)
  | ((with_reducible refine wpList_store_blk rfl _ _ _ rfl Q rfl M rfl zM hQa (infoMp hM) hMz oneM ?_); intro VS hQ qS; replace hR := hR.other qS (Nat.ne_of_lt nQ.out.1); replace hP1 := hP1.other qS (Nat.ne_of_lt nQ.out.2.1); replace hB := hB.other qS (Nat.ne_of_lt nQ.out.2.2.1); replace hT := hT.other qS (Nat.ne_of_lt nQ.out.2.2.2.1); replace hk := qS.below _ _ nQ.out.2.2.2.2 hk; clear qS hQa oG1)
  | (with_reducible refine wpList_load1 (by kernel_rfl) _ _ rfl Q _ rfl _ _ hQ _ m0 ga1 ?_)
  | (with_reducible refine wpList_load1 (by kernel_rfl) _ _ rfl Q _ rfl _ _ hQ _ m1 ga1 ?_)
  | ((with_reducible refine wpList_build rfl 32 [(0, _), (1, _)] rfl _ ?hf ?_); (case hf => exact hbr))
  | (go_at_call 23; (with_reducible refine (hse2 _ (hk0.trans (hk.mono hk0.size))).mono ?_); rintro e w33 ⟨CF2, rfl, oF2, hb2⟩)
  | ((with_reducible refine wpList_store_blk rfl _ _ _ rfl P2 rfl CF2 rfl zC hPa2 (size40C oF2.size) (zC_size.trans oF2.size.symm) oF2.one ?_); intro X2 hP2 q2; obtain ⟨hbz, oG2⟩ := laidO (hk0.trans (hk.mono hk0.size)) hb2 oF2 hN22 hka2 q2; have zG2 := oG2.size; have nRP2 : Hid (R < P2 ∧ w.heap.size ≤ P2) := (by have h1 := hN22.out.1; have h2 := hb2.size; have h3 := hR.lt; have h4 := hk.size; have h5 := hk0.size; exact ⟨by omega, by omega⟩); clear oF2 hb2 hN22 hka2 q2 hPa2; replace hB := hB.next hbz; replace hT := hT.next hbz; replace hR := hR.next hbz; replace hP1 := hP1.next hbz; replace hQ := hQ.next hbz; replace hk := hk.trans (hbz.mono hk.size); clear hbz; skip)
  | (with_reducible refine wpList_loadb (by kernel_rfl) 43 _ rfl P2 rfl CF2 hP2 _ Tryz.underlying43 (by kernel_rfl) (size40C zG2) ?_)
  | ((with_reducible refine wpList_build rfl 43 [] rfl zC ?hf ?_); (case hf => exact built_z))
  | ((with_reducible refine wpList_store_blk rfl _ _ _ rfl R rfl zC rfl zC hR (size40C zC_size) rfl (zC_d (fun _ => True) w).one ?_); intro V9 hR9 q9))
 exact bodyPost_ret (v := .tuple #[.agg zC, .int .u64 0, .bool false, .int .i64 ek]) (resC4 Tryz.results11 hR9 Tryz.underlying43 rfl (size40C zC_size) rfl rfl rfl rfl) rfl (rwo_err HE.out (q9.below _ _ (by have := hNB.out; have := hNT.out; have := hNR.out; omega) hk))
theorem rwk_e {w V0 : World} {t ke ro : Int} {ao : Option Addr} {n cap : Nat} {X : List Ob} {C : Array Value} {x : Ob} {a : Int} (h : Rm w ao n cap X C x) (hk0 : Below w.heap.size w V0) (ha : 0 ≤ a ∧ a ≤ 18446744073709551615) (hE : spE X x = 0) (hb : PgM.Pg.spB a = true) (hf : PgM.Pg.fF (spM X x) (PgM.Pg.spP a) = true) (hS : sgE X x a = 0) (hW : wpl (wkO X x a) (mpA X x a : Nat) ≠ 0) : Calls Tryz.prog 11 #[.agg #[.int .i64 t, .int .u64 ke, .int .u64 ro, .slice ao n cap], .agg C, .int .u64 a] V0 (RwO (wkE X x a) (wkO X x a) (mpA X x a) (mpM X x a).wr w V0) := by
 have hmE0 : mpE X x a = 0 := by unfold mpE mpB; rw [if_pos hE, hb, hf]; rfl
 obtain ⟨f0, f1, r0, r1, hI, hA⟩ := mp_place h.rw.snd hE (a := a) (by unfold mpB; rw [hb, hf]; rfl) ha.1
 have hw : wkE X x a = wpl (wkO X x a) (mpA X x a : Nat) := by unfold wkE; rw [if_pos hmE0, if_pos hS]
 have hkd : (wkO X x a).kind = 1 := ((see_zero hS).2.1.resolve_left (by decide)).symm
 rw [hw]
 clear hw hmE0
 have hlt : ¬ mpA X x a < (wkO X x a).data.length := fun q => hW ((wpl_zero hkd).2 q)
 rw [wpl_far hkd hlt]
 have hz := h.thr.size
 have hzg : (Tryz.prog.info? 25).map (·.size) = some (#[.int .i64 t, .int .u64 ke, .int .u64 ro, .slice ao n cap] : Array Value).size := by kernel_rfl
 obtain ⟨g0, g1, gz⟩ := sp_ref h.thr
 have hse := fun (W : World) (hk : Below w.heap.size w W) => rsee_v (t := t) (ke := ke) (ro := ro) (kd := 3) h.rw hk h.thr h.lab g0 g1 gz h.lnk
 change ∀ (W : World) (_ : Below w.heap.size w W), Calls Tryz.prog _ _ W (Rtl (spE X x) (fO X x.th.si) w W) at hse
 rw [hE] at hse
 have hsf := sp_fit h.rw.snd hE
 unfold Rtl at hse
 have hres : resO 0 (fO X x.th.si) = fO X x.th.si := rfl
 rw [hres] at hse
 clear hres
 have hfi := fun (W : World) (ao : Option Addr) (n cap : Nat) (l : MpD (LtN W) W ao n cap (spM X x)) => PgM.rfind_any (show PgM.Mps W.heap.size W ao n cap (spM X x) from l) hsf (PgM.Pg.spP a)
 have hsp := fun (W : World) => PgM.rsplit_any a ha.1 ha.2 W
 have ga9 := Tryz.isAgg29
 have hse2 := fun (W : World) (hk : Below w.heap.size w W) => rsee_v (t := t) (ke := ke) (ro := ro) (kd := 1) (G := #[.int .u64 (mpM X x a).cont, .int .u64 (mpM X x a).seg]) h.rw hk h.thr h.lab rfl rfl rfl h.lnk
 change ∀ (W : World) (_ : Below w.heap.size w W), Calls Tryz.prog _ _ W (Rtl (sgE X x a) (wkO X x a) w W) at hse2
 have hbr := built_ref (mpM X x a).cont (mpM X x a).seg
 have ga1 := Tryz.isAgg22
 have ga3 := Tryz.isAgg4
 have ga4 := Tryz.isAgg28
 obtain ⟨m0, m1, m2, hM⟩ := mp_at (mpM X x a)
 have hMz : zM.size = (PgM.mpV (mpM X x a)).size := by rfl
 have oneM := mpV_one (mpM X x a)
 change ∀ (W : World) (ao : Option Addr) (n cap : Nat) (_ : MpD (LtN W) W ao n cap (spM X x)), Calls Tryz.prog _ _ W (fun e w' => e = .returned (.tuple #[.agg (PgM.mpV (mpM X x a)), .int .i64 (PgM.Pg.fN (spM X x) (PgM.Pg.spP a)), .bool (PgM.Pg.fF (spM X x) (PgM.Pg.spP a))]) ∧ Below W.heap.size W w') at hfi
 rw [hb] at hsp
 rw [hf] at hfi
 unfold mpI at hI
 rw [hS] at hse2
 unfold Rtl at hse2
 have hres : resO 0 (wkO X x a) = wkO X x a := rfl
 rw [hres] at hse2
 clear hres hS hE hW hkd
 generalize mpA X x a = A at hI hA hlt ⊢
 generalize wkO X x a = y at hse2 hlt ⊢
 have HL : Hid (¬ A < y.data.length) := hlt
 clear hlt
 generalize (mpM X x a).cont = mc at m0 hse2 hbr
 generalize (mpM X x a).seg = ms at m1 hse2 hbr
 generalize (mpM X x a).wr = mw at m2 ⊢
 generalize PgM.mpV (mpM X x a) = M at hfi m0 m1 m2 hM hMz oneM
 generalize PgM.Pg.fN (spM X x) (PgM.Pg.spP a) = f at f0 f1 hI hfi
 generalize PgM.Pg.spW a = r at r0 r1 hI hsp
 generalize PgM.Pg.spP a = pp at hsp hfi
 have hw1 : IntKind.i64.wrap (f * 16) = f * 16 := by rw [IntKind.wrap_i64]; omega
 have hw2 : IntKind.i64.wrap (f * 16 + r) = (A : Int) := by rw [IntKind.wrap_i64]; omega
 have hw3 : IntKind.u64.wrap (A : Int) = (A : Int) := by rw [IntKind.wrap_u64]; omega
 clear hI
 have hmE : (fO X x.th.si).maps = spM X x := rfl
 generalize fO X x.th.si = oS at hse hmE
 generalize spM X x = lM at hfi hmE
 subst hmE
 obtain ⟨D, hD⟩ : ∃ D : Array Value, D = #[.int .i64 t, .int .u64 ke, .int .u64 ro, .slice ao n cap] := ⟨_, rfl⟩
 rw [← hD] at hse hse2 hzg
 rw [← hD]
 clear hD
 go_enter Tryz.func11, Tryz.ntmps11
 go_wp2_with (first
  | go_skip
  | (with_reducible refine wpList_box rfl 25 _ rfl D rfl ?_; intro B V1 hNB hB hk)
  | (with_reducible refine wpList_box rfl 43 _ rfl C rfl ?_; intro T V2 hNT hT hk2; replace hB := hB.next hk2; replace hk := hk.trans (hk2.mono hk.size); clear hk2)
  | ((with_reducible refine wpList_alloc rfl 43 rfl zC zero40 ?_); have hx := oF1; intro P1 U1 hN21 hPa1 hka1; clear hx)
  | ((with_reducible refine wpList_alloc rfl 43 rfl zC zero40 ?_); have hx := oF2; intro P2 U2 hN22 hPa2 hka2; clear hx)
  | ((with_reducible refine wpList_alloc rfl 43 rfl zC zero40 ?_); intro R V3 hNR hR hk3; replace hB := hB.next hk3; replace hT := hT.next hk3; replace hk := hk.trans (hk3.mono hk.size); clear hk3)
  | (with_reducible refine wpList_loadb (by kernel_rfl) 25 _ rfl B rfl D hB _ Tryz.underlying25 (by kernel_rfl) hzg ?_)
  | (with_reducible refine wpList_loadb (by kernel_rfl) 43 _ rfl T rfl C hT _ Tryz.underlying43 (by kernel_rfl) (size40C hz) ?_)
  | (with_reducible refine wpList_load_part rfl 32 _ rfl T 26 2 rfl C _ hT (by rw [hz]; decide) _ Tryz.underlying32 rfl infoR2 ?_)
  | (go_at_call 23; (with_reducible refine (hse _ (hk0.trans (hk.mono hk0.size))).mono ?_); rintro e w3 ⟨CF1, rfl, oF1, hb1⟩; clear hse)
  | ((with_reducible refine wpList_store_blk rfl _ _ _ rfl P1 rfl CF1 rfl zC hPa1 (size40C oF1.size) (zC_size.trans oF1.size.symm) oF1.one ?_); intro X1 hP1 q1; obtain ⟨hbz, oG1⟩ := laidO (hk0.trans (hk.mono hk0.size)) hb1 oF1 hN21 hka1 q1; have zG1 := oG1.size; have nRP1 : Hid (R < P1 ∧ w.heap.size ≤ P1) := (by have h1 := hN21.out.1; have h2 := hb1.size; have h3 := hR.lt; have h4 := hk.size; have h5 := hk0.size; exact ⟨by omega, by omega⟩); clear oF1 hb1 hN21 hka1 q1 hPa1; replace hB := hB.next hbz; replace hT := hT.next hbz; replace hR := hR.next hbz; replace hk := hk.trans (hbz.mono hk.size); clear hbz; obtain ⟨am, nm, cm, e7, l7⟩ := oG1.lt.maps; skip)
  | (with_reducible refine wpList_loadb (by kernel_rfl) 43 _ rfl P1 rfl CF1 hP1 _ Tryz.underlying43 (by kernel_rfl) (size40C zG1) ?_)
  | (go_at_call 24; (with_reducible refine (hsp _).mono ?_); rintro e w4 ⟨rfl, rfl⟩; skip)
  | (with_reducible refine wpList_load1 (by kernel_rfl) _ _ rfl P1 _ rfl _ _ hP1 _ e7 ga9 ?_)
  | (go_at_call 25; (with_reducible refine (hfi _ _ _ _ l7).mono ?_); rintro e w5 ⟨rfl, hb6⟩; replace hB := hB.next hb6; replace hT := hT.next hb6; replace hR := hR.next hb6; replace hP1 := hP1.next hb6; replace oG1 := oG1.next hb6; replace hk := hk.trans (hb6.mono hk.size); clear hb6; have oM := ga9; clear l7; skip)
  | ((with_reducible refine wpList_alloc rfl 71 rfl zM zeroM ?_); intro Q VQ hNQ hQa hkq; have nQ : Hid (R < Q ∧ P1 < Q ∧ B < Q ∧ T < Q ∧ V0.heap.size ≤ Q) := (by have := hNQ.out.1; have := hR.lt; have := hP1.lt; have := hB.lt; have := hT.lt; have := hk.size; exact ⟨by omega, by omega, by omega, by omega, by omega⟩); replace hB := hB.next hkq; replace hT := hT.next hkq; replace hR := hR.next hkq; replace hP1 := hP1.next hkq; replace oG1 := oG1.next hkq; replace hk := hk.trans (hkq.mono hk.size); clear hkq)
  | ((with_reducible refine wpList_store_blk rfl _ _ _ rfl Q rfl M rfl zM hQa (infoMp hM) hMz oneM ?_); intro VS hQ qS; replace hR := hR.other qS (Nat.ne_of_lt nQ.out.1); replace hP1 := hP1.other qS (Nat.ne_of_lt nQ.out.2.1); replace hB := hB.other qS (Nat.ne_of_lt nQ.out.2.2.1); replace hT := hT.other qS (Nat.ne_of_lt nQ.out.2.2.2.1); replace hk := qS.below _ _ nQ.out.2.2.2.2 hk; clear qS hQa oG1)
  | (with_reducible refine wpList_load1 (by kernel_rfl) _ _ rfl Q _ rfl _ _ hQ _ m0 ga1 ?_)
  | (with_reducible refine wpList_load1 (by kernel_rfl) _ _ rfl Q _ rfl _ _ hQ _ m1 ga1 ?_)
  | ((with_reducible refine wpList_build rfl 32 [(0, _), (1, _)] rfl _ ?hf ?_); (case hf => exact hbr))
  | (go_at_call 23; (with_reducible refine (hse2 _ (hk0.trans (hk.mono hk0.size))).mono ?_); rintro e w33 ⟨CF2, rfl, oF2, hb2⟩)
  | ((with_reducible refine wpList_store_blk rfl _ _ _ rfl P2 rfl CF2 rfl zC hPa2 (size40C oF2.size) (zC_size.trans oF2.size.symm) oF2.one ?_); intro X2 hP2 q2; obtain ⟨hbz, oG2⟩ := laidO (hk0.trans (hk.mono hk0.size)) hb2 oF2 hN22 hka2 q2; have zG2 := oG2.size; have nRP2 : Hid (R < P2 ∧ w.heap.size ≤ P2) := (by have h1 := hN22.out.1; have h2 := hb2.size; have h3 := hR.lt; have h4 := hk.size; have h5 := hk0.size; exact ⟨by omega, by omega⟩); clear oF2 hb2 hN22 hka2 q2 hPa2; replace hB := hB.next hbz; replace hT := hT.next hbz; replace hR := hR.next hbz; replace hP1 := hP1.next hbz; replace hQ := hQ.next hbz; replace hk := hk.trans (hbz.mono hk.size); clear hbz; obtain ⟨a6, n6, c6, e6, l6⟩ := oG2.lt.data; have hA6 : (n6 : Int) ≤ A := (by have h1 := HL.out; have h2 := l6.1; omega); clear l6; skip)
  | (with_reducible refine wpList_loadb (by kernel_rfl) 43 _ rfl P2 rfl CF2 hP2 _ Tryz.underlying43 (by kernel_rfl) (size40C zG2) ?_)
  | (with_reducible refine wpList_load1 (by kernel_rfl) _ _ rfl P2 _ rfl _ _ hP2 _ e6 ga4 ?_)
  | ((with_reducible refine wpList_build rfl 43 [] rfl zC ?hf ?_); (case hf => exact built_z))
  | ((with_reducible refine wpList_store_blk rfl _ _ _ rfl R rfl zC rfl zC hR (size40C zC_size) rfl (zC_d (fun _ => True) w).one ?_); intro V9 hR9 q9))
 exact bodyPost_ret (v := .tuple #[.agg zC, .int .u64 0, .bool false, .int .i64 13]) (resC4 Tryz.results11 hR9 Tryz.underlying43 rfl (size40C zC_size) rfl rfl rfl rfl) rfl (rwo_err (by decide) (q9.below _ _ (by have := hNB.out; have := hNT.out; have := hNR.out; omega) hk))
theorem rwk_f {w V0 : World} {t ke ro : Int} {ao : Option Addr} {n cap : Nat} {X : List Ob} {C : Array Value} {x : Ob} {a : Int} (h : Rm w ao n cap X C x) (hk0 : Below w.heap.size w V0) (ha : 0 ≤ a ∧ a ≤ 18446744073709551615) (hE : spE X x = 0) (hb : PgM.Pg.spB a = true) (hf : PgM.Pg.fF (spM X x) (PgM.Pg.spP a) = true) (hS : sgE X x a = 0) (hW : wpl (wkO X x a) (mpA X x a : Nat) = 0) : Calls Tryz.prog 11 #[.agg #[.int .i64 t, .int .u64 ke, .int .u64 ro, .slice ao n cap], .agg C, .int .u64 a] V0 (RwO (wkE X x a) (wkO X x a) (mpA X x a) (mpM X x a).wr w V0) := by
 have hmE0 : mpE X x a = 0 := by unfold mpE mpB; rw [if_pos hE, hb, hf]; rfl
 obtain ⟨f0, f1, r0, r1, hI, hA⟩ := mp_place h.rw.snd hE (a := a) (by unfold mpB; rw [hb, hf]; rfl) ha.1
 have hw : wkE X x a = wpl (wkO X x a) (mpA X x a : Nat) := by unfold wkE; rw [if_pos hmE0, if_pos hS]
 have hkd : (wkO X x a).kind = 1 := ((see_zero hS).2.1.resolve_left (by decide)).symm
 rw [hw]
 clear hw hmE0
 have hlt : mpA X x a < (wkO X x a).data.length := (wpl_zero hkd).1 hW
 rw [hW]
 have hmx : Tryz.prog.follows .mixedOrders = true := by kernel_rfl
 have hA8 : mpA X x a < 18446744073709551616 := by omega
 have hz := h.thr.size
 have hzg : (Tryz.prog.info? 25).map (·.size) = some (#[.int .i64 t, .int .u64 ke, .int .u64 ro, .slice ao n cap] : Array Value).size := by kernel_rfl
 obtain ⟨g0, g1, gz⟩ := sp_ref h.thr
 have hse := fun (W : World) (hk : Below w.heap.size w W) => rsee_v (t := t) (ke := ke) (ro := ro) (kd := 3) h.rw hk h.thr h.lab g0 g1 gz h.lnk
 change ∀ (W : World) (_ : Below w.heap.size w W), Calls Tryz.prog _ _ W (Rtl (spE X x) (fO X x.th.si) w W) at hse
 rw [hE] at hse
 have hsf := sp_fit h.rw.snd hE
 unfold Rtl at hse
 have hres : resO 0 (fO X x.th.si) = fO X x.th.si := rfl
 rw [hres] at hse
 clear hres
 have hfi := fun (W : World) (ao : Option Addr) (n cap : Nat) (l : MpD (LtN W) W ao n cap (spM X x)) => PgM.rfind_any (show PgM.Mps W.heap.size W ao n cap (spM X x) from l) hsf (PgM.Pg.spP a)
 have hsp := fun (W : World) => PgM.rsplit_any a ha.1 ha.2 W
 have ga9 := Tryz.isAgg29
 have hse2 := fun (W : World) (hk : Below w.heap.size w W) => rsee_v (t := t) (ke := ke) (ro := ro) (kd := 1) (G := #[.int .u64 (mpM X x a).cont, .int .u64 (mpM X x a).seg]) h.rw hk h.thr h.lab rfl rfl rfl h.lnk
 change ∀ (W : World) (_ : Below w.heap.size w W), Calls Tryz.prog _ _ W (Rtl (sgE X x a) (wkO X x a) w W) at hse2
 have hbr := built_ref (mpM X x a).cont (mpM X x a).seg
 have ga1 := Tryz.isAgg22
 have ga3 := Tryz.isAgg4
 have ga4 := Tryz.isAgg28
 obtain ⟨m0, m1, m2, hM⟩ := mp_at (mpM X x a)
 have hMz : zM.size = (PgM.mpV (mpM X x a)).size := by rfl
 have oneM := mpV_one (mpM X x a)
 change ∀ (W : World) (ao : Option Addr) (n cap : Nat) (_ : MpD (LtN W) W ao n cap (spM X x)), Calls Tryz.prog _ _ W (fun e w' => e = .returned (.tuple #[.agg (PgM.mpV (mpM X x a)), .int .i64 (PgM.Pg.fN (spM X x) (PgM.Pg.spP a)), .bool (PgM.Pg.fF (spM X x) (PgM.Pg.spP a))]) ∧ Below W.heap.size W w') at hfi
 rw [hb] at hsp
 rw [hf] at hfi
 unfold mpI at hI
 rw [hS] at hse2
 unfold Rtl at hse2
 have hres : resO 0 (wkO X x a) = wkO X x a := rfl
 rw [hres] at hse2
 clear hres hS hE hW hkd
 generalize mpA X x a = A at hI hA hlt hA8 ⊢
 generalize wkO X x a = y at hse2 hlt ⊢
 have HL : Hid ( A < y.data.length) := hlt
 clear hlt
 generalize (mpM X x a).cont = mc at m0 hse2 hbr
 generalize (mpM X x a).seg = ms at m1 hse2 hbr
 generalize (mpM X x a).wr = mw at m2 ⊢
 generalize PgM.mpV (mpM X x a) = M at hfi m0 m1 m2 hM hMz oneM
 generalize PgM.Pg.fN (spM X x) (PgM.Pg.spP a) = f at f0 f1 hI hfi
 generalize PgM.Pg.spW a = r at r0 r1 hI hsp
 generalize PgM.Pg.spP a = pp at hsp hfi
 have hw1 : IntKind.i64.wrap (f * 16) = f * 16 := by rw [IntKind.wrap_i64]; omega
 have hw2 : IntKind.i64.wrap (f * 16 + r) = (A : Int) := by rw [IntKind.wrap_i64]; omega
 have hw3 : IntKind.u64.wrap (A : Int) = (A : Int) := by rw [IntKind.wrap_u64]; omega
 clear hI
 have hmE : (fO X x.th.si).maps = spM X x := rfl
 generalize fO X x.th.si = oS at hse hmE
 generalize spM X x = lM at hfi hmE
 subst hmE
 obtain ⟨D, hD⟩ : ∃ D : Array Value, D = #[.int .i64 t, .int .u64 ke, .int .u64 ro, .slice ao n cap] := ⟨_, rfl⟩
 rw [← hD] at hse hse2 hzg
 rw [← hD]
 clear hD
 go_enter Tryz.func11, Tryz.ntmps11
 go_wp2_with (first
  | go_skip
  | (with_reducible refine wpList_box rfl 25 _ rfl D rfl ?_; intro B V1 hNB hB hk)
  | (with_reducible refine wpList_box rfl 43 _ rfl C rfl ?_; intro T V2 hNT hT hk2; replace hB := hB.next hk2; replace hk := hk.trans (hk2.mono hk.size); clear hk2)
  | ((with_reducible refine wpList_alloc rfl 43 rfl zC zero40 ?_); have hx := oF1; intro P1 U1 hN21 hPa1 hka1; clear hx)
  | ((with_reducible refine wpList_alloc rfl 43 rfl zC zero40 ?_); have hx := oF2; intro P2 U2 hN22 hPa2 hka2; clear hx)
  | ((with_reducible refine wpList_alloc rfl 43 rfl zC zero40 ?_); intro R V3 hNR hR hk3; replace hB := hB.next hk3; replace hT := hT.next hk3; replace hk := hk.trans (hk3.mono hk.size); clear hk3)
  | (with_reducible refine wpList_loadb (by kernel_rfl) 25 _ rfl B rfl D hB _ Tryz.underlying25 (by kernel_rfl) hzg ?_)
  | (with_reducible refine wpList_loadb (by kernel_rfl) 43 _ rfl T rfl C hT _ Tryz.underlying43 (by kernel_rfl) (size40C hz) ?_)
  | (with_reducible refine wpList_load_part rfl 32 _ rfl T 26 2 rfl C _ hT (by rw [hz]; decide) _ Tryz.underlying32 rfl infoR2 ?_)
  | (go_at_call 23; (with_reducible refine (hse _ (hk0.trans (hk.mono hk0.size))).mono ?_); rintro e w3 ⟨CF1, rfl, oF1, hb1⟩; clear hse)
  | ((with_reducible refine wpList_store_blk rfl _ _ _ rfl P1 rfl CF1 rfl zC hPa1 (size40C oF1.size) (zC_size.trans oF1.size.symm) oF1.one ?_); intro X1 hP1 q1; obtain ⟨hbz, oG1⟩ := laidO (hk0.trans (hk.mono hk0.size)) hb1 oF1 hN21 hka1 q1; have zG1 := oG1.size; have nRP1 : Hid (R < P1 ∧ w.heap.size ≤ P1) := (by have h1 := hN21.out.1; have h2 := hb1.size; have h3 := hR.lt; have h4 := hk.size; have h5 := hk0.size; exact ⟨by omega, by omega⟩); clear oF1 hb1 hN21 hka1 q1 hPa1; replace hB := hB.next hbz; replace hT := hT.next hbz; replace hR := hR.next hbz; replace hk := hk.trans (hbz.mono hk.size); clear hbz; obtain ⟨am, nm, cm, e7, l7⟩ := oG1.lt.maps; skip)
  | (with_reducible refine wpList_loadb (by kernel_rfl) 43 _ rfl P1 rfl CF1 hP1 _ Tryz.underlying43 (by kernel_rfl) (size40C zG1) ?_)
  | (go_at_call 24; (with_reducible refine (hsp _).mono ?_); rintro e w4 ⟨rfl, rfl⟩; skip)
  | (with_reducible refine wpList_load1 (by kernel_rfl) _ _ rfl P1 _ rfl _ _ hP1 _ e7 ga9 ?_)
  | (go_at_call 25; (with_reducible refine (hfi _ _ _ _ l7).mono ?_); rintro e w5 ⟨rfl, hb6⟩; replace hB := hB.next hb6; replace hT := hT.next hb6; replace hR := hR.next hb6; replace hP1 := hP1.next hb6; replace oG1 := oG1.next hb6; replace hk := hk.trans (hb6.mono hk.size); clear hb6; have oM := ga9; clear l7; skip)
  | ((with_reducible refine wpList_alloc rfl 71 rfl zM zeroM ?_); intro Q VQ hNQ hQa hkq; have nQ : Hid (R < Q ∧ P1 < Q ∧ B < Q ∧ T < Q ∧ V0.heap.size ≤ Q) := (by have := hNQ.out.1; have := hR.lt; have := hP1.lt; have := hB.lt; have := hT.lt; have := hk.size; exact ⟨by omega, by omega, by omega, by omega, by omega⟩); replace hB := hB.next hkq; replace hT := hT.next hkq; replace hR := hR.next hkq; replace hP1 := hP1.next hkq; replace oG1 := oG1.next hkq; replace hk := hk.trans (hkq.mono hk.size); clear hkq)
  | ((with_reducible refine wpList_store_blk rfl _ _ _ rfl Q rfl M rfl zM hQa (infoMp hM) hMz oneM ?_); intro VS hQ qS; replace hR := hR.other qS (Nat.ne_of_lt nQ.out.1); replace hP1 := hP1.other qS (Nat.ne_of_lt nQ.out.2.1); replace hB := hB.other qS (Nat.ne_of_lt nQ.out.2.2.1); replace hT := hT.other qS (Nat.ne_of_lt nQ.out.2.2.2.1); replace hk := qS.below _ _ nQ.out.2.2.2.2 hk; clear qS hQa oG1)
  | (with_reducible refine wpList_load1 (by kernel_rfl) _ _ rfl Q _ rfl _ _ hQ _ m0 ga1 ?_)
  | (with_reducible refine wpList_load1 (by kernel_rfl) _ _ rfl Q _ rfl _ _ hQ _ m1 ga1 ?_)
  | ((with_reducible refine wpList_build rfl 32 [(0, _), (1, _)] rfl _ ?hf ?_); (case hf => exact hbr))
  | (go_at_call 23; (with_reducible refine (hse2 _ (hk0.trans (hk.mono hk0.size))).mono ?_); rintro e w33 ⟨CF2, rfl, oF2, hb2⟩)
  | ((with_reducible refine wpList_store_blk rfl _ _ _ rfl P2 rfl CF2 rfl zC hPa2 (size40C oF2.size) (zC_size.trans oF2.size.symm) oF2.one ?_); intro X2 hP2 q2; obtain ⟨hbz, oG2⟩ := laidO (hk0.trans (hk.mono hk0.size)) hb2 oF2 hN22 hka2 q2; have zG2 := oG2.size; have nRP2 : Hid (R < P2 ∧ w.heap.size ≤ P2) := (by have h1 := hN22.out.1; have h2 := hb2.size; have h3 := hR.lt; have h4 := hk.size; have h5 := hk0.size; exact ⟨by omega, by omega⟩); clear oF2 hb2 hN22 hka2 q2 hPa2; replace hB := hB.next hbz; replace hT := hT.next hbz; replace hR := hR.next hbz; replace hP1 := hP1.next hbz; replace hQ := hQ.next hbz; replace hk := hk.trans (hbz.mono hk.size); clear hbz; obtain ⟨a6, n6, c6, e6, l6⟩ := oG2.lt.data; have hA6 : ¬ (n6 : Int) ≤ A := (by have h1 := HL.out; have h2 := l6.1; omega); clear l6; skip)
  | (with_reducible refine wpList_loadb (by kernel_rfl) 43 _ rfl P2 rfl CF2 hP2 _ Tryz.underlying43 (by kernel_rfl) (size40C zG2) ?_)
  | (with_reducible refine wpList_load1 (by kernel_rfl) _ _ rfl P2 _ rfl _ _ hP2 _ e6 ga4 ?_))
 have hne : R ≠ P2 := Nat.ne_of_lt nRP2.out.1
 have hRw : w.heap.size ≤ R := by have := hNB.out; have := hNT.out; have := hNR.out; have := hk0.size; omega
 have hRQ : R ≠ Q := Nat.ne_of_lt nQ.out.1
 have hRV : V0.heap.size ≤ R := by have := hNB.out; have := hNT.out; have := hNR.out; omega
 have hd := (Below.refl X2.heap.size X2).drew
 refine PgM.region_out (S := fun U => Blk U P2 CF2 43 ∧ Blk U Q M 71 ∧ Below V0.heap.size V0 U) hmx ⟨hP2.next hd, hQ.next hd, hk.trans (hd.mono hk.size)⟩ (fun hS => ?_)
 have hR1 := hR.next hd
 have oG3 := oG2.next hd
 generalize X2.drew = v5 at hS hd hR1 oG3 ⊢
 refine wpAnyH_sym (by kernel_rfl) (fun _ _ _ _ _ h => h) hS [(0, some (.agg CF2)), (1, none), (3, none), (4, some (.bool mw))] (l' := #[true, true, false, true, true, false, false, false, false]) (a' := { tmps := #[.agg D, .agg C, .int .u64 a, .pointer (some ⟨B, 0, none⟩), .pointer (some ⟨T, 0, none⟩), undef, .pointer (some ⟨R, 0, none⟩), .int .u64 0, .bool false, .int .i64 0, .pointer (some ⟨P1, 0, none⟩), .int .i64 0, .int .i64 pp, .int .i64 r, .bool true, .pointer (some ⟨Q, 0, none⟩), .int .i64 f, .bool true, .pointer (some ⟨P2, 0, none⟩), .int .i64 (A : Int), .tuple #[.agg CF1, .int .i64 0], .agg D, .agg C, .pointer (some ⟨T, 8, none⟩), .pointer (some ⟨T, 26, none⟩), .agg (C.extract 26 28), .tuple #[.agg CF1, .int .i64 0], .agg CF1, .int .i64 0, .int .i64 0, .bool false, ud, undef, .tuple #[.int .i64 pp, .int .i64 r, .bool true], .int .u64 a, .tuple #[.int .i64 pp, .int .i64 r, .bool true], .int .i64 pp, .int .i64 r, .bool true, .tuple #[.agg M, .int .i64 f, .bool true], .pointer (some ⟨P1, 7, none⟩), .slice am nm cm, .int .i64 pp, .tuple #[.agg M, .int .i64 f, .bool true], .agg M, .int .i64 f, .bool true, .bool true, .bool false, .bool false, .bool true, .bool false, .bool false, undef, .tuple #[.agg CF2, .int .i64 0], .agg D, .agg C, .pointer (some ⟨Q, 2, none⟩), .int .u64 mc, .pointer (some ⟨Q, 3, none⟩), .int .u64 ms, .agg #[.int .u64 mc, .int .u64 ms], .tuple #[.agg CF2, .int .i64 0], .agg CF2, .int .i64 0, .int .i64 0, .bool false, ud, undef, .int .i64 f, .int .i64 (f * 16), .int .i64 r, .int .i64 (A : Int), .int .i64 (A : Int), .pointer (some ⟨P2, 6, none⟩), .slice a6 n6 c6, .int .i64 (n6 : Int), .bool false, undef, .agg CF2, .int .i64 (A : Int), undef, .pointer (some ⟨Q, 5, none⟩), .bool mw], defers := [] }) (obs := [.load 43 P2 0 (.agg CF2), .load 4 Q 5 (.bool mw)]) (n := 5) (by kernel_rfl) (by kernel_rfl) ⟨ob_loadb (fun _ q => q.1) Tryz.underlying43 rfl (size40C zG2), ob_load1 (fun _ q => q.2.1) m2 ga3, trivial⟩ ?_
 refine wpAnyH_conv (n := 4) (by kernel_rfl) (fun _ _ _ _ _ h => h) hS rfl 2 (s := 3) (t := 22) (u := .int .i64 (A : Int)) (v := .int .u64 (A : Int)) (d := some 81) (by kernel_rfl) (by kernel_rfl) (conv_iu hA8) ?_
 obtain ⟨V9, hr9, hR9, q9⟩ := run_store_blk hR1 (size40C zG2) (zC_size.trans zG2.symm) oG2.one
 refine wpAnyH_single (i := 5) (n := 3) rfl (by kernel_rfl) ?_
 refine wpOp_storeL (ty := 43) (B := R) (off := 0) (v := .agg CF2) (d := none) (by kernel_rfl) hr9 ?_
 have hS9 : Blk V9 P2 CF2 43 ∧ Blk V9 Q M 71 ∧ Below V0.heap.size V0 V9 := ⟨hS.1.other q9 hne.symm, hS.2.1.other q9 hRQ.symm, q9.below _ _ hRV hS.2.2⟩
 refine ⟨hS9, ?_⟩
 refine wpAnyH_sym (by kernel_rfl) (fun _ _ _ _ _ h => h) hS9 [(6, none), (7, none), (8, none)] (l' := #[true, true, true, true, true, true, true, true, true]) (a' := { tmps := #[.agg D, .agg C, .int .u64 a, .pointer (some ⟨B, 0, none⟩), .pointer (some ⟨T, 0, none⟩), undef, .pointer (some ⟨R, 0, none⟩), .int .u64 (A : Int), .bool mw, .int .i64 0, .pointer (some ⟨P1, 0, none⟩), .int .i64 0, .int .i64 pp, .int .i64 r, .bool true, .pointer (some ⟨Q, 0, none⟩), .int .i64 f, .bool true, .pointer (some ⟨P2, 0, none⟩), .int .i64 (A : Int), .tuple #[.agg CF1, .int .i64 0], .agg D, .agg C, .pointer (some ⟨T, 8, none⟩), .pointer (some ⟨T, 26, none⟩), .agg (C.extract 26 28), .tuple #[.agg CF1, .int .i64 0], .agg CF1, .int .i64 0, .int .i64 0, .bool false, ud, undef, .tuple #[.int .i64 pp, .int .i64 r, .bool true], .int .u64 a, .tuple #[.int .i64 pp, .int .i64 r, .bool true], .int .i64 pp, .int .i64 r, .bool true, .tuple #[.agg M, .int .i64 f, .bool true], .pointer (some ⟨P1, 7, none⟩), .slice am nm cm, .int .i64 pp, .tuple #[.agg M, .int .i64 f, .bool true], .agg M, .int .i64 f, .bool true, .bool true, .bool false, .bool false, .bool true, .bool false, .bool false, undef, .tuple #[.agg CF2, .int .i64 0], .agg D, .agg C, .pointer (some ⟨Q, 2, none⟩), .int .u64 mc, .pointer (some ⟨Q, 3, none⟩), .int .u64 ms, .agg #[.int .u64 mc, .int .u64 ms], .tuple #[.agg CF2, .int .i64 0], .agg CF2, .int .i64 0, .int .i64 0, .bool false, ud, undef, .int .i64 f, .int .i64 (f * 16), .int .i64 r, .int .i64 (A : Int), .int .i64 (A : Int), .pointer (some ⟨P2, 6, none⟩), .slice a6 n6 c6, .int .i64 (n6 : Int), .bool false, undef, .agg CF2, .int .i64 (A : Int), .int .u64 (A : Int), .pointer (some ⟨Q, 5, none⟩), .bool mw], defers := [] }) (obs := []) (n := 0) (by kernel_rfl) (by kernel_rfl) trivial ?_
 refine wpAnyH_done (by kernel_rfl) ?_ _
 go_wp2
 exact bodyPost_ret (v := .tuple #[.agg CF2, .int .u64 (A : Int), .bool mw, .int .i64 0]) (resC4 Tryz.results11 hR9 Tryz.underlying43 rfl (size40C zG2) rfl rfl rfl rfl) rfl ⟨CF2, rfl, (oG3.above q9 hRw).old, hS9.2.2⟩
theorem rwalk_v {w V0 : World} {t ke ro : Int} {ao : Option Addr} {n cap : Nat} {X : List Ob} {C : Array Value} {x : Ob} {a : Int} (h : Rm w ao n cap X C x) (hk0 : Below w.heap.size w V0) (ha : 0 ≤ a ∧ a ≤ 18446744073709551615) : Calls Tryz.prog 11 #[.agg #[.int .i64 t, .int .u64 ke, .int .u64 ro, .slice ao n cap], .agg C, .int .u64 a] V0 (RwO (wkE X x a) (wkO X x a) (mpA X x a) (mpM X x a).wr w V0) := by
 by_cases hE : spE X x = 0
 ·cases hb : PgM.Pg.spB a with
  | false => exact rwk_b h hk0 ha hE hb
  | true =>
   cases hf : PgM.Pg.fF (spM X x) (PgM.Pg.spP a) with
   | false => exact rwk_c h hk0 ha hE hb hf
   | true =>
    by_cases hS : sgE X x a = 0
    ·by_cases hW : wpl (wkO X x a) (mpA X x a : Nat) = 0
     ·exact rwk_f h hk0 ha hE hb hf hS hW
     ·exact rwk_e h hk0 ha hE hb hf hS hW
    ·exact rwk_d h hk0 ha hE hb hf hS
 ·exact rwk_a h hk0 ha hE
end Go.Proofs.YtiiaohejldchdaaGreat
