/-
 PROVED HERE: what the document's check.Place returns when it is called (a contract over this translation); what the documen. What is asked stands at each.
-/
import Derived.Test.YtiiaohejldchdaaGreatZ9
import Derived.Test.YtiiaohejldchdaaGreatZ10
import Derived.Test.YtiiaohejldchdaaGreatZ33
import Derived.Test.YtiiaohejldchdaaGreatZ38
namespace Go.Proofs.YtiiaohejldchdaaGreat
set_option maxRecDepth 100000
set_option maxHeartbeats 8000000
open Go.ChangeShapes Go.WideShapes Go.ChangeAt Go.RowKit
set_option linter.unusedVariables false

theorem rleq_f {w : World} {ao ao' : Option Addr} {n n' cap cap' : Nat} {L L' : List (Int × Int)} (hL : Lab w.heap.size w ao n cap L) (hL' : Lab w.heap.size w ao' n' cap' L') (f : Fit L) (f' : Fit L') :
  Calls Tryz.prog 20 #[.slice ao n cap, .slice ao' n' cap'] w fun e w' => e = .returned (.bool (leqB L L')) ∧ Below w.heap.size w w' := by
 have h := rlleq_any hL hL'
 rw [rleq_eq f f'] at h
 exact h
theorem rraise_f {w : World} {ao : Option Addr} {n cap : Nat} {L : List (Int × Int)} (hL : Lab w.heap.size w ao n cap L) (hk : n < 68719476736) (f : Fit L) :
  Calls Tryz.prog 43 #[.slice ao n cap] w fun e w' => ∃ ao1 n1 cap1, e = .returned (.slice ao1 n1 cap1) ∧ Lab w'.heap.size w' ao1 n1 cap1 (raiseL L) ∧ n1 ≤ n ∧ Below w.heap.size w w' := by
 have h := rlraise_any hL hk
 rw [rraise_eq f] at h
 exact h
theorem rjoin_f {w : World} {ao ao' : Option Addr} {n n' cap cap' : Nat} {L L' : List (Int × Int)} (hL : Lab w.heap.size w ao n cap L) (hL' : Lab w.heap.size w ao' n' cap' L') (hk : n < 68719476736) (hk' : n' < 68719476736) (f : Fit L) (f' : Fit L') :
  Calls Tryz.prog 91 #[.slice ao n cap, .slice ao' n' cap'] w fun e w' => ∃ ao1 n1 cap1, e = .returned (.slice ao1 n1 cap1) ∧ Lab w'.heap.size w' ao1 n1 cap1 (joinL L L') ∧ n1 ≤ 2 * n + n' ∧ Below w.heap.size w w' := by
 have h := rljoin_any hL hL' hk hk'
 rw [rjoin_eq f f'] at h
 exact h
theorem rplace_any {w : World} {aD aO : Option Addr} {nD cD nO cO : Nat} {D O : List (Int × Int)} (hD : Lab w.heap.size w aD nD cD D) (hO : Lab w.heap.size w aO nO cO O) (kD : nD < 1048576) (kO : nO < 1048576) (fD : Fit D) (fO : Fit O) :
  Calls Tryz.prog 64 #[.slice aD nD cD, .slice aO nO cO] w fun e w' => e = .returned (.bool (leqB D (joinL (raiseL O) []))) ∧ Below w.heap.size w w' := by
 have hB := Below.refl w.heap.size w
 have H := ((((Labs.nil w).push (Lab.nil _ _)).push hD).push hO)
 clear hD hO
 have fnil := Fit.nil
 have fR : Fit (raiseL O) := raiseL_fit fO
 have fJ : Fit (joinL (raiseL O) []) := joinL_fit fR Fit.nil
 go_enter Tryz.func64, Tryz.ntmps64
 go_wp2_with (first | (go_at_call 43; refine (rraise_f (H.get (by repeat (first | exact List.Mem.head _ | apply List.Mem.tail))) (by omega) (by assumption)).mono ?_; rintro e w1 ⟨ao1, m1, cap1, rfl, hl, kn, kb⟩; replace H := (H.next kb).push hl; replace hB := hB.trans (kb.mono hB.size); clear kb hl) | (go_at_call 91; refine (rjoin_f (H.get (by repeat (first | exact List.Mem.head _ | apply List.Mem.tail))) (H.get (by repeat (first | exact List.Mem.head _ | apply List.Mem.tail))) (by omega) (by omega) (by assumption) (by assumption)).mono ?_; rintro e w1 ⟨ao1, m1, cap1, rfl, hl, kn, kb⟩; replace H := (H.next kb).push hl; replace hB := hB.trans (kb.mono hB.size); clear kb hl) | (go_at_call 20; refine (rleq_f (H.get (by repeat (first | exact List.Mem.head _ | apply List.Mem.tail))) (H.get (by repeat (first | exact List.Mem.head _ | apply List.Mem.tail))) (by assumption) (by assumption)).mono ?_; rintro e w1 ⟨rfl, kb⟩; replace H := H.next kb; replace hB := hB.trans (kb.mono hB.size); clear kb))
 go_ret
 exact ⟨rfl, hB⟩
end Go.Proofs.YtiiaohejldchdaaGreat
namespace Go.Proofs.YtiiaohejldchdaaGreat
set_option maxRecDepth 100000
set_option maxHeartbeats 8000000
open Go.RowKit Go.Shelf
set_option linter.unusedVariables false
attribute [local go_sem] Oper.semAt_some

theorem alw_no {l : List Int} {p : Int → Bool} {k : Nat} (hk : k < l.length) (h : p (l.getD k 0) = false) : l.all p = false := by
 rw [List.all_eq_false]
 exact ⟨_, getD_mem hk, by rw [h]; decide⟩
theorem alw_take {l : List Int} {p : Int → Bool} {k : Nat} (hk : k < l.length) (h : (l.take k).all p = true) (h1 : p (l.getD k 0) = true) : (l.take (k + 1)).all p = true := by
 rw [List.take_add_one, List.getElem?_eq_getElem hk, Option.toList_some, List.all_append, h]
 rw [List.getD_eq_getElem?_getD, List.getElem?_eq_getElem hk, Option.getD_some] at h1
 simp [h1]
def LbF (L : Lb) : Prop := Fit L ∧ L.length < 1048576
theorem fO_lab {X : List Ob} (h : ∀ x ∈ X, LbF x.label) (i : Int) : LbF (fO X i).label := by
 unfold fO
 cases hf : fnd X i with
 | none => exact ⟨Fit.nil, by decide⟩
 | some x => exact h x (fnd_id hf).2
theorem rlinks_w {w : World} {t ke ro : Int} {ao : Option Addr} {n cap : Nat} {X : List Ob} {C : Array Value} {o : Ob} (h : Obs w ao n cap X) (hq : ∀ x ∈ X, 0 ≤ x.quota ∧ x.quota ≤ 4096) (hlb : ∀ x ∈ X, LbF x.label) (ho : ObD (LtN w) w C o) (hsm : Small o) (hol : LbF o.label) : Calls Tryz.prog 40 #[.agg #[.int .i64 t, .int .u64 ke, .int .u64 ro, .slice ao n cap], .agg C] w fun e w' => e = .returned (.bool (lnkB X o)) ∧ Below w.heap.size w w' := by
 have hmx : Tryz.prog.follows .mixedOrders = true := by kernel_rfl
 have hz := ho.size
 obtain ⟨al, nl, cl, c5, hLk⟩ := ho.links
 obtain ⟨aD, nD, cD, c2, hLD⟩ := ho.label
 have hnD : nD < 1048576 := by rw [← hLD.1]; exact hol.2
 have c1 := ho.kind
 have c3 := ho.quota
 have hln : Hid (o.links.length = nl) := hLk.1
 have hlc := hLk.2.1
 have hlm := hLk.2.2.1.1
 have hzw : (Tryz.prog.info? 25).map (·.size) = some (#[.int .i64 t, .int .u64 ke, .int .u64 ro, .slice ao n cap] : Array Value).size := by kernel_rfl
 have hus := fun (W : World) (hk : Below w.heap.size w W) => ruses_w (t := t) (ke := ke) (ro := ro) (obs_next h hk) hq (ho.next hk) hsm
 have hfd := fun {W : World} {i : Int} (hk : Below w.heap.size w W) => rfind_at (t := t) (ke := ke) (ro := ro) (i := i) h hk
 have hL0 : Lab w.heap.size w aD nD cD o.label := hLD
 obtain ⟨p, hp⟩ : ∃ p : Int → Bool, Hid (p = fun i => (fnd X i).isSome && plcB o.label (fO X i).label) := ⟨_, rfl⟩
 have hR : Hid (lnkB X o = (o.links.all p && (!decide (o.kind = 2) || decide (usesN X o ≤ o.quota)))) := by show lnkB X o = _; unfold lnkB; rw [hp.out]
 have hno := fun (k : Nat) (hk : k < nl) (e : p (o.links.getD k 0) = false) => alw_no (p := p) (show k < o.links.length by rw [hln.out]; exact hk) e
 have hyes := fun (k : Nat) (hk : k < nl) => alw_take (p := p) (show k < o.links.length by rw [hln.out]; exact hk)
 have hfull : o.links.take nl = o.links := by rw [← hln.out]; exact List.take_length
 rw [hR.out]
 generalize usesN X o = us at hus ⊢
 obtain ⟨G, hG⟩ : ∃ G : Array Value, G = #[.int .i64 t, .int .u64 ke, .int .u64 ro, .slice ao n cap] := ⟨_, rfl⟩
 rw [← hG] at hzw hfd hus
 rw [← hG]
 clear hG
 go_enter Tryz.func40, Tryz.ntmps40
 go_wp2_with (first
  | (with_reducible refine wpList_box rfl 25 _ rfl G rfl ?_; intro B2 W2 hN2 hB2 hk)
  | (with_reducible refine wpList_box rfl 43 _ rfl C rfl ?_; intro B3 W3 hN3 hB3 hk3; replace hB2 := hB2.next hk3; replace hk := hk.trans (hk3.mono hk.size)))
 clear hN2 hN3 hk3
 go_loopw [5] (fun j wr => ∃ k : Nat, k ≤ nl ∧ j = .int .i64 k ∧ Hid ((o.links.take k).all p = true) ∧ Blk wr B2 G 25 ∧ Blk wr B3 C 43 ∧ Below w.heap.size w wr) (fun j _ => nl - (intOf j).toNat)
 case atStart => exact ⟨0, Nat.zero_le _, rfl, rfl, hB2, hB3, hk⟩
 case round =>
  clear hB2 hB3 hk
  obtain ⟨k, hkn1, rfl, hall, hB2, hB3, hk⟩ := hrel
  by_cases hkn : k < nl
  ·obtain ⟨b, off, rfl, hbb, hc⟩ := ct_at hLk hkn
   have hkn' : (k : Int) < nl := by omega
   replace hno := hno k hkn
   replace hyes := hyes k hkn hall.out
   generalize o.links.getD k 0 = i at hc hno hyes
   go_wp2_with (first
    | (with_reducible refine wpList_load1 (by kernel_rfl) _ _ rfl B3 _ rfl _ _ hB3 _ c5 Tryz.isAgg28 ?_))
   refine PgM.region_out (S := fun W => Blk W B2 G 25 ∧ Blk W B3 C 43 ∧ Below w.heap.size w W) hmx ⟨hB2.next (Below.refl _ _).drew, hB3.next (Below.refl _ _).drew, hk.trans ((Below.refl _ _).drew.mono hk.size)⟩ (fun hS => ?_)
   generalize wr.drew = v6 at hS ⊢
   clear hk hB2 hB3 
   refine wpAnyH_sym (by kernel_rfl) (fun _ _ _ _ _ h => h) hS [(0, some (.agg G)), (1, none), (2, some (.slice (some ⟨b, off, none⟩) nl cl)), (3, none), (4, some (.pointer (some ⟨b, off + k, none⟩))), (5, some (.int .u64 i))] (l' := #[true, true, true, true, true, true, false, false, false, false, false, false, false]) (a' := { tmps := #[.agg G, .agg C, .pointer (some ⟨B2, 0, none⟩), .pointer (some ⟨B3, 0, none⟩), u4, .int .i64 k, u6, u7, .int .i64 k, .pointer (some ⟨B3, 5, none⟩), .slice (some ⟨b, off, none⟩) nl cl, .int .i64 nl, .bool true, u13, u14, u15, .agg G, .pointer (some ⟨B3, 5, none⟩), .slice (some ⟨b, off, none⟩) nl cl, .int .i64 k, .pointer (some ⟨b, off + k, none⟩), .int .u64 i, u22, u23, u24, u25, u26, u27, u28, u29, u30, u31, u32, u33, u34, undef, undef, undef, undef, undef, undef, undef, undef, undef, undef, undef], defers := [] }) (obs := [.load 25 B2 0 (.agg G), .load 28 B3 5 (.slice (some ⟨b, off, none⟩) nl cl), .ia 28 (.slice (some ⟨b, off, none⟩) nl cl) (.int .i64 k) (.pointer (some ⟨b, off + k, none⟩)), .load 22 b (off + k) (.int .u64 i)]) (n := 7) (by kernel_rfl) (by kernel_rfl) ⟨ob_loadb (fun _ h => h.1) Tryz.underlying25 (by kernel_rfl) hzw, ob_load1 (fun _ h => h.2.1) c5 Tryz.isAgg28, iaw_at hkn, ob_word (fun W h => (World.cell?_of_block (w := w) (a := ⟨b, off + k, none⟩) (h.2.2.block b hbb)).trans hc) Tryz.isAgg22, trivial⟩ ?_
   refine share 2 #[true, true, true, true, true, true, true, true, true, true, true, false, false] (fun A W => ∃ (P6 : Nat) (C6 : Array Value), A = { tmps := #[.agg G, .agg C, .pointer (some ⟨B2, 0, none⟩), .pointer (some ⟨B3, 0, none⟩), u4, .int .i64 k, .pointer (some ⟨P6, 0, none⟩), u7, .int .i64 k, .pointer (some ⟨B3, 5, none⟩), .slice (some ⟨b, off, none⟩) nl cl, .int .i64 nl, .bool true, u13, u14, .tuple #[.agg C6, .bool (fnd X i).isSome], .agg G, .pointer (some ⟨B3, 5, none⟩), .slice (some ⟨b, off, none⟩) nl cl, .int .i64 k, .pointer (some ⟨b, off + k, none⟩), .int .u64 i, .tuple #[.agg C6, .bool (fnd X i).isSome], .agg C6, .bool (fnd X i).isSome, u25, u26, u27, u28, u29, u30, u31, u32, u33, u34, undef, undef, undef, undef, undef, undef, undef, undef, undef, undef, undef], defers := [] } ∧ (Blk W B2 G 25 ∧ Blk W B3 C 43 ∧ Below w.heap.size w W) ∧ Blk W P6 zC 43 ∧ v6.heap.size ≤ P6 ∧ ObD (LtN w) W C6 (fO X i) ∧ Below v6.heap.size v6 W) ?_ (fun rest => ?_)
   ·rintro A W ⟨P6, C6, rfl, hS1, hP0, hgP, o6, kv⟩
    obtain ⟨W6, hr6, hP6, q6⟩ := run_store_blk hP0 (size40C o6.size) (zC_size.trans o6.size.symm) o6.one
    refine wpAnyH_single (i := 11) (n := 1) rfl (by kernel_rfl) ?_
    refine wpOp_storeL (ty := 43) (B := P6) (off := 0) (v := .agg C6) (d := none) (by kernel_rfl) hr6 ?_
    have hwP : w.heap.size ≤ P6 := Nat.le_trans hS.2.2.size hgP
    have hS6 : Blk W6 B2 G 25 ∧ Blk W6 B3 C 43 ∧ Below w.heap.size w W6 := ⟨hS1.1.other q6 (by have := hS.1.lt; omega), hS1.2.1.other q6 (by have := hS.2.1.lt; omega), q6.below _ _ hwP hS1.2.2⟩
    replace o6 := ob_oth o6 hwP q6
    refine ⟨hS6, ?_⟩
    refine wpAnyH_sym (by kernel_rfl) (fun _ _ _ _ _ h => h) hS6 [(12, none)] (l' := #[true, true, true, true, true, true, true, true, true, true, true, true, true]) (a' := { tmps := #[.agg G, .agg C, .pointer (some ⟨B2, 0, none⟩), .pointer (some ⟨B3, 0, none⟩), u4, .int .i64 k, .pointer (some ⟨P6, 0, none⟩), .bool (fnd X i).isSome, .int .i64 k, .pointer (some ⟨B3, 5, none⟩), .slice (some ⟨b, off, none⟩) nl cl, .int .i64 nl, .bool true, u13, u14, .tuple #[.agg C6, .bool (fnd X i).isSome], .agg G, .pointer (some ⟨B3, 5, none⟩), .slice (some ⟨b, off, none⟩) nl cl, .int .i64 k, .pointer (some ⟨b, off + k, none⟩), .int .u64 i, .tuple #[.agg C6, .bool (fnd X i).isSome], .agg C6, .bool (fnd X i).isSome, u25, u26, u27, u28, u29, u30, u31, u32, u33, u34, undef, undef, undef, undef, undef, undef, undef, undef, undef, undef, undef], defers := [] }) (obs := []) (n := 0) (by kernel_rfl) (by kernel_rfl) trivial ?_
    refine wpAnyH_done (by kernel_rfl) ?_ _
    obtain ⟨hB2, hB3, hk⟩ := hS6
    clear hS hS1 hP0 hgP hr6 q6 kv
    have hpi : Hid (p i = ((fnd X i).isSome && plcB o.label (fO X i).label)) := by show p i = _; rw [hp.out]
    have hlo := fO_lab hlb i
    obtain ⟨aO, nO, cO, cx2, hLO⟩ := o6.label
    have hnO : nO < 1048576 := by rw [← hLO.1]; exact hlo.2
    have hL6 : Lab W6.heap.size W6 aO nO cO (fO X i).label := hLO.lab fun b hb => Nat.lt_of_lt_of_le hb hk.size
    have hpl := rplace_any (Lab.next hL0 hk) hL6 hnD hnO hol.1 hlo.1
    change Calls Tryz.prog _ _ W6 fun e w' => e = .returned (.bool (plcB o.label (fO X i).label)) ∧ _ at hpl
    generalize (fnd X i).isSome = bf at hpi ⊢
    generalize plcB o.label (fO X i).label = bp at hpi hpl
    clear hL6 hLO hlo o6
    cases bf with
    | false =>
     have hz0 := hno (by rw [hpi.out]; rfl)
     go_wp2
     go_ret
     exact ⟨by rw [hz0]; rfl, hk⟩
    | true =>
     cases bp with
     | false =>
      have hz0 := hno (by rw [hpi.out]; rfl)
      go_wp2_with (first
       | (with_reducible refine wpList_load1 (by kernel_rfl) _ _ rfl B3 _ rfl _ _ hB3 _ c2 Tryz.isAgg27 ?_)
       | (with_reducible refine wpList_load1 (by kernel_rfl) _ _ rfl P6 _ rfl _ _ hP6 _ cx2 Tryz.isAgg27 ?_)
       | (go_at_call 64; (with_reducible refine hpl.mono ?_); rintro e w7 ⟨rfl, hb7⟩; replace hk := hk.trans (hb7.mono hk.size)))
      go_ret
      exact ⟨by rw [hz0]; rfl, hk⟩
     | true =>
      have hy1 := hyes (by rw [hpi.out]; rfl)
      go_wp2_with (first
       | (with_reducible refine wpList_load1 (by kernel_rfl) _ _ rfl B3 _ rfl _ _ hB3 _ c2 Tryz.isAgg27 ?_)
       | (with_reducible refine wpList_load1 (by kernel_rfl) _ _ rfl P6 _ rfl _ _ hP6 _ cx2 Tryz.isAgg27 ?_)
       | (go_at_call 64; (with_reducible refine hpl.mono ?_); rintro e w7 ⟨rfl, hb7⟩; replace hB2 := hB2.next hb7; replace hB3 := hB3.next hb7; replace hk := hk.trans (hb7.mono hk.size)))
      go_roundw
      case rel => exact ⟨k + 1, by omega, by go_num, hy1, hB2, hB3, hk⟩
      case measure => simp [intOf]; omega
   ·refine wpAnyH_two (i := 6) (j := 10) (n := 6) rfl (by kernel_rfl) ?_ ?_
    ·refine wpOp_callL (f := 38) (vs := [.agg G, .int .u64 i]) (d := some 22) (by kernel_rfl) Tryz.call38 (hfd hS.2.2) ?_
     rintro e z1 ⟨C6, rfl, o6, hb101⟩
     have k1 := (Below.refl v6.heap.size v6).trans (hb101.mono (Below.refl v6.heap.size v6).size)
     have hS1 : Blk z1 B2 G 25 ∧ Blk z1 B3 C 43 ∧ Below w.heap.size w z1 := ⟨hS.1.next hb101, hS.2.1.next hb101, hS.2.2.trans (hb101.mono hS.2.2.size)⟩
     refine ⟨_, rfl, hS1, ?_⟩
     refine wpAnyH_pure (by kernel_rfl) (fun _ _ _ _ _ h => h) hS1 [7, 8, 9] (l' := #[true, true, true, true, true, true, true, true, true, true, false, false, false]) (a' := { tmps := #[.agg G, .agg C, .pointer (some ⟨B2, 0, none⟩), .pointer (some ⟨B3, 0, none⟩), u4, .int .i64 k, u6, u7, .int .i64 k, .pointer (some ⟨B3, 5, none⟩), .slice (some ⟨b, off, none⟩) nl cl, .int .i64 nl, .bool true, u13, u14, .tuple #[.agg C6, .bool (fnd X i).isSome], .agg G, .pointer (some ⟨B3, 5, none⟩), .slice (some ⟨b, off, none⟩) nl cl, .int .i64 k, .pointer (some ⟨b, off + k, none⟩), .int .u64 i, .tuple #[.agg C6, .bool (fnd X i).isSome], .agg C6, .bool (fnd X i).isSome, u25, u26, u27, u28, u29, u30, u31, u32, u33, u34, undef, undef, undef, undef, undef, undef, undef, undef, undef, undef, undef], defers := [] }) (n := 3) (by kernel_rfl) (by kernel_rfl) ?_
     refine wpAnyH_single (i := 10) (n := 2) rfl (by kernel_rfl) ?_
     refine wpOp_allocL (ty := 43) (z := zC) (d := some 6) (by kernel_rfl) zero40 ?_
     intro P6 z2 hN hP6 hb102
     have hgP : v6.heap.size ≤ P6 := by have := hN.out; have := k1.size; omega
     replace o6 := ob_lt o6 hS1.2.2 hb102
     have k2 := k1.trans (hb102.mono k1.size)
     have hS2 : Blk z2 B2 G 25 ∧ Blk z2 B3 C 43 ∧ Below w.heap.size w z2 := ⟨hS1.1.next hb102, hS1.2.1.next hb102, hS1.2.2.trans (hb102.mono hS1.2.2.size)⟩
     refine ⟨hS2, ?_⟩
     exact rest _ _ ⟨P6, C6, rfl, hS2, hP6, hgP, o6, k2⟩
    ·refine wpOp_allocL (ty := 43) (z := zC) (d := some 6) (by kernel_rfl) zero40 ?_
     intro P6 z3 hN hP6 hb103
     have hgP : v6.heap.size ≤ P6 := by have := hN.out; have := (Below.refl v6.heap.size v6).size; omega
     have k3 := (Below.refl v6.heap.size v6).trans (hb103.mono (Below.refl v6.heap.size v6).size)
     have hS3 : Blk z3 B2 G 25 ∧ Blk z3 B3 C 43 ∧ Below w.heap.size w z3 := ⟨hS.1.next hb103, hS.2.1.next hb103, hS.2.2.trans (hb103.mono hS.2.2.size)⟩
     refine ⟨hS3, ?_⟩
     refine wpAnyH_single (i := 6) (n := 5) rfl (by kernel_rfl) ?_
     refine wpOp_callL (f := 38) (vs := [.agg G, .int .u64 i]) (d := some 22) (by kernel_rfl) Tryz.call38 (hfd hS3.2.2) ?_
     rintro e z4 ⟨C6, rfl, o6, hb104⟩
     replace hP6 := hP6.next hb104
     have k4 := k3.trans (hb104.mono k3.size)
     have hS4 : Blk z4 B2 G 25 ∧ Blk z4 B3 C 43 ∧ Below w.heap.size w z4 := ⟨hS3.1.next hb104, hS3.2.1.next hb104, hS3.2.2.trans (hb104.mono hS3.2.2.size)⟩
     refine ⟨_, rfl, hS4, ?_⟩
     refine wpAnyH_pure (by kernel_rfl) (fun _ _ _ _ _ h => h) hS4 [7, 8, 9] (l' := #[true, true, true, true, true, true, true, true, true, true, true, false, false]) (a' := { tmps := #[.agg G, .agg C, .pointer (some ⟨B2, 0, none⟩), .pointer (some ⟨B3, 0, none⟩), u4, .int .i64 k, .pointer (some ⟨P6, 0, none⟩), u7, .int .i64 k, .pointer (some ⟨B3, 5, none⟩), .slice (some ⟨b, off, none⟩) nl cl, .int .i64 nl, .bool true, u13, u14, .tuple #[.agg C6, .bool (fnd X i).isSome], .agg G, .pointer (some ⟨B3, 5, none⟩), .slice (some ⟨b, off, none⟩) nl cl, .int .i64 k, .pointer (some ⟨b, off + k, none⟩), .int .u64 i, .tuple #[.agg C6, .bool (fnd X i).isSome], .agg C6, .bool (fnd X i).isSome, u25, u26, u27, u28, u29, u30, u31, u32, u33, u34, undef, undef, undef, undef, undef, undef, undef, undef, undef, undef, undef], defers := [] }) (n := 2) (by kernel_rfl) (by kernel_rfl) ?_
     exact rest _ _ ⟨P6, C6, rfl, hS4, hP6, hgP, o6, k4⟩
  ·obtain rfl : k = nl := by omega
   rw [hfull] at hall
   go_wp2_with (first
    | (with_reducible refine wpList_load1 (by kernel_rfl) _ _ rfl B3 _ rfl _ _ hB3 _ c5 Tryz.isAgg28 ?_))
   refine PgM.region_out (S := fun W => Blk W B2 G 25 ∧ Blk W B3 C 43 ∧ Below w.heap.size w W) hmx ⟨hB2.next (Below.refl _ _).drew, hB3.next (Below.refl _ _).drew, hk.trans ((Below.refl _ _).drew.mono hk.size)⟩ (fun hS => ?_)
   generalize wr.drew = v6 at hS ⊢
   clear hB2 hB3 hk
   by_cases k2 : o.kind = 2
   ·have q1 : Hid (¬ ¬ o.kind = 2) := fun q => q k2
    refine wpAnyH_sym (by kernel_rfl) (fun _ _ _ _ _ h => h) hS [(0, none), (1, some (.int .i64 o.kind)), (2, some (.bool false)), (3, none), (4, some (.agg G)), (5, some (.agg C)), (7, none), (8, some (.int .i64 o.quota))] (l' := #[true, true, true, true, true, true, false, true, true, false, false, false]) (a' := { tmps := #[.agg G, .agg C, .pointer (some ⟨B2, 0, none⟩), .pointer (some ⟨B3, 0, none⟩), u4, .int .i64 k, u6, u7, .int .i64 k, .pointer (some ⟨B3, 5, none⟩), .slice al k cl, .int .i64 k, .bool false, u13, u14, u15, u16, u17, u18, u19, u20, u21, u22, u23, u24, u25, u26, u27, u28, u29, u30, u31, u32, u33, u34, .pointer (some ⟨B3, 1, none⟩), .int .i64 o.kind, .bool false, .bool false, .agg G, .agg C, undef, .pointer (some ⟨B3, 3, none⟩), .int .i64 o.quota, undef, undef], defers := [] }) (obs := [.load 3 B3 1 (.int .i64 o.kind), .test .neq 3 (.tmp 36) (.const (.int .i64 2)) (.int .i64 o.kind) (.int .i64 2) (.bool false), .load 25 B2 0 (.agg G), .load 43 B3 0 (.agg C), .load 3 B3 3 (.int .i64 o.quota)]) (n := 4) (by kernel_rfl) (by kernel_rfl) ⟨ob_load1 (fun _ h => h.2.1) c1 Tryz.isAgg3, ob_no (fun _ => neg_int _ _ _ _ _ _) q1, ob_loadb (fun _ h => h.1) Tryz.underlying25 (by kernel_rfl) hzw, ob_loadb (fun _ h => h.2.1) Tryz.underlying43 (by kernel_rfl) (size40C hz), ob_load1 (fun _ h => h.2.1) c3 Tryz.isAgg3, trivial⟩ ?_
    refine wpAnyH_callL (i := 6) (fuel := 3) (f := 65) (vs := [.agg G, .agg C]) (d := some 41) (by kernel_rfl) (by kernel_rfl) (by kernel_rfl) Tryz.call65 (hus _ hS.2.2) ?_
    rintro e v7 ⟨rfl, hb7⟩
    have hS2 : Blk v7 B2 G 25 ∧ Blk v7 B3 C 43 ∧ Below w.heap.size w v7 := ⟨hS.1.next hb7, hS.2.1.next hb7, hS.2.2.trans (hb7.mono hS.2.2.size)⟩
    refine ⟨_, rfl, hS2, ?_⟩
    by_cases q3 : us ≤ o.quota
    ·replace q3 : Hid (us ≤ o.quota) := q3
     refine wpAnyH_sym (by kernel_rfl) (fun _ _ _ _ _ h => h) hS2 [(9, some (.bool true)), (10, none), (11, none)] (l' := #[true, true, true, true, true, true, true, true, true, true, true, true]) (a' := { tmps := #[.agg G, .agg C, .pointer (some ⟨B2, 0, none⟩), .pointer (some ⟨B3, 0, none⟩), .bool true, .int .i64 k, u6, u7, .int .i64 k, .pointer (some ⟨B3, 5, none⟩), .slice al k cl, .int .i64 k, .bool false, u13, u14, u15, u16, u17, u18, u19, u20, u21, u22, u23, u24, u25, u26, u27, u28, u29, u30, u31, u32, u33, u34, .pointer (some ⟨B3, 1, none⟩), .int .i64 o.kind, .bool false, .bool false, .agg G, .agg C, .int .i64 us, .pointer (some ⟨B3, 3, none⟩), .int .i64 o.quota, .bool true, .bool true], defers := [] }) (obs := [.test .leq 3 (.tmp 41) (.tmp 43) (.int .i64 us) (.int .i64 o.quota) (.bool true)]) (n := 0) (by kernel_rfl) (by kernel_rfl) ⟨ob_yes (fun _ => tle_int _ _ _ _ _ _) q3, trivial⟩ ?_
     refine wpAnyH_done (by kernel_rfl) ?_ _
     go_wp2
     go_ret
     exact ⟨by rw [hall.out]; simp [q3.out], hS2.2.2⟩
    ·replace q3 : Hid (¬ us ≤ o.quota) := q3
     refine wpAnyH_sym (by kernel_rfl) (fun _ _ _ _ _ h => h) hS2 [(9, some (.bool false)), (10, none), (11, none)] (l' := #[true, true, true, true, true, true, true, true, true, true, true, true]) (a' := { tmps := #[.agg G, .agg C, .pointer (some ⟨B2, 0, none⟩), .pointer (some ⟨B3, 0, none⟩), .bool false, .int .i64 k, u6, u7, .int .i64 k, .pointer (some ⟨B3, 5, none⟩), .slice al k cl, .int .i64 k, .bool false, u13, u14, u15, u16, u17, u18, u19, u20, u21, u22, u23, u24, u25, u26, u27, u28, u29, u30, u31, u32, u33, u34, .pointer (some ⟨B3, 1, none⟩), .int .i64 o.kind, .bool false, .bool false, .agg G, .agg C, .int .i64 us, .pointer (some ⟨B3, 3, none⟩), .int .i64 o.quota, .bool false, .bool false], defers := [] }) (obs := [.test .leq 3 (.tmp 41) (.tmp 43) (.int .i64 us) (.int .i64 o.quota) (.bool false)]) (n := 0) (by kernel_rfl) (by kernel_rfl) ⟨ob_no (fun _ => tle_int _ _ _ _ _ _) q3, trivial⟩ ?_
     refine wpAnyH_done (by kernel_rfl) ?_ _
     go_wp2
     go_ret
     exact ⟨by rw [hall.out]; simp [q3.out], hS2.2.2⟩
   ·have q1 : Hid (¬ o.kind = 2) := k2
    refine wpAnyH_sym (by kernel_rfl) (fun _ _ _ _ _ h => h) hS [(0, none), (1, some (.int .i64 o.kind)), (2, some (.bool true)), (3, none), (4, none), (5, none), (6, none), (7, none), (8, none), (9, none), (10, none), (11, none)] (l' := #[true, true, true, true, true, true, true, true, true, true, true, true]) (a' := { tmps := #[.agg G, .agg C, .pointer (some ⟨B2, 0, none⟩), .pointer (some ⟨B3, 0, none⟩), .bool true, .int .i64 k, u6, u7, .int .i64 k, .pointer (some ⟨B3, 5, none⟩), .slice al k cl, .int .i64 k, .bool false, u13, u14, u15, u16, u17, u18, u19, u20, u21, u22, u23, u24, u25, u26, u27, u28, u29, u30, u31, u32, u33, u34, .pointer (some ⟨B3, 1, none⟩), .int .i64 o.kind, .bool true, .bool true, undef, undef, undef, undef, undef, undef, .bool true], defers := [] }) (obs := [.load 3 B3 1 (.int .i64 o.kind), .test .neq 3 (.tmp 36) (.const (.int .i64 2)) (.int .i64 o.kind) (.int .i64 2) (.bool true)]) (n := 0) (by kernel_rfl) (by kernel_rfl) ⟨ob_load1 (fun _ h => h.2.1) c1 Tryz.isAgg3, ob_yes (fun _ => neg_int _ _ _ _ _ _) q1, trivial⟩ ?_
    refine wpAnyH_done (by kernel_rfl) ?_ _
    go_wp2
    go_ret
    exact ⟨by rw [hall.out]; simp [k2], hS.2.2⟩
end Go.Proofs.YtiiaohejldchdaaGreat
