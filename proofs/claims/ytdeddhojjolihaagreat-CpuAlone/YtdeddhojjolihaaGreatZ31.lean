/-
 PROVED HERE: what the document's check.Place returns when it is called (a contract over this translation); what the documen. What is asked stands at each.
-/
import Derived.Test.YtdeddhojjolihaaGreatZ6
import Derived.Test.YtdeddhojjolihaaGreatZ7
import Derived.Test.YtdeddhojjolihaaGreatZ14
import Derived.Test.YtdeddhojjolihaaGreatZ16
import Derived.Test.YtdeddhojjolihaaGreatZ25
import Derived.Test.YtdeddhojjolihaaGreatZ27
import Derived.Test.YtdeddhojjolihaaGreatZ29
import Derived.Test.YtdeddhojjolihaaGreatZ30
namespace Go.Proofs.YtdeddhojjolihaaGreat
set_option maxRecDepth 100000
set_option maxHeartbeats 8000000
set_option linter.unusedVariables false
open Go.Proofs.Tryz
section
open Go.ChangeShapes Go.WideShapes Go.ChangeAt Go.RowKit
variable {w : World} {L L' : List (Int × Int)} {ao ao' : Option Addr} {n n' cap cap' : Nat}
theorem rleq_f (hL : Lab w.heap.size w ao n cap L) (hL' : Lab w.heap.size w ao' n' cap' L') (f : Fit L) (f' : Fit L') :
  Calls prog 52 #[.slice ao n cap, .slice ao' n' cap'] w fun e w' => e = .returned (.bool (leqB L L')) ∧ Below w.heap.size w w' := by
 have h := kuz hL hL'
 rw [xzz f f'] at h
 exact h
theorem rraise_f {ao : Option Addr} {n cap : Nat} {L : List (Int × Int)} (hL : Lab w.heap.size w ao n cap L) (hk : n < 68719476736) (f : Fit L) :
  Calls prog 97 #[.slice ao n cap] w fun e w' => ∃ ao1 n1 cap1, e = .returned (.slice ao1 n1 cap1) ∧ Lab w'.heap.size w' ao1 n1 cap1 (wAz L) ∧ n1 ≤ n ∧ Below w.heap.size w w' := by
 have h := vuz hL hk
 rw [upz f] at h
 exact h
theorem rjoin_f (hL : Lab w.heap.size w ao n cap L) (hL' : Lab w.heap.size w ao' n' cap' L') (hk : n < 68719476736) (hk' : n' < 68719476736) (f : Fit L) (f' : Fit L') :
  Calls prog 96 #[.slice ao n cap, .slice ao' n' cap'] w fun e w' => ∃ ao1 n1 cap1, e = .returned (.slice ao1 n1 cap1) ∧ Lab w'.heap.size w' ao1 n1 cap1 (yHz L L') ∧ n1 ≤ 2 * n + n' ∧ Below w.heap.size w w' := by
 have h := yzz hL hL' hk hk'
 rw [rjoin_eq f f'] at h
 exact h
theorem ywz {aD aO : Option Addr} {nD cD nO cO : Nat} {D O : List (Int × Int)} (hD : Lab w.heap.size w aD nD cD D) (hO : Lab w.heap.size w aO nO cO O) (kD : nD < 1048576) (kO : nO < 1048576) (fD : Fit D) (fO : Fit O) :
  Calls prog 55 #[.slice aD nD cD, .slice aO nO cO] w fun e w' => e = .returned (.bool (leqB D (yHz (wAz O) []))) ∧ Below w.heap.size w w' := by
 have hB := Below.refl w.heap.size w
 have H := ((((Labs.nil w).push (Lab.nil _ _)).push hD).push hO)
 clear hD hO
 have fnil := Fit.nil
 have fR : Fit (wAz O) := k3z fO
 have fJ : Fit (yHz (wAz O) []) := uYz fR Fit.nil
 go_enter func55, ntmps55
 go_wp2_with (first | (go_at_call 97; refine (rraise_f (H.get (by repeat (first | exact List.Mem.head _ | apply List.Mem.tail))) (by omega) (by assumption)).mono ?_; rintro e w1 ⟨ao1, m1, cap1, rfl, hl, kn, kb⟩; replace H := (H.next kb).push hl; replace hB := btz hB kb; clear kb hl) | (go_at_call 96; refine (rjoin_f (H.get (by repeat (first | exact List.Mem.head _ | apply List.Mem.tail))) (H.get (by repeat (first | exact List.Mem.head _ | apply List.Mem.tail))) (by omega) (by omega) (by assumption) (by assumption)).mono ?_; rintro e w1 ⟨ao1, m1, cap1, rfl, hl, kn, kb⟩; replace H := (H.next kb).push hl; replace hB := btz hB kb; clear kb hl) | (go_at_call 52; refine (rleq_f (H.get (by repeat (first | exact List.Mem.head _ | apply List.Mem.tail))) (H.get (by repeat (first | exact List.Mem.head _ | apply List.Mem.tail))) (by assumption) (by assumption)).mono ?_; rintro e w1 ⟨rfl, kb⟩; replace H := H.next kb; replace hB := btz hB kb; clear kb))
 go_ret
 exact ⟨rfl, hB⟩
end
section
open Go.RowKit Go.Shelf
attribute [local go_sem] Oper.semAt_some
theorem alw_no {l : List Int} {p : Int → Bool} {k : Nat} (hk : k < l.length) (h : p (l.getD k 0) = false) : l.all p = false := by
 rw [List.all_eq_false]
 exact ⟨_, jvz hk, by rw [h]; decide⟩
theorem alw_take {l : List Int} {p : Int → Bool} {k : Nat} (hk : k < l.length) (h : (l.take k).all p = true) (h1 : p (l.getD k 0) = true) : (l.take (k + 1)).all p = true := by
 rw [List.take_add_one, List.getElem?_eq_getElem hk, Option.toList_some, List.all_append, h]
 rw [List.getD_eq_getElem?_getD, List.getElem?_eq_getElem hk, Option.getD_some] at h1
 simp [h1]
def LbF (L : Lb) : Prop := Fit L ∧ L.length < 1048576
theorem fO_lab {X : List Ob} (h : ∀ x ∈ X, LbF x.label) (i : Int) : LbF (fO X i).label := by
 unfold fO
 cases hf : fnd X i with
 | none => exact ⟨Fit.nil, by decide⟩
 | some x => exact h x (xIz hf).2
theorem rlinks_w {w : World} {t ke ro : Int} {ao : Option Addr} {n cap : Nat} {X : List Ob} {C : Array Value} {o : Ob} (h : Obs w ao n cap X) (hq : ∀ x ∈ X, 0 ≤ x.quota ∧ x.quota ≤ 4096) (hlb : ∀ x ∈ X, LbF x.label) (ho : ObD (LtN w) w C o) (hsm : Small o) (hol : LbF o.label) : Calls prog 29 #[.agg #[.int .i64 t, .int .u64 ke, .int .u64 ro, .slice ao n cap], .agg C] w fun e w' => e = .returned (.bool (lnkB X o)) ∧ Below w.heap.size w w' := by
 have hmx : prog.follows .mixedOrders = true := by kernel_rfl
 have hz := ho.size
 obtain ⟨al, nl, cl, c5, hLk⟩ := ho.links
 obtain ⟨aD, nD, cD, c2, hLD⟩ := ho.label
 have hnD : nD < 1048576 := by rw [← hLD.1]; exact hol.2
 have c1 := ho.kind
 have c3 := ho.quota
 have hln : Hid (o.links.length = nl) := hLk.1
 have hlc := hLk.2.1
 have hlm := hLk.2.2.1.1
 have hzw : (prog.info? 25).map (·.size) = some (#[.int .i64 t, .int .u64 ke, .int .u64 ro, .slice ao n cap] : Array Value).size := by kernel_rfl
 have hus := fun (W : World) (hk : Below w.heap.size w W) => ruses_w (t := t) (ke := ke) (ro := ro) (quz h hk) hq (ho.next hk) hsm
 have hfd := fun {W : World} {i : Int} (hk : Below w.heap.size w W) => kbz (t := t) (ke := ke) (ro := ro) (i := i) h hk
 have hL0 : Lab w.heap.size w aD nD cD o.label := hLD
 obtain ⟨p, hp⟩ : ∃ p : Int → Bool, Hid (p = fun i => (fnd X i).isSome && plcB o.label (fO X i).label) := ⟨_, rfl⟩
 have hR : Hid (lnkB X o = (o.links.all p && (!decide (o.kind = 2) || decide (kRz X o ≤ o.quota)))) := by show lnkB X o = _; unfold lnkB; rw [hp.out]
 have hno := fun (k : Nat) (hk : k < nl) (e : p (o.links.getD k 0) = false) => alw_no (p := p) (show k < o.links.length by rw [hln.out]; exact hk) e
 have hyes := fun (k : Nat) (hk : k < nl) => alw_take (p := p) (show k < o.links.length by rw [hln.out]; exact hk)
 have hfull : o.links.take nl = o.links := by rw [← hln.out]; exact List.take_length
 rw [hR.out]
 generalize kRz X o = us at hus ⊢
 obtain ⟨G, hG⟩ : ∃ G : Array Value, G = #[.int .i64 t, .int .u64 ke, .int .u64 ro, .slice ao n cap] := ⟨_, rfl⟩
 rw [← hG] at hzw hfd hus
 rw [← hG]
 clear hG
 go_enter func29, ntmps29
 go_wp2_with (first
  | (with_reducible refine qdz rfl 25 _ rfl G rfl ?_; intro B2 W2 hN2 hB2 hk)
  | (with_reducible refine qdz rfl 50 _ rfl C rfl ?_; intro B3 W3 hN3 hB3 hk3; replace hB2 := hB2.next hk3; replace hk := btz hk hk3))
 clear hN2 hN3 hk3
 go_loopw [5] (fun j wr => ∃ k : Nat, k ≤ nl ∧ j = .int .i64 k ∧ Hid ((o.links.take k).all p = true) ∧ Blk wr B2 G 25 ∧ Blk wr B3 C 50 ∧ Below w.heap.size w wr) (fun j _ => nl - (intOf j).toNat)
 case atStart => exact ⟨0, Nat.zero_le _, rfl, rfl, hB2, hB3, hk⟩
 case round =>
  clear hB2 hB3 hk
  obtain ⟨k, hkn1, rfl, hall, hB2, hB3, hk⟩ := hrel
  by_cases hkn : k < nl
  ·obtain ⟨b, off, rfl, hbb, hc⟩ := jCz hLk hkn
   have hkn' : (k : Int) < nl := by omega
   replace hno := hno k hkn
   replace hyes := hyes k hkn hall.out
   generalize o.links.getD k 0 = i at hc hno hyes
   go_wp2_with (first
    | (with_reducible refine qaz (by kernel_rfl) _ _ rfl B3 _ rfl _ _ hB3 _ c5 isAgg35 ?_))
   refine PgM.region_out (S := fun W => Blk W B2 G 25 ∧ Blk W B3 C 50 ∧ Below w.heap.size w W) hmx ⟨hB2.next (Below.refl _ _).drew, hB3.next (Below.refl _ _).drew, hk.trans ((Below.refl _ _).drew.mono hk.size)⟩ (fun hS => ?_)
   generalize wr.drew = v6 at hS ⊢
   clear hk hB2 hB3 
   refine qlz (by kernel_rfl) (fun _ _ _ _ _ h => h) hS [(0, some (.agg G)), (1, none), (2, some (.slice (some ⟨b, off, none⟩) nl cl)), (3, none), (4, some (.pointer (some ⟨b, off + k, none⟩))), (5, some (.int .u64 i))] (l' := #[tt, tt, tt, tt, tt, tt, ff, ff, ff, ff, ff, ff, ff]) (a' := { tmps := #[.agg G, .agg C, .pointer (some ⟨B2, 0, none⟩), .pointer (some ⟨B3, 0, none⟩), u4, .int .i64 k, u6, u7, .int .i64 k, .pointer (some ⟨B3, 5, none⟩), .slice (some ⟨b, off, none⟩) nl cl, .int .i64 nl, .bool true, u13, u14, u15, .agg G, .pointer (some ⟨B3, 5, none⟩), .slice (some ⟨b, off, none⟩) nl cl, .int .i64 k, .pointer (some ⟨b, off + k, none⟩), .int .u64 i, u22, u23, u24, u25, u26, u27, u28, u29, u30, u31, u32, u33, u34, undef, undef, undef, undef, undef, undef, undef, undef, undef, undef, undef], defers := [] }) (obs := [.load 25 B2 0 (.agg G), .load 35 B3 5 (.slice (some ⟨b, off, none⟩) nl cl), .ia 35 (.slice (some ⟨b, off, none⟩) nl cl) (.int .i64 k) (.pointer (some ⟨b, off + k, none⟩)), .load 22 b (off + k) (.int .u64 i)]) (n := 7) (by kernel_rfl) (by kernel_rfl) ⟨qTz (fun _ h => h.1) underlying25 (by kernel_rfl) hzw, qgz (fun _ h => h.2.1) c5 isAgg35, k8z hkn, xAz (fun W h => (World.cell?_of_block (w := w) (a := ⟨b, off + k, none⟩) (h.2.2.block b hbb)).trans hc) isAgg22, trivial⟩ ?_
   refine vqz 2 #[true, true, true, true, true, true, true, true, true, true, true, false, false] (fun A W => ∃ (P6 : Nat) (C6 : Array Value), A = { tmps := #[.agg G, .agg C, .pointer (some ⟨B2, 0, none⟩), .pointer (some ⟨B3, 0, none⟩), u4, .int .i64 k, .pointer (some ⟨P6, 0, none⟩), u7, .int .i64 k, .pointer (some ⟨B3, 5, none⟩), .slice (some ⟨b, off, none⟩) nl cl, .int .i64 nl, .bool true, u13, u14, .tuple #[.agg C6, .bool (fnd X i).isSome], .agg G, .pointer (some ⟨B3, 5, none⟩), .slice (some ⟨b, off, none⟩) nl cl, .int .i64 k, .pointer (some ⟨b, off + k, none⟩), .int .u64 i, .tuple #[.agg C6, .bool (fnd X i).isSome], .agg C6, .bool (fnd X i).isSome, u25, u26, u27, u28, u29, u30, u31, u32, u33, u34, undef, undef, undef, undef, undef, undef, undef, undef, undef, undef, undef], defers := [] } ∧ (Blk W B2 G 25 ∧ Blk W B3 C 50 ∧ Below w.heap.size w W) ∧ Blk W P6 zC 50 ∧ v6.heap.size ≤ P6 ∧ ObD (LtN w) W C6 (fO X i) ∧ Below v6.heap.size v6 W) ?_ (fun rest => ?_)
   ·rintro A W ⟨P6, C6, rfl, hS1, hP0, hgP, o6, kv⟩
    obtain ⟨W6, hr6, hP6, q6⟩ := wdz hP0 (qhz o6.size) (qmz.trans o6.size.symm) o6.one
    refine qjz (i := 11) (n := 1) rfl (by kernel_rfl) ?_
    refine qAz (ty := 50) (B := P6) (off := 0) (v := .agg C6) (d := none) (by kernel_rfl) hr6 ?_
    have hwP : w.heap.size ≤ P6 := Nat.le_trans hS.2.2.size hgP
    have hS6 : Blk W6 B2 G 25 ∧ Blk W6 B3 C 50 ∧ Below w.heap.size w W6 := ⟨hS1.1.other q6 (by have := hS.1.lt; omega), hS1.2.1.other q6 (by have := hS.2.1.lt; omega), q6.below _ _ hwP hS1.2.2⟩
    replace o6 := ob_oth o6 hwP q6
    refine ⟨hS6, ?_⟩
    refine qlz (by kernel_rfl) (fun _ _ _ _ _ h => h) hS6 [(12, none)] (l' := #[tt, tt, tt, tt, tt, tt, tt, tt, tt, tt, tt, tt, tt]) (a' := { tmps := #[.agg G, .agg C, .pointer (some ⟨B2, 0, none⟩), .pointer (some ⟨B3, 0, none⟩), u4, .int .i64 k, .pointer (some ⟨P6, 0, none⟩), .bool (fnd X i).isSome, .int .i64 k, .pointer (some ⟨B3, 5, none⟩), .slice (some ⟨b, off, none⟩) nl cl, .int .i64 nl, .bool true, u13, u14, .tuple #[.agg C6, .bool (fnd X i).isSome], .agg G, .pointer (some ⟨B3, 5, none⟩), .slice (some ⟨b, off, none⟩) nl cl, .int .i64 k, .pointer (some ⟨b, off + k, none⟩), .int .u64 i, .tuple #[.agg C6, .bool (fnd X i).isSome], .agg C6, .bool (fnd X i).isSome, u25, u26, u27, u28, u29, u30, u31, u32, u33, u34, undef, undef, undef, undef, undef, undef, undef, undef, undef, undef, undef], defers := [] }) (obs := []) (n := 0) (by kernel_rfl) (by kernel_rfl) trivial ?_
    refine wpAnyH_done (by kernel_rfl) ?_ _
    obtain ⟨hB2, hB3, hk⟩ := hS6
    clear hS hS1 hP0 hgP hr6 q6 kv
    have hpi : Hid (p i = ((fnd X i).isSome && plcB o.label (fO X i).label)) := by show p i = _; rw [hp.out]
    have hlo := fO_lab hlb i
    obtain ⟨aO, nO, cO, cx2, hLO⟩ := o6.label
    have hnO : nO < 1048576 := by rw [← hLO.1]; exact hlo.2
    have hL6 : Lab W6.heap.size W6 aO nO cO (fO X i).label := hLO.lab fun b hb => Nat.lt_of_lt_of_le hb hk.size
    have hpl := ywz (Lab.next hL0 hk) hL6 hnD hnO hol.1 hlo.1
    change Calls prog _ _ W6 fun e w' => e = .returned (.bool (plcB o.label (fO X i).label)) ∧ _ at hpl
    generalize (fnd X i).isSome = bf at hpi ⊢
    generalize plcB o.label (fO X i).label = bp at hpi hpl
    clear hL6 hLO hlo o6
    cases bf with
    | false =>
     have hz0 := hno (by rw [hpi.out]; rfl)
     go_wp2
     go_ret
     exact ⟨by rw [hz0]; rfl, hk⟩
    | true =>
     cases bp with
     | false =>
      have hz0 := hno (by rw [hpi.out]; rfl)
      go_wp2_with (first
       | (with_reducible refine qaz (by kernel_rfl) _ _ rfl B3 _ rfl _ _ hB3 _ c2 isAgg34 ?_)
       | (with_reducible refine qaz (by kernel_rfl) _ _ rfl P6 _ rfl _ _ hP6 _ cx2 isAgg34 ?_)
       | (go_at_call 55; (with_reducible refine hpl.mono ?_); rintro e w7 ⟨rfl, hb7⟩; replace hk := btz hk hb7))
      go_ret
      exact ⟨by rw [hz0]; rfl, hk⟩
     | true =>
      have hy1 := hyes (by rw [hpi.out]; rfl)
      go_wp2_with (first
       | (with_reducible refine qaz (by kernel_rfl) _ _ rfl B3 _ rfl _ _ hB3 _ c2 isAgg34 ?_)
       | (with_reducible refine qaz (by kernel_rfl) _ _ rfl P6 _ rfl _ _ hP6 _ cx2 isAgg34 ?_)
       | (go_at_call 55; (with_reducible refine hpl.mono ?_); rintro e w7 ⟨rfl, hb7⟩; replace hB2 := hB2.next hb7; replace hB3 := hB3.next hb7; replace hk := btz hk hb7))
      go_roundw
      case rel => exact ⟨k + 1, by omega, by go_num, hy1, hB2, hB3, hk⟩
      case measure => simp [intOf]; omega
   ·refine qYz (i := 6) (j := 10) (n := 6) rfl (by kernel_rfl) ?_ ?_
    ·refine qpz (f := 12) (vs := [.agg G, .int .u64 i]) (d := some 22) (by kernel_rfl) call12 (hfd hS.2.2) ?_
     rintro e z1 ⟨C6, rfl, o6, hb101⟩
     have k1 := (Below.refl v6.heap.size v6).trans (hb101.mono (Below.refl v6.heap.size v6).size)
     have hS1 : Blk z1 B2 G 25 ∧ Blk z1 B3 C 50 ∧ Below w.heap.size w z1 := ⟨hS.1.next hb101, hS.2.1.next hb101, hS.2.2.trans (hb101.mono hS.2.2.size)⟩
     refine ⟨_, rfl, hS1, ?_⟩
     refine qVz (by kernel_rfl) (fun _ _ _ _ _ h => h) hS1 [7, 8, 9] (l' := #[tt, tt, tt, tt, tt, tt, tt, tt, tt, tt, ff, ff, ff]) (a' := { tmps := #[.agg G, .agg C, .pointer (some ⟨B2, 0, none⟩), .pointer (some ⟨B3, 0, none⟩), u4, .int .i64 k, u6, u7, .int .i64 k, .pointer (some ⟨B3, 5, none⟩), .slice (some ⟨b, off, none⟩) nl cl, .int .i64 nl, .bool true, u13, u14, .tuple #[.agg C6, .bool (fnd X i).isSome], .agg G, .pointer (some ⟨B3, 5, none⟩), .slice (some ⟨b, off, none⟩) nl cl, .int .i64 k, .pointer (some ⟨b, off + k, none⟩), .int .u64 i, .tuple #[.agg C6, .bool (fnd X i).isSome], .agg C6, .bool (fnd X i).isSome, u25, u26, u27, u28, u29, u30, u31, u32, u33, u34, undef, undef, undef, undef, undef, undef, undef, undef, undef, undef, undef], defers := [] }) (n := 3) (by kernel_rfl) (by kernel_rfl) ?_
     refine qjz (i := 10) (n := 2) rfl (by kernel_rfl) ?_
     refine q7z (ty := 50) (z := zC) (d := some 6) (by kernel_rfl) qsz ?_
     intro P6 z2 hN hP6 hb102
     have hgP : v6.heap.size ≤ P6 := by have := hN.out; have := k1.size; omega
     replace o6 := ob_lt o6 hS1.2.2 hb102
     have k2 := btz k1 hb102
     have hS2 : Blk z2 B2 G 25 ∧ Blk z2 B3 C 50 ∧ Below w.heap.size w z2 := ⟨hS1.1.next hb102, hS1.2.1.next hb102, hS1.2.2.trans (hb102.mono hS1.2.2.size)⟩
     refine ⟨hS2, ?_⟩
     exact rest _ _ ⟨P6, C6, rfl, hS2, hP6, hgP, o6, k2⟩
    ·refine q7z (ty := 50) (z := zC) (d := some 6) (by kernel_rfl) qsz ?_
     intro P6 z3 hN hP6 hb103
     have hgP : v6.heap.size ≤ P6 := by have := hN.out; have := (Below.refl v6.heap.size v6).size; omega
     have k3 := (Below.refl v6.heap.size v6).trans (hb103.mono (Below.refl v6.heap.size v6).size)
     have hS3 : Blk z3 B2 G 25 ∧ Blk z3 B3 C 50 ∧ Below w.heap.size w z3 := ⟨hS.1.next hb103, hS.2.1.next hb103, hS.2.2.trans (hb103.mono hS.2.2.size)⟩
     refine ⟨hS3, ?_⟩
     refine qjz (i := 6) (n := 5) rfl (by kernel_rfl) ?_
     refine qpz (f := 12) (vs := [.agg G, .int .u64 i]) (d := some 22) (by kernel_rfl) call12 (hfd hS3.2.2) ?_
     rintro e z4 ⟨C6, rfl, o6, hb104⟩
     replace hP6 := hP6.next hb104
     have k4 := btz k3 hb104
     have hS4 : Blk z4 B2 G 25 ∧ Blk z4 B3 C 50 ∧ Below w.heap.size w z4 := ⟨hS3.1.next hb104, hS3.2.1.next hb104, hS3.2.2.trans (hb104.mono hS3.2.2.size)⟩
     refine ⟨_, rfl, hS4, ?_⟩
     refine qVz (by kernel_rfl) (fun _ _ _ _ _ h => h) hS4 [7, 8, 9] (l' := #[tt, tt, tt, tt, tt, tt, tt, tt, tt, tt, tt, ff, ff]) (a' := { tmps := #[.agg G, .agg C, .pointer (some ⟨B2, 0, none⟩), .pointer (some ⟨B3, 0, none⟩), u4, .int .i64 k, .pointer (some ⟨P6, 0, none⟩), u7, .int .i64 k, .pointer (some ⟨B3, 5, none⟩), .slice (some ⟨b, off, none⟩) nl cl, .int .i64 nl, .bool true, u13, u14, .tuple #[.agg C6, .bool (fnd X i).isSome], .agg G, .pointer (some ⟨B3, 5, none⟩), .slice (some ⟨b, off, none⟩) nl cl, .int .i64 k, .pointer (some ⟨b, off + k, none⟩), .int .u64 i, .tuple #[.agg C6, .bool (fnd X i).isSome], .agg C6, .bool (fnd X i).isSome, u25, u26, u27, u28, u29, u30, u31, u32, u33, u34, undef, undef, undef, undef, undef, undef, undef, undef, undef, undef, undef], defers := [] }) (n := 2) (by kernel_rfl) (by kernel_rfl) ?_
     exact rest _ _ ⟨P6, C6, rfl, hS4, hP6, hgP, o6, k4⟩
  ·obtain rfl : k = nl := by omega
   rw [hfull] at hall
   go_wp2_with (first
    | (with_reducible refine qaz (by kernel_rfl) _ _ rfl B3 _ rfl _ _ hB3 _ c5 isAgg35 ?_))
   refine PgM.region_out (S := fun W => Blk W B2 G 25 ∧ Blk W B3 C 50 ∧ Below w.heap.size w W) hmx ⟨hB2.next (Below.refl _ _).drew, hB3.next (Below.refl _ _).drew, hk.trans ((Below.refl _ _).drew.mono hk.size)⟩ (fun hS => ?_)
   generalize wr.drew = v6 at hS ⊢
   clear hB2 hB3 hk
   by_cases k2 : o.kind = 2
   ·have q1 : Hid (¬ ¬ o.kind = 2) := fun q => q k2
    refine qlz (by kernel_rfl) (fun _ _ _ _ _ h => h) hS [(0, none), (1, some (.int .i64 o.kind)), (2, some (.bool false)), (3, none), (4, some (.agg G)), (5, some (.agg C)), (7, none), (8, some (.int .i64 o.quota))] (l' := #[tt, tt, tt, tt, tt, tt, ff, tt, tt, ff, ff, ff]) (a' := { tmps := #[.agg G, .agg C, .pointer (some ⟨B2, 0, none⟩), .pointer (some ⟨B3, 0, none⟩), u4, .int .i64 k, u6, u7, .int .i64 k, .pointer (some ⟨B3, 5, none⟩), .slice al k cl, .int .i64 k, .bool false, u13, u14, u15, u16, u17, u18, u19, u20, u21, u22, u23, u24, u25, u26, u27, u28, u29, u30, u31, u32, u33, u34, .pointer (some ⟨B3, 1, none⟩), .int .i64 o.kind, .bool false, .bool false, .agg G, .agg C, undef, .pointer (some ⟨B3, 3, none⟩), .int .i64 o.quota, undef, undef], defers := [] }) (obs := [.load 3 B3 1 (.int .i64 o.kind), .test .neq 3 (.tmp 36) (.const (.int .i64 2)) (.int .i64 o.kind) (.int .i64 2) (.bool false), .load 25 B2 0 (.agg G), .load 50 B3 0 (.agg C), .load 3 B3 3 (.int .i64 o.quota)]) (n := 4) (by kernel_rfl) (by kernel_rfl) ⟨qgz (fun _ h => h.2.1) c1 isAgg3, wKz (fun _ => wiz _ _ _ _ _ _) q1, qTz (fun _ h => h.1) underlying25 (by kernel_rfl) hzw, qTz (fun _ h => h.2.1) underlying50 (by kernel_rfl) (qhz hz), qgz (fun _ h => h.2.1) c3 isAgg3, trivial⟩ ?_
    refine qzz (i := 6) (fuel := 3) (f := 56) (vs := [.agg G, .agg C]) (d := some 41) (by kernel_rfl) (by kernel_rfl) (by kernel_rfl) call56 (hus _ hS.2.2) ?_
    rintro e v7 ⟨rfl, hb7⟩
    have hS2 : Blk v7 B2 G 25 ∧ Blk v7 B3 C 50 ∧ Below w.heap.size w v7 := ⟨hS.1.next hb7, hS.2.1.next hb7, hS.2.2.trans (hb7.mono hS.2.2.size)⟩
    refine ⟨_, rfl, hS2, ?_⟩
    by_cases q3 : us ≤ o.quota
    ·replace q3 : Hid (us ≤ o.quota) := q3
     refine qlz (by kernel_rfl) (fun _ _ _ _ _ h => h) hS2 [(9, some (.bool true)), (10, none), (11, none)] (l' := #[tt, tt, tt, tt, tt, tt, tt, tt, tt, tt, tt, tt]) (a' := { tmps := #[.agg G, .agg C, .pointer (some ⟨B2, 0, none⟩), .pointer (some ⟨B3, 0, none⟩), .bool true, .int .i64 k, u6, u7, .int .i64 k, .pointer (some ⟨B3, 5, none⟩), .slice al k cl, .int .i64 k, .bool false, u13, u14, u15, u16, u17, u18, u19, u20, u21, u22, u23, u24, u25, u26, u27, u28, u29, u30, u31, u32, u33, u34, .pointer (some ⟨B3, 1, none⟩), .int .i64 o.kind, .bool false, .bool false, .agg G, .agg C, .int .i64 us, .pointer (some ⟨B3, 3, none⟩), .int .i64 o.quota, .bool true, .bool true], defers := [] }) (obs := [.test .leq 3 (.tmp 41) (.tmp 43) (.int .i64 us) (.int .i64 o.quota) (.bool true)]) (n := 0) (by kernel_rfl) (by kernel_rfl) ⟨q0z (fun _ => wIz _ _ _ _ _ _) q3, trivial⟩ ?_
     refine wpAnyH_done (by kernel_rfl) ?_ _
     go_wp2
     go_ret
     exact ⟨by rw [hall.out]; simp [q3.out], hS2.2.2⟩
    ·replace q3 : Hid (¬ us ≤ o.quota) := q3
     refine qlz (by kernel_rfl) (fun _ _ _ _ _ h => h) hS2 [(9, some (.bool false)), (10, none), (11, none)] (l' := #[tt, tt, tt, tt, tt, tt, tt, tt, tt, tt, tt, tt]) (a' := { tmps := #[.agg G, .agg C, .pointer (some ⟨B2, 0, none⟩), .pointer (some ⟨B3, 0, none⟩), .bool false, .int .i64 k, u6, u7, .int .i64 k, .pointer (some ⟨B3, 5, none⟩), .slice al k cl, .int .i64 k, .bool false, u13, u14, u15, u16, u17, u18, u19, u20, u21, u22, u23, u24, u25, u26, u27, u28, u29, u30, u31, u32, u33, u34, .pointer (some ⟨B3, 1, none⟩), .int .i64 o.kind, .bool false, .bool false, .agg G, .agg C, .int .i64 us, .pointer (some ⟨B3, 3, none⟩), .int .i64 o.quota, .bool false, .bool false], defers := [] }) (obs := [.test .leq 3 (.tmp 41) (.tmp 43) (.int .i64 us) (.int .i64 o.quota) (.bool false)]) (n := 0) (by kernel_rfl) (by kernel_rfl) ⟨wKz (fun _ => wIz _ _ _ _ _ _) q3, trivial⟩ ?_
     refine wpAnyH_done (by kernel_rfl) ?_ _
     go_wp2
     go_ret
     exact ⟨by rw [hall.out]; simp [q3.out], hS2.2.2⟩
   ·have q1 : Hid (¬ o.kind = 2) := k2
    refine qlz (by kernel_rfl) (fun _ _ _ _ _ h => h) hS [(0, none), (1, some (.int .i64 o.kind)), (2, some (.bool true)), (3, none), (4, none), (5, none), (6, none), (7, none), (8, none), (9, none), (10, none), (11, none)] (l' := #[tt, tt, tt, tt, tt, tt, tt, tt, tt, tt, tt, tt]) (a' := { tmps := #[.agg G, .agg C, .pointer (some ⟨B2, 0, none⟩), .pointer (some ⟨B3, 0, none⟩), .bool true, .int .i64 k, u6, u7, .int .i64 k, .pointer (some ⟨B3, 5, none⟩), .slice al k cl, .int .i64 k, .bool false, u13, u14, u15, u16, u17, u18, u19, u20, u21, u22, u23, u24, u25, u26, u27, u28, u29, u30, u31, u32, u33, u34, .pointer (some ⟨B3, 1, none⟩), .int .i64 o.kind, .bool true, .bool true, undef, undef, undef, undef, undef, undef, .bool true], defers := [] }) (obs := [.load 3 B3 1 (.int .i64 o.kind), .test .neq 3 (.tmp 36) (.const (.int .i64 2)) (.int .i64 o.kind) (.int .i64 2) (.bool true)]) (n := 0) (by kernel_rfl) (by kernel_rfl) ⟨qgz (fun _ h => h.2.1) c1 isAgg3, q0z (fun _ => wiz _ _ _ _ _ _) q1, trivial⟩ ?_
    refine wpAnyH_done (by kernel_rfl) ?_ _
    go_wp2
    go_ret
    exact ⟨by rw [hall.out]; simp [k2], hS.2.2⟩
end
section
open Go.RowKit Go.Shelf
attribute [local go_sem] Oper.semAt_some
theorem res_err {k : Int} (h : k ≠ 0) (x : Ob) : resO k x = zOb := by unfold resO; rw [if_neg h]
end
section
open Go.RowKit Go.Shelf
theorem tellX {k : Int} {x : Ob} {w W w' : World} {e : Ending} (hk : Below w.heap.size w W) (h : ∃ C, e = .returned (.tuple #[.agg C, .int .i64 k]) ∧ ObD (New W w') w' C (resO k x) ∧ Below W.heap.size W w') : ∃ C, e = .returned (.tuple #[.agg C, .int .i64 k]) ∧ ObD (LtN w') w' C (resO k x) ∧ Below W.heap.size W w' := by
 obtain ⟨C, e1, o, hb⟩ := h
 exact ⟨C, e1, o.wide fun _ q => q.2, hb⟩
theorem laidX {w W2 w3 W4 V4 : World} {P : Nat} {C : Array Value} {x : Ob} (hk : Below w.heap.size w W2) (hb3 : Below W2.heap.size W2 w3) (oF : ObD (LtN w3) w3 C x) (hN4 : Hid (w3.heap.size = P ∧ W4.heap.size = P + 1)) (hk4 : Below w3.heap.size w3 W4) (q4 : Oth P W4 V4) : Below W2.heap.size W2 V4 ∧ ObD (LtN V4) V4 C x := by
 have h1 := hN4.out
 have h2 := hb3.size
 have h3 := q4.size
 refine ⟨q4.below _ _ (by omega) (hb3.trans (hk4.mono h2)), (oF.laterK fun b hb => ?_).wide fun b hb => ?_⟩
 ·have h5 : b < w3.heap.size := hb
  rw [q4.block b (by omega), hk4.block b h5]
 ·have h5 : b < w3.heap.size := hb
  show b < V4.heap.size
  omega
end
section
open Go.RowKit Go.Shelf
attribute [local go_sem] Oper.semAt_some
section
variable {fn : Func} {p u v y : Tmp} {ty : TypeId} {tmps : Array Value} {w : World} {B : Nat} {C : Array Value} {a b c : Value} {d : TypeDesc}
theorem uvz (h : fn.results = #[.cell p ty, .tmp u]) (hB : Blk w B C ty) (hd : prog.underlying ty = some d) (hr : d.isRow = true) (hs : (prog.info? ty).map (·.size) = some C.size) (hp : tmps.getD p undef = .pointer (some ⟨B, 0, none⟩)) (hu : tmps.getD u undef = a) : (results fn tmps).run prog w = .ok (.tuple #[.agg C, a]) w := by
 have h1 := run_loadVar_mid (P := prog) w B 0 ty C.toList _ hB.range0 hd hr (by simpa using hs)
 rw [Array.toArray_toList] at h1
 have hp' : tmps[p]?.getD undef = .pointer (some ⟨B, 0, none⟩) := by simpa using hp
 have hu' : tmps[u]?.getD undef = a := by simpa using hu
 simp only [results, h]
 simp [Result.andThen, hp', hu', asAddr, h1]
theorem resC3 (h : fn.results = #[.cell p ty, .tmp u, .tmp v]) (hB : Blk w B C ty) (hd : prog.underlying ty = some d) (hr : d.isRow = true) (hs : (prog.info? ty).map (·.size) = some C.size) (hp : tmps.getD p undef = .pointer (some ⟨B, 0, none⟩)) (hu : tmps.getD u undef = a) (hv : tmps.getD v undef = b) : (results fn tmps).run prog w = .ok (.tuple #[.agg C, a, b]) w := by
 have h1 := run_loadVar_mid (P := prog) w B 0 ty C.toList _ hB.range0 hd hr (by simpa using hs)
 rw [Array.toArray_toList] at h1
 have hp' : tmps[p]?.getD undef = .pointer (some ⟨B, 0, none⟩) := by simpa using hp
 have hu' : tmps[u]?.getD undef = a := by simpa using hu
 have hv' : tmps[v]?.getD undef = b := by simpa using hv
 simp only [results, h]
 simp [Result.andThen, hp', hu', hv', asAddr, h1]
end
def zM : Array Value := #[.int .i64 0, .int .i64 0, .int .u64 0, .int .u64 0, .int .i64 0, .bool false]
theorem ynz (w : World) : (zeroValue 113).run prog w = .ok (.agg zM) w := by kernel_rfl
theorem yez : prog.built 113 [] = some zM := by kernel_rfl
variable {C : Array Value}
theorem xgz (h : C.size = 6) : (prog.info? 113).map (·.size) = some C.size := by rw [h]; kernel_rfl
theorem u0z : (prog.info? 39).map (·.size) = some 2 := by kernel_rfl
theorem kzz (m : PgM.Pg.Mp) : (PgM.mpV m).all (·.oneCell') = true := by kernel_rfl
structure Mw (w : World) (ao : Option Addr) (n cap : Nat) (X : List Ob) (C : Array Value) (x : Ob) : Prop where
 obs : Obs w ao n cap X
 srt : Srt X
 len : n ≤ 4096
 sml : wfz X
 snd : ∀ y ∈ X, qQz y = true
 thr : ObD (LtN w) w C x
 lab : x.label.length < 1048576
variable {ao : Option Addr} {n cap : Nat} {X : List Ob} {x : Ob}
theorem Mw.next {w w' : World} (h : Mw w ao n cap X C x) (k : Below w.heap.size w w') : Mw w' ao n cap X C x := ⟨quz h.obs k, h.srt, h.len, h.sml, h.snd, h.thr.next k, h.lab⟩
variable {w : World}
theorem vQz {D : Nat → Prop} (h : ObD D w C x) : (C.extract 26 (26 + 2))[0]? = some (.int .u64 x.th.sc) ∧ (C.extract 26 (26 + 2))[1]? = some (.int .u64 x.th.si) ∧ (C.extract 26 (26 + 2)).size = 2 := by
 have hz := h.size
 refine ⟨(qSz (by omega) (by decide)).trans h.th.sc, (qSz (by omega) (by decide)).trans h.th.si, by simp; omega⟩
variable {t ke ro : Int} {a : Int}
theorem mapped_a (h : Mw w ao n cap X C x) (ha : 0 ≤ a ∧ a ≤ 18446744073709551615) (hE : spE X x ≠ 0) : Calls prog 139 #[.agg #[.int .i64 t, .int .u64 ke, .int .u64 ro, .slice ao n cap], .agg C, .int .u64 a] w fun e w' => e = .returned (.tuple #[.agg zM, .int .u64 0, .int .i64 (spE X x)]) ∧ Below w.heap.size w w' := by
 have hz := h.thr.size
 obtain ⟨g0, g1, gz⟩ := vQz h.thr
 have hzg : (prog.info? 25).map (·.size) = some (#[.int .i64 t, .int .u64 ke, .int .u64 ro, .slice ao n cap] : Array Value).size := by kernel_rfl
 have hse := fun (W : World) (hk : Below w.heap.size w W) => ((w3z (t := t) (ke := ke) (ro := ro) (kd := 3) (h.next hk).obs h.srt h.len h.sml (h.next hk).thr h.lab g0 g1 gz).mono (fun _ _ q => tellX hk q))
 change ∀ (W : World) (_ : Below w.heap.size w W), Calls prog _ _ W (fun e w' => ∃ C', e = .returned (.tuple #[.agg C', .int .i64 (spE X x)]) ∧ ObD (LtN w') w' C' (resO (spE X x) (fO X x.th.si)) ∧ Below W.heap.size W w') at hse
 have HE : Hid (spE X x ≠ 0) := hE
 clear hE
 generalize spE X x = ek at hse HE ⊢
 have hb0 : (ek != 0) = true := by simpa using HE.out
 obtain ⟨D, hD⟩ : ∃ D : Array Value, D = #[.int .i64 t, .int .u64 ke, .int .u64 ro, .slice ao n cap] := ⟨_, rfl⟩
 rw [← hD] at hse hzg
 rw [← hD]
 clear hD
 go_enter func139, ntmps139
 go_wp2_with (first
  | go_skip
  | (with_reducible refine qdz rfl 25 _ rfl D rfl ?_; intro B V1 hNB hB hk)
  | (with_reducible refine qdz rfl 50 _ rfl C rfl ?_; intro T V2 hNT hT hk2; replace hB := hB.next hk2; replace hk := btz hk hk2; clear hk2)
  | ((with_reducible refine qcz rfl 113 rfl zM ynz ?_); intro R V3 hNR hR hk3; replace hB := hB.next hk3; replace hT := hT.next hk3; replace hk := btz hk hk3; clear hk3)
  | (with_reducible refine qez (by kernel_rfl) 25 _ rfl B rfl D hB _ underlying25 (by kernel_rfl) hzg ?_)
  | (with_reducible refine qez (by kernel_rfl) 50 _ rfl T rfl C hT _ underlying50 (by kernel_rfl) (qhz hz) ?_)
  | (with_reducible refine wgz rfl 39 _ rfl T 26 2 rfl C _ hT (by rw [hz]; decide) _ underlying39 rfl u0z ?_)
  | (go_at_call 140; (with_reducible refine (hse _ hk).mono ?_); rintro e w4 ⟨CF1, rfl, oF1, hb1⟩)
  | ((with_reducible refine qcz rfl 50 rfl zC qsz ?_); have hx := oF1; intro P1 U1 hN21 hPa1 hka1; clear hx)
  | ((with_reducible refine qbz rfl _ _ _ rfl P1 rfl CF1 rfl zC hPa1 (qhz oF1.size) (qmz.trans oF1.size.symm) oF1.one ?_); intro X1 hP1 q1; obtain ⟨hbz, oG1⟩ := laidX hk hb1 oF1 hN21 hka1 q1; have zG1 := oG1.size; clear oF1 hb1 hN21 hka1 q1 hPa1; have nw1 : Hid (w.heap.size ≤ _) := hk.size; replace hB := hB.next hbz; replace hT := hT.next hbz; replace hR := hR.next hbz; replace hk := btz hk hbz; clear hbz; skip)
  | (with_reducible refine qez (by kernel_rfl) 50 _ rfl P1 rfl CF1 hP1 _ underlying50 (by kernel_rfl) (qhz zG1) ?_)
  | ((with_reducible refine qvz rfl 113 [] rfl zM ?hf ?_); (case hf => exact yez))
  | ((with_reducible refine qbz rfl _ _ _ rfl R rfl zM rfl zM hR (xgz rfl) rfl (by kernel_rfl) ?_); intro V9 hR9 q9))
 exact bodyPost_ret (v := .tuple #[.agg zM, .int .u64 0, .int .i64 ek]) (resC3 results139 hR9 underlying113 rfl (xgz rfl) rfl rfl rfl) rfl ⟨rfl, q9.below _ _ (by have := hNB.out; have := hNT.out; have := hNR.out; omega) hk⟩
theorem x2z (h : Mw w ao n cap X C x) (ha : 0 ≤ a ∧ a ≤ 18446744073709551615) (hE : spE X x = 0) (hcase : (PgM.Pg.spB a = false) ∨ (PgM.Pg.spB a = true) ∧ (PgM.Pg.fF (spM X x) (PgM.Pg.spP a) = false)) : Calls prog 139 #[.agg #[.int .i64 t, .int .u64 ke, .int .u64 ro, .slice ao n cap], .agg C, .int .u64 a] w fun e w' => e = .returned (.tuple #[.agg zM, .int .u64 0, .int .i64 13]) ∧ Below w.heap.size w w' := by
 have hz := h.thr.size
 have hzg : (prog.info? 25).map (·.size) = some (#[.int .i64 t, .int .u64 ke, .int .u64 ro, .slice ao n cap] : Array Value).size := by kernel_rfl
 rcases hcase with hb | ⟨hb, hf⟩
 case' inl =>
  obtain ⟨g0, g1, gz⟩ := vQz h.thr
  have hse := fun (W : World) (hk : Below w.heap.size w W) => ((w3z (t := t) (ke := ke) (ro := ro) (kd := 3) (h.next hk).obs h.srt h.len h.sml (h.next hk).thr h.lab g0 g1 gz).mono (fun _ _ q => tellX hk q))
  change ∀ (W : World) (_ : Below w.heap.size w W), Calls prog _ _ W (fun e w' => ∃ C', e = .returned (.tuple #[.agg C', .int .i64 (spE X x)]) ∧ ObD (LtN w') w' C' (resO (spE X x) (fO X x.th.si)) ∧ Below W.heap.size W w') at hse
  rw [hE] at hse
  have hsf := vRz h.snd hE
  have hres : resO 0 (fO X x.th.si) = fO X x.th.si := rfl
  rw [hres] at hse
  clear hres hE
  have hsp := fun (W : World) => PgM.split_any a ha.1 ha.2 W
  rw [hb] at hsp
  obtain ⟨D, hD⟩ : ∃ D : Array Value, D = #[.int .i64 t, .int .u64 ke, .int .u64 ro, .slice ao n cap] := ⟨_, rfl⟩
  rw [← hD] at hse hzg
  rw [← hD]
  clear hD
 case' inr =>
  obtain ⟨g0, g1, gz⟩ := vQz h.thr
  have hse := fun (W : World) (hk : Below w.heap.size w W) => ((w3z (t := t) (ke := ke) (ro := ro) (kd := 3) (h.next hk).obs h.srt h.len h.sml (h.next hk).thr h.lab g0 g1 gz).mono (fun _ _ q => tellX hk q))
  change ∀ (W : World) (_ : Below w.heap.size w W), Calls prog _ _ W (fun e w' => ∃ C', e = .returned (.tuple #[.agg C', .int .i64 (spE X x)]) ∧ ObD (LtN w') w' C' (resO (spE X x) (fO X x.th.si)) ∧ Below W.heap.size W w') at hse
  rw [hE] at hse
  have hsf := vRz h.snd hE
  have hres : resO 0 (fO X x.th.si) = fO X x.th.si := rfl
  rw [hres] at hse
  clear hres hE
  have hfi := fun (W : World) (ao : Option Addr) (n cap : Nat) (l : MpD (LtN W) W ao n cap (spM X x)) => PgM.find_any (show PgM.Mps W.heap.size W ao n cap (spM X x) from l) hsf (PgM.Pg.spP a)
  have hsp := fun (W : World) => PgM.split_any a ha.1 ha.2 W
  have ga9 := isAgg36
  rw [hb] at hsp
  rw [hf] at hfi
  obtain ⟨M, hMM⟩ : ∃ M, PgM.mpV (PgM.Pg.fM (spM X x) (PgM.Pg.spP a)) = M := ⟨_, rfl⟩
  have hM : M.size = 6 := by rw [← hMM]; rfl
  have hMz : zM.size = M.size := by rw [hM]; rfl
  have oneM : M.all (·.oneCell') = true := by rw [← hMM]; exact kzz _
  rw [hMM] at hfi
  clear hMM
  generalize PgM.Pg.fN (spM X x) (PgM.Pg.spP a) = f at hfi
  have hmE : (fO X x.th.si).maps = spM X x := rfl
  generalize fO X x.th.si = oS at hse hmE
  generalize spM X x = lM at hfi hmE
  subst hmE
  obtain ⟨D, hD⟩ : ∃ D : Array Value, D = #[.int .i64 t, .int .u64 ke, .int .u64 ro, .slice ao n cap] := ⟨_, rfl⟩
  rw [← hD] at hse hzg
  rw [← hD]
  clear hD
 all_goals go_enter func139, ntmps139
 all_goals go_wp2_with (first
  | go_skip
  | (with_reducible refine qdz rfl 25 _ rfl D rfl ?_; intro B V1 hNB hB hk)
  | (with_reducible refine qdz rfl 50 _ rfl C rfl ?_; intro T V2 hNT hT hk2; replace hB := hB.next hk2; replace hk := btz hk hk2; clear hk2)
  | ((with_reducible refine qcz rfl 113 rfl zM ynz ?_); have hx := oM; clear hx oM; intro Q VQ hNQ hQa hkq; have nQ : Hid (R < Q ∧ P1 < Q ∧ w.heap.size ≤ Q) := (by have := hNQ.out.1; have := hR.lt; have := hP1.lt; have := hk.size; exact ⟨by omega, by omega, by omega⟩); replace hB := hB.next hkq; replace hT := hT.next hkq; replace hR := hR.next hkq; replace hP1 := hP1.next hkq; replace oG1 := oG1.next hkq; replace hk := btz hk hkq; clear hkq)
  | ((with_reducible refine qcz rfl 113 rfl zM ynz ?_); intro R V3 hNR hR hk3; replace hB := hB.next hk3; replace hT := hT.next hk3; replace hk := btz hk hk3; clear hk3)
  | (with_reducible refine qez (by kernel_rfl) 25 _ rfl B rfl D hB _ underlying25 (by kernel_rfl) hzg ?_)
  | (with_reducible refine qez (by kernel_rfl) 50 _ rfl T rfl C hT _ underlying50 (by kernel_rfl) (qhz hz) ?_)
  | (with_reducible refine wgz rfl 39 _ rfl T 26 2 rfl C _ hT (by rw [hz]; decide) _ underlying39 rfl u0z ?_)
  | (go_at_call 140; (with_reducible refine (hse _ hk).mono ?_); rintro e w4 ⟨CF1, rfl, oF1, hb1⟩)
  | ((with_reducible refine qcz rfl 50 rfl zC qsz ?_); have hx := oF1; intro P1 U1 hN21 hPa1 hka1; clear hx)
  | ((with_reducible refine qbz rfl _ _ _ rfl P1 rfl CF1 rfl zC hPa1 (qhz oF1.size) (qmz.trans oF1.size.symm) oF1.one ?_); intro X1 hP1 q1; obtain ⟨hbz, oG1⟩ := laidX hk hb1 oF1 hN21 hka1 q1; have zG1 := oG1.size; clear oF1 hb1 hN21 hka1 q1 hPa1; have nw1 : Hid (w.heap.size ≤ _) := hk.size; replace hB := hB.next hbz; replace hT := hT.next hbz; replace hR := hR.next hbz; replace hk := btz hk hbz; clear hbz; obtain ⟨am, nm, cm, e7, l7⟩ := oG1.maps; skip)
  | ((with_reducible refine qbz rfl _ _ _ rfl P1 rfl CF1 rfl zC hPa1 (qhz oF1.size) (qmz.trans oF1.size.symm) oF1.one ?_); intro X1 hP1 q1; obtain ⟨hbz, oG1⟩ := laidX hk hb1 oF1 hN21 hka1 q1; have zG1 := oG1.size; clear oF1 hb1 hN21 hka1 q1 hPa1; have nw1 : Hid (w.heap.size ≤ _) := hk.size; replace hB := hB.next hbz; replace hT := hT.next hbz; replace hR := hR.next hbz; replace hk := btz hk hbz; clear hbz; skip)
  | (with_reducible refine qez (by kernel_rfl) 50 _ rfl P1 rfl CF1 hP1 _ underlying50 (by kernel_rfl) (qhz zG1) ?_)
  | (go_at_call 148; (with_reducible refine (hsp _).mono ?_); rintro e w5 ⟨rfl, rfl⟩; skip)
  | (with_reducible refine qaz (by kernel_rfl) _ _ rfl P1 _ rfl _ _ hP1 _ e7 ga9 ?_)
  | (go_at_call 149; (with_reducible refine (hfi _ _ _ _ l7).mono ?_); rintro e w6 ⟨rfl, hb6⟩; replace hB := hB.next hb6; replace hT := hT.next hb6; replace hR := hR.next hb6; replace hP1 := hP1.next hb6; replace oG1 := oG1.next hb6; replace hk := btz hk hb6; clear hb6; have oM := ga9; clear l7; skip)
  | ((with_reducible refine qbz rfl _ _ _ rfl Q rfl M rfl zM hQa (xgz hM) hMz oneM ?_); intro VS hQ qS; replace hR := hR.other qS (Nat.ne_of_lt nQ.out.1); replace hk := qS.below _ _ nQ.out.2.2 hk)
  | ((with_reducible refine qvz rfl 113 [] rfl zM ?hf ?_); (case hf => exact yez))
  | ((with_reducible refine qbz rfl _ _ _ rfl R rfl zM rfl zM hR (xgz rfl) rfl (by kernel_rfl) ?_); intro V9 hR9 q9))
 ·exact bodyPost_ret (v := .tuple #[.agg zM, .int .u64 0, .int .i64 13]) (resC3 results139 hR9 underlying113 rfl (xgz rfl) rfl rfl rfl) rfl ⟨rfl, q9.below _ _ (by have := hNB.out; have := hNT.out; have := hNR.out; omega) hk⟩
 ·exact bodyPost_ret (v := .tuple #[.agg zM, .int .u64 0, .int .i64 13]) (resC3 results139 hR9 underlying113 rfl (xgz rfl) rfl rfl rfl) rfl ⟨rfl, q9.below _ _ (by have := hNB.out; have := hNT.out; have := hNR.out; omega) hk⟩
theorem mapped_d (h : Mw w ao n cap X C x) (ha : 0 ≤ a ∧ a ≤ 18446744073709551615) (hE : spE X x = 0) (hb : PgM.Pg.spB a = true) (hf : PgM.Pg.fF (spM X x) (PgM.Pg.spP a) = true) : Calls prog 139 #[.agg #[.int .i64 t, .int .u64 ke, .int .u64 ro, .slice ao n cap], .agg C, .int .u64 a] w fun e w' => e = .returned (.tuple #[.agg (PgM.mpV (mpM X x a)), .int .u64 (mpA X x a : Nat), .int .i64 0]) ∧ Below w.heap.size w w' := by
 obtain ⟨f0, f1, r0, r1, hI, hA⟩ := xHz h.snd hE (a := a) (by unfold mpB; rw [hb, hf]; rfl) ha.1
 have hz := h.thr.size
 obtain ⟨g0, g1, gz⟩ := vQz h.thr
 have hzg : (prog.info? 25).map (·.size) = some (#[.int .i64 t, .int .u64 ke, .int .u64 ro, .slice ao n cap] : Array Value).size := by kernel_rfl
 have hse := fun (W : World) (hk : Below w.heap.size w W) => ((w3z (t := t) (ke := ke) (ro := ro) (kd := 3) (h.next hk).obs h.srt h.len h.sml (h.next hk).thr h.lab g0 g1 gz).mono (fun _ _ q => tellX hk q))
 change ∀ (W : World) (_ : Below w.heap.size w W), Calls prog _ _ W (fun e w' => ∃ C', e = .returned (.tuple #[.agg C', .int .i64 (spE X x)]) ∧ ObD (LtN w') w' C' (resO (spE X x) (fO X x.th.si)) ∧ Below W.heap.size W w') at hse
 rw [hE] at hse
 have hsf := vRz h.snd hE
 have hres : resO 0 (fO X x.th.si) = fO X x.th.si := rfl
 rw [hres] at hse
 clear hres hE
 have hfi := fun (W : World) (ao : Option Addr) (n cap : Nat) (l : MpD (LtN W) W ao n cap (spM X x)) => PgM.find_any (show PgM.Mps W.heap.size W ao n cap (spM X x) from l) hsf (PgM.Pg.spP a)
 have hsp := fun (W : World) => PgM.split_any a ha.1 ha.2 W
 have ga9 := isAgg36
 rw [hb] at hsp
 rw [hf] at hfi
 unfold mpI at hI
 unfold mpM
 generalize mpA X x a = AA at hI hA ⊢
 generalize PgM.Pg.fN (spM X x) (PgM.Pg.spP a) = f at f0 f1 hI hfi
 generalize PgM.Pg.spW a = r at r0 r1 hI hsp
 have hw1 : IntKind.i64.wrap (16 * f) = 16 * f := by rw [IntKind.wrap_i64]; omega
 have hw2 : IntKind.i64.wrap (16 * f + r) = 16 * f + r := by rw [IntKind.wrap_i64]; omega
 have hw3 : IntKind.u64.wrap (16 * f + r) = 16 * f + r := by rw [IntKind.wrap_u64]; omega
 rw [← hI]
 clear hI hA
 obtain ⟨M, hMM⟩ : ∃ M, PgM.mpV (PgM.Pg.fM (spM X x) (PgM.Pg.spP a)) = M := ⟨_, rfl⟩
 have hM : M.size = 6 := by rw [← hMM]; rfl
 have hMz : zM.size = M.size := by rw [hM]; rfl
 have oneM : M.all (·.oneCell') = true := by rw [← hMM]; exact kzz _
 rw [hMM] at hfi ⊢
 clear hMM
 have hmE : (fO X x.th.si).maps = spM X x := rfl
 generalize fO X x.th.si = oS at hse hmE
 generalize spM X x = lM at hfi hmE
 subst hmE
 obtain ⟨D, hD⟩ : ∃ D : Array Value, D = #[.int .i64 t, .int .u64 ke, .int .u64 ro, .slice ao n cap] := ⟨_, rfl⟩
 rw [← hD] at hse hzg
 rw [← hD]
 clear hD
 go_enter func139, ntmps139
 go_wp2_with (first
  | go_skip
  | (with_reducible refine qdz rfl 25 _ rfl D rfl ?_; intro B V1 hNB hB hk)
  | (with_reducible refine qdz rfl 50 _ rfl C rfl ?_; intro T V2 hNT hT hk2; replace hB := hB.next hk2; replace hk := btz hk hk2; clear hk2)
  | ((with_reducible refine qcz rfl 113 rfl zM ynz ?_); have hx := oM; clear hx oM; intro Q VQ hNQ hQa hkq; have nQ : Hid (R < Q ∧ P1 < Q ∧ w.heap.size ≤ Q) := (by have := hNQ.out.1; have := hR.lt; have := hP1.lt; have := hk.size; exact ⟨by omega, by omega, by omega⟩); replace hB := hB.next hkq; replace hT := hT.next hkq; replace hR := hR.next hkq; replace hP1 := hP1.next hkq; replace oG1 := oG1.next hkq; replace hk := btz hk hkq; clear hkq)
  | ((with_reducible refine qcz rfl 113 rfl zM ynz ?_); intro R V3 hNR hR hk3; replace hB := hB.next hk3; replace hT := hT.next hk3; replace hk := btz hk hk3; clear hk3)
  | (with_reducible refine qez (by kernel_rfl) 25 _ rfl B rfl D hB _ underlying25 (by kernel_rfl) hzg ?_)
  | (with_reducible refine qez (by kernel_rfl) 50 _ rfl T rfl C hT _ underlying50 (by kernel_rfl) (qhz hz) ?_)
  | (with_reducible refine wgz rfl 39 _ rfl T 26 2 rfl C _ hT (by rw [hz]; decide) _ underlying39 rfl u0z ?_)
  | (go_at_call 140; (with_reducible refine (hse _ hk).mono ?_); rintro e w4 ⟨CF1, rfl, oF1, hb1⟩)
  | ((with_reducible refine qcz rfl 50 rfl zC qsz ?_); have hx := oF1; intro P1 U1 hN21 hPa1 hka1; clear hx)
  | ((with_reducible refine qbz rfl _ _ _ rfl P1 rfl CF1 rfl zC hPa1 (qhz oF1.size) (qmz.trans oF1.size.symm) oF1.one ?_); intro X1 hP1 q1; obtain ⟨hbz, oG1⟩ := laidX hk hb1 oF1 hN21 hka1 q1; have zG1 := oG1.size; clear oF1 hb1 hN21 hka1 q1 hPa1; have nw1 : Hid (w.heap.size ≤ _) := hk.size; replace hB := hB.next hbz; replace hT := hT.next hbz; replace hR := hR.next hbz; replace hk := btz hk hbz; clear hbz; obtain ⟨am, nm, cm, e7, l7⟩ := oG1.maps; skip)
  | (with_reducible refine qez (by kernel_rfl) 50 _ rfl P1 rfl CF1 hP1 _ underlying50 (by kernel_rfl) (qhz zG1) ?_)
  | (go_at_call 148; (with_reducible refine (hsp _).mono ?_); rintro e w5 ⟨rfl, rfl⟩; skip)
  | (with_reducible refine qaz (by kernel_rfl) _ _ rfl P1 _ rfl _ _ hP1 _ e7 ga9 ?_)
  | (go_at_call 149; (with_reducible refine (hfi _ _ _ _ l7).mono ?_); rintro e w6 ⟨rfl, hb6⟩; replace hB := hB.next hb6; replace hT := hT.next hb6; replace hR := hR.next hb6; replace hP1 := hP1.next hb6; replace oG1 := oG1.next hb6; replace hk := btz hk hb6; clear hb6; have oM := ga9; clear l7; skip)
  | ((with_reducible refine qbz rfl _ _ _ rfl Q rfl M rfl zM hQa (xgz hM) hMz oneM ?_); intro VS hQ qS; replace hR := hR.other qS (Nat.ne_of_lt nQ.out.1); replace hk := qS.below _ _ nQ.out.2.2 hk)
  | (with_reducible refine qez (by kernel_rfl) 113 _ rfl Q rfl M hQ _ underlying113 (by kernel_rfl) (xgz hM) ?_)
  | ((with_reducible refine qbz rfl _ _ _ rfl R rfl M rfl zM hR (xgz hM) hMz oneM ?_); intro V9 hR9 q9))
 exact bodyPost_ret (v := .tuple #[.agg M, .int .u64 (16 * f + r), .int .i64 0]) (resC3 results139 hR9 underlying113 rfl (xgz hM) rfl rfl rfl) rfl ⟨rfl, q9.below _ _ (by have := hNB.out; have := hNT.out; have := hNR.out; omega) hk⟩
theorem kgz (h : Mw w ao n cap X C x) (ha : 0 ≤ a ∧ a ≤ 18446744073709551615) : Calls prog 139 #[.agg #[.int .i64 t, .int .u64 ke, .int .u64 ro, .slice ao n cap], .agg C, .int .u64 a] w fun e w' => e = .returned (.tuple #[.agg (if mpE X x a = 0 then PgM.mpV (mpM X x a) else zM), .int .u64 (if mpE X x a = 0 then (mpA X x a : Nat) else 0), .int .i64 (mpE X x a)]) ∧ Below w.heap.size w w' := by
 by_cases hE : spE X x = 0
 ·by_cases hb : mpB X x a = true
  ·have hm : mpE X x a = 0 := by unfold mpE; rw [if_pos hE, if_pos hb]
   rw [if_pos hm, if_pos hm, hm]
   unfold mpB at hb
   rw [Bool.and_eq_true] at hb
   exact mapped_d h ha hE hb.1 hb.2
  ·have hm : mpE X x a = 13 := by unfold mpE; rw [if_pos hE, if_neg hb]
   rw [if_neg (by rw [hm]; decide), if_neg (by rw [hm]; decide), hm]
   unfold mpB at hb
   cases q : PgM.Pg.spB a with
   | false => exact x2z h ha hE (.inl q)
   | true => 
    rw [q, Bool.true_and] at hb
    exact x2z h ha hE (.inr ⟨q, (by simpa using hb)⟩)
 ·have hm : mpE X x a = spE X x := by unfold mpE; rw [if_neg hE]
  rw [if_neg (by rw [hm]; exact hE), if_neg (by rw [hm]; exact hE), hm]
  exact mapped_a h ha hE
end
section
open Go.RowKit Go.Shelf
attribute [local go_sem] Oper.semAt_some
structure PlD (F C : Array Value) (p : Nat) (b : Bool) : Prop where
 size : F.size = 53
 one : F.all (·.oneCell') = true
 obj : F.extract 0 (0 + 51) = C
 at' : F[51]? = some (.int .u64 (p : Int))
 wr : F[52]? = some (.bool b)
def zPl : Array Value := zC ++ #[.int .u64 0, .bool false]
theorem wbz : zPl.size = 53 := by kernel_rfl
theorem kUz (w : World) : (zeroValue 162).run prog w = .ok (.agg zPl) w := by kernel_rfl
theorem gsz : prog.built 162 [] = some zPl := by kernel_rfl
theorem wvz {F : Array Value} (h : F.size = 53) : (prog.info? 162).map (·.size) = some F.size := by rw [h]; kernel_rfl
theorem zPl_d : PlD zPl zC (0 : Nat) false := ⟨wbz, by kernel_rfl, by kernel_rfl, by kernel_rfl, by kernel_rfl⟩
theorem pl_fill (parts : List (Nat × Value)) : prog.built 162 parts = Instr.fill (fun i => (#[(0, 51), (51, 1), (52, 1)] : Array (Nat × Nat))[i]?) zPl parts := by kernel_rfl
theorem jFz {C : Array Value} (hC : C.size = 51) (ho : C.all (·.oneCell') = true) (p : Nat) (b : Bool) : ∃ F, prog.built 162 [(0, .agg C), (1, .int .u64 (p : Int)), (2, .bool b)] = some F ∧ PlD F C p b := by
 obtain ⟨a1, a2⟩ := w6z 0 C.toList 0 zPl (by rw [wbz]; simp [hC])
 obtain ⟨K, hK⟩ : ∃ K, ((C.toList.zipIdx 0).foldl (fun (c : Array Value) (q : Value × Nat) => c.setIfInBounds (0 + q.2) q.1) zPl) = K := ⟨_, rfl⟩
 rw [hK] at a1 a2
 have hKs : K.size = 53 := a1.trans wbz
 have hb : prog.built 162 [(0, .agg C), (1, .int .u64 (p : Int)), (2, .bool b)] = some ((K.setIfInBounds 51 (.int .u64 (p : Int))).setIfInBounds 52 (.bool b)) := by
  rw [pl_fill, wYz (o := 0) (n := 51) rfl hC (by rw [wbz, hC]; decide), hK]
  simp [Instr.fill, Value.cells, hKs]
 have hg : ∀ i, ((K.setIfInBounds 51 (.int .u64 (p : Int))).setIfInBounds 52 (.bool b))[i]? = if 52 = i then some (.bool b) else if 51 = i then some (.int .u64 (p : Int)) else K[i]? := fun i => by
  rw [qwz (by simp [hKs]), qwz (by omega)]
 have hlow : ∀ i, i < 51 → K[i]? = C[i]? := fun i hi => by
  rw [a2 i, if_pos (by simp [hC]; omega)]
  simp
 refine ⟨_, hb, by simp [hKs], ?_, ?_, ?_, ?_⟩
 ·apply wyz
  intro j v e
  rw [hg j] at e
  split at e
  ·cases e; rfl
  ·split at e
   ·cases e; rfl
   ·have hj : j < 51 := by
     have : j < K.size := (Array.getElem?_eq_some_iff.1 e).1
     omega
    rw [hlow j hj] at e
    exact q2z ho e
 ·apply Array.ext_getElem?
  intro i
  by_cases hi : i < 51
  ·rw [qSz (by simp [hKs]) hi, hg, if_neg (by omega), if_neg (by omega), Nat.zero_add, hlow i hi]
  ·rw [Array.getElem?_eq_none (by simp; omega), Array.getElem?_eq_none (by omega)]
 ·rw [hg, if_neg (by decide), if_pos rfl]
 ·rw [hg, if_pos rfl]
structure ObF (N M : Nat) (W : World) (C : Array Value) (x : Ob) : Prop where
 ob : ObD (fun b => N ≤ b ∧ b < M) W C x
 top : M ≤ W.heap.size
section
variable {N M : Nat} {w W W' : World} {C : Array Value} {x : Ob}
theorem ObF.next (h : ObF N M W C x) (k : Below W.heap.size W W') : ObF N M W' C x := ⟨ObD.laterK h.ob fun b hb => k.block b (Nat.lt_of_lt_of_le hb.2 h.top), Nat.le_trans h.top k.size⟩
theorem ObF.other {R : Nat} (h : ObF N M W C x) (k : Oth R W W') (hR : R < N) : ObF N M W' C x := ⟨ObD.laterK h.ob fun b hb => k.block b (by have := hb.1; omega), by rw [k.size]; exact h.top⟩
theorem ObF.above {R : Nat} (h : ObF N M W C x) (k : Oth R W W') (hR : M ≤ R) : ObF N M W' C x := ⟨ObD.laterK h.ob fun b hb => k.block b (by have := hb.2; omega), by rw [k.size]; exact h.top⟩
theorem ObF.lt (h : ObF N M W C x) : ObD (LtN W) W C x := ObD.wide h.ob fun b hb => Nat.lt_of_lt_of_le hb.2 h.top
theorem ObF.new (h : ObF N M W C x) (k : w.heap.size ≤ N) : ObD (New w W) W C x := ObD.wide h.ob fun b hb => ⟨Nat.le_trans k hb.1, Nat.lt_of_lt_of_le hb.2 h.top⟩
theorem ObF.size (h : ObF N M W C x) : C.size = 51 := h.ob.size
theorem ObF.one (h : ObF N M W C x) : C.all (·.oneCell') = true := h.ob.one
end
theorem yGz {W2 w3 W4 V4 : World} {P : Nat} {C : Array Value} {x : Ob} (hb3 : Below W2.heap.size W2 w3) (oF : ObD (New W2 w3) w3 C x) (hN4 : Hid (w3.heap.size = P ∧ W4.heap.size = P + 1)) (hk4 : Below w3.heap.size w3 W4) (q4 : Oth P W4 V4) : Below W2.heap.size W2 V4 ∧ ObF W2.heap.size w3.heap.size V4 C x := by
 have h1 := hN4.out
 have h2 := hb3.size
 have h3 := q4.size
 refine ⟨q4.below _ _ (by omega) (hb3.trans (hk4.mono h2)), oF.laterK fun b hb => ?_, by omega⟩
 have h5 := hb.2
 rw [q4.block b (by omega), hk4.block b h5]
section
variable {op : Oper} {rest : List Oper} {ops : Array Oper} {a : Act} {w : World} {Q : Exit → Act → World → Prop} {P : Program}
theorem kkz (hw : Region.wanted op (yielded ops a.tmps) = true) (ty : TypeId) (x : Operand) (ho : op.op = .load ty x) (B o n : Nat) (hx : a.eval x = .pointer (some ⟨B, o, none⟩)) (F C : Array Value) (t : TypeId) (hB : Blk w B F t) (hF : F.extract o (o + n) = C) (hz : C.size = n) (d : TypeDesc)
  (hu : prog.underlying ty = some d) (hd : d.isRow = true) (hi : (prog.info? ty).map (·.size) = some C.size) (h : wpList prog ops Q rest (a.put op.dst (.agg C)) w) : wpList prog ops Q (op :: rest) a w := by
 have hr : w.rangeAt B o C.toList := by rw [← hF]; exact hB.range o n
 exact qLz hw ty x ho B o hx C hr d hu hd hi h
end
variable {F C : Array Value} {w : World} {b : Bool}
theorem yZz {x : Ob} {p : Nat} (hF : PlD F C p b) (h : ObD (LtN w) w C x) (hp : p < 18446744073709551616) : Calls prog 123 #[.agg F] w fun e w' => e = .returned (.tuple #[.int .u64 (gtV x p), .int .i64 (wpl x p)]) ∧ Below w.heap.size w w' := by
 have hz := h.size
 have hf := hF.size
 have ho := hF.obj
 have ha := hF.at'
 have ga1 := isAgg22
 have hge := fun (W : World) (hk : Below w.heap.size w W) => sget_any (h.next hk) hp
 obtain ⟨u, hu⟩ : ∃ u, Hid (gtV x p = u) := ⟨_, rfl⟩
 obtain ⟨v, hv⟩ : ∃ v, Hid (wpl x p = v) := ⟨_, rfl⟩
 simp only [hu.out, hv.out] at hge ⊢
 go_enter func123, ntmps123
 go_wp2_with (first
  | go_skip
  | (with_reducible refine qdz rfl 162 _ rfl F rfl ?_; intro B V1 hNB hB hk)
  | (with_reducible refine kkz (by kernel_rfl) 50 _ rfl B 0 51 rfl F C _ hB ho hz _ underlying50 rfl (qhz hz) ?_)
  | (with_reducible refine qaz (by kernel_rfl) _ _ rfl B _ rfl _ _ hB _ ha ga1 ?_)
  | (go_at_call 141; (with_reducible refine (hge _ hk).mono ?_); rintro e w2 ⟨rfl, hb3⟩; replace hB := hB.next hb3; replace hk := btz hk hb3; clear hb3; skip))
 exact bodyPost_ret (results_tmp2 results123 _ _ _) rfl ⟨rfl, hk⟩
theorem y7z {x : Ob} {p : Nat} (hF : PlD F C p b) (h : ObD (LtN w) w C x) {T : Array Value} {t : Ob} (ht : ObD (LtN w) w T t) (hl : t.label.length < 1048576) : Calls prog 124 #[.agg F, .agg T] w fun e w' => e = .returned (.bool (b && leqB t.label x.label)) ∧ Below w.heap.size w w' := by
 have hz := ht.size
 have hf := hF.size
 have hwr := hF.wr
 have ga3 := isAgg4
 have ga0 := isAgg34
 obtain ⟨a2, n2, c2, e2, l2⟩ := ht.label
 obtain ⟨a3, n3, c3, e3, l3⟩ := h.label
 have e4 : F[2]? = some (.slice a3 n3 c3) := by rw [← e3, ← hF.obj, qSz (by omega) (by decide)]
 have hle := fun (W : World) (hk : Below w.heap.size w W) => kiz (B := 0) (LabD.lab' l2 hk) (LabD.lab' l3 hk)
 cases b
 ·go_enter func124, ntmps124
  go_wp2_with (first
   | go_skip
   | (with_reducible refine qdz rfl 162 _ rfl F rfl ?_; intro B V1 hNB hB hk)
   | (with_reducible refine qdz rfl 50 _ rfl T rfl ?_; intro O V2 hNO hO hk2; replace hB := hB.next hk2; replace hk := btz hk hk2; clear hk2)
   | (with_reducible refine qaz (by kernel_rfl) _ _ rfl B _ rfl _ _ hB _ hwr ga3 ?_)
   | (with_reducible refine qaz (by kernel_rfl) _ _ rfl O _ rfl _ _ hO _ e2 ga0 ?_)
   | (with_reducible refine qaz (by kernel_rfl) _ _ rfl B _ rfl _ _ hB _ e4 ga0 ?_)
   | (go_at_call 142; (with_reducible refine (hle _ hk).mono ?_); rintro e w3 ⟨rfl, hb3⟩; replace hB := hB.next hb3; replace hO := hO.next hb3; replace hk := btz hk hb3; clear hb3; skip))
  go_ret
  exact ⟨rfl, hk⟩
 ·rw [Bool.true_and]
  go_enter func124, ntmps124
  go_wp2_with (first
   | go_skip
   | (with_reducible refine qdz rfl 162 _ rfl F rfl ?_; intro B V1 hNB hB hk)
   | (with_reducible refine qdz rfl 50 _ rfl T rfl ?_; intro O V2 hNO hO hk2; replace hB := hB.next hk2; replace hk := btz hk hk2; clear hk2)
   | (with_reducible refine qaz (by kernel_rfl) _ _ rfl B _ rfl _ _ hB _ hwr ga3 ?_)
   | (with_reducible refine qaz (by kernel_rfl) _ _ rfl O _ rfl _ _ hO _ e2 ga0 ?_)
   | (with_reducible refine qaz (by kernel_rfl) _ _ rfl B _ rfl _ _ hB _ e4 ga0 ?_)
   | (go_at_call 142; (with_reducible refine (hle _ hk).mono ?_); rintro e w3 ⟨rfl, hb3⟩; replace hB := hB.next hb3; replace hO := hO.next hb3; replace hk := btz hk hb3; clear hb3; skip))
  go_ret
  exact ⟨rfl, hk⟩
theorem with_v {x : Ob} {p : Nat} (hF : PlD F C p b) (h : ObD (LtN w) w C x) (hs : Small x) (hx : x.kind = 1 → x = sgO x.id x.label x.quota x.fixed x.data) (hp : p < 18446744073709551616) {v : Int} : Calls prog 125 #[.agg F, .int .u64 v] w fun e w' => ∃ C', e = .returned (.agg C') ∧ ObD (New w w') w' C' (putO x p v) ∧ Below w.heap.size w w' := by
 have hz := h.size
 have hf := hF.size
 have ho := hF.obj
 have ha := hF.at'
 have ga1 := isAgg22
 have hpu := fun (W : World) (hk : Below w.heap.size w W) => sput_n (h.next hk) hs hx hp (v := v)
 obtain ⟨z, hzz⟩ : ∃ z, Hid (wpl x p = z) := ⟨_, rfl⟩
 simp only [hzz.out] at hpu
 generalize putO x p v = y at hpu ⊢
 go_enter func125, ntmps125
 go_wp2_with (first
  | go_skip
  | (with_reducible refine qdz rfl 162 _ rfl F rfl ?_; intro B V1 hNB hB hk)
  | ((with_reducible refine qcz rfl 50 rfl zC qsz ?_); have hx := oF1; intro P1 U1 hN21 hPa1 hka1; clear hx)
  | ((with_reducible refine qcz rfl 50 rfl zC qsz ?_); intro R V2 hNR hR hk2; replace hB := hB.next hk2; replace hk := btz hk hk2; clear hk2)
  | (with_reducible refine kkz (by kernel_rfl) 50 _ rfl B 0 51 rfl F C _ hB ho hz _ underlying50 rfl (qhz hz) ?_)
  | (with_reducible refine qaz (by kernel_rfl) _ _ rfl B _ rfl _ _ hB _ ha ga1 ?_)
  | (go_at_call 143; (with_reducible refine (hpu _ hk).mono ?_); rintro e w3 ⟨CF1, rfl, oF1, hb1⟩)
  | ((with_reducible refine qbz rfl _ _ _ rfl P1 rfl CF1 rfl zC hPa1 (qhz oF1.size) (qmz.trans oF1.size.symm) oF1.one ?_); intro X1 hP1 q1; obtain ⟨hbz, oG1⟩ := yGz hb1 oF1 hN21 hka1 q1; have zG1 := oG1.size; clear oF1 hb1 hN21 hka1 q1 hPa1; have nw1 : Hid (w.heap.size ≤ _) := hk.size; have nR1 : Hid (R < _) := hR.lt; replace hB := hB.next hbz; replace hR := hR.next hbz; replace hk := btz hk hbz; clear hbz; skip)
  | (with_reducible refine qez (by kernel_rfl) 50 _ rfl P1 rfl CF1 hP1 _ underlying50 (by kernel_rfl) (qhz zG1) ?_)
  | ((with_reducible refine qbz rfl _ _ _ rfl R rfl CF1 rfl zC hR (qhz zG1) (qmz.trans zG1.symm) oG1.one ?_); intro V9 hR9 q9))
 have hRw : w.heap.size ≤ R := by have := hNB.out; have := hNR.out; omega
 refine bodyPost_ret (v := .agg CF1) (kSz results125 rfl hR9 zG1) rfl ⟨CF1, rfl, (oG1.other q9 nR1.out).new nw1.out, q9.below _ _ hRw hk⟩
end
section
open Go.RowKit Go.Shelf
attribute [local go_sem] Oper.semAt_some
theorem kNz (c i : Int) : prog.built 39 [(0, .int .u64 c), (1, .int .u64 i)] = some #[.int .u64 c, .int .u64 i] := by kernel_rfl
theorem mp_at (m : PgM.Pg.Mp) : (PgM.mpV m)[2]? = some (.int .u64 m.cont) ∧ (PgM.mpV m)[3]? = some (.int .u64 m.seg) ∧ (PgM.mpV m)[5]? = some (.bool m.wr) ∧ (PgM.mpV m).size = 6 := ⟨rfl, rfl, rfl, rfl⟩
def PlO (k : Int) (y : Ob) (p : Nat) (b : Bool) (W : World) (e : Ending) (w' : World) : Prop := ∃ F C, e = .returned (.tuple #[.agg F, .int .i64 k]) ∧ PlD F C (if k = 0 then p else 0) (if k = 0 then b else false) ∧ ObD (New W w') w' C (resO k y) ∧ Below W.heap.size W w'
theorem vzz {k : Int} {y : Ob} {p : Nat} {b : Bool} {W w' : World} (hk : k ≠ 0) (hb : Below W.heap.size W w') : PlO k y p b W (.returned (.tuple #[.agg zPl, .int .i64 k])) w' := by
 refine ⟨zPl, zC, rfl, ?_, ?_, hb⟩
 ·rw [if_neg hk, if_neg hk]; exact zPl_d
 ·rw [res_err hk]; exact zC_d _ _
theorem xpz {w : World} {t ke ro : Int} {ao : Option Addr} {n cap : Nat} {X : List Ob} {C : Array Value} {x : Ob} {a : Int} (h : Mw w ao n cap X C x) (ha : 0 ≤ a ∧ a ≤ 18446744073709551615) (hcase : (mpE X x a ≠ 0) ∨ (mpE X x a = 0) ∧ (sgE X x a ≠ 0) ∨ (mpE X x a = 0) ∧ (sgE X x a = 0) ∧ (wpl (wkO X x a) (mpA X x a : Nat) ≠ 0) ∨ (mpE X x a = 0) ∧ (sgE X x a = 0) ∧ (wpl (wkO X x a) (mpA X x a : Nat) = 0)) : Calls prog 122 #[.agg #[.int .i64 t, .int .u64 ke, .int .u64 ro, .slice ao n cap], .agg C, .int .u64 a] w (PlO (wkE X x a) (wkO X x a) (mpA X x a) (mpM X x a).wr w) := by
 have hz := h.thr.size
 have hzg : (prog.info? 25).map (·.size) = some (#[.int .i64 t, .int .u64 ke, .int .u64 ro, .slice ao n cap] : Array Value).size := by kernel_rfl
 rcases hcase with hE | ⟨hE, hS⟩ | ⟨hE, hS, hW⟩ | ⟨hE, hS, hW⟩
 case' inl =>
  have hw : wkE X x a = mpE X x a := by unfold wkE; rw [if_neg hE]
  rw [hw]
  clear hw
  have hma := fun (W : World) (hk : Below w.heap.size w W) => kgz (t := t) (ke := ke) (ro := ro) (h.next hk) ha
  simp only [if_neg hE] at hma
  have HE : Hid (mpE X x a ≠ 0) := hE
  clear hE
  generalize mpE X x a = ek at hma HE ⊢
  have hb0 : (ek != 0) = true := by simpa using HE.out
  obtain ⟨M, hMM⟩ : ∃ M, zM = M := ⟨_, rfl⟩
  have hMz : zM.size = M.size := by rw [← hMM]
  have hM : M.size = 6 := by rw [← hMM]; rfl
  have oneM : M.all (·.oneCell') = true := by rw [← hMM]; kernel_rfl
  simp only [hMM] at hma
  obtain ⟨D, hD⟩ : ∃ D : Array Value, D = #[.int .i64 t, .int .u64 ke, .int .u64 ro, .slice ao n cap] := ⟨_, rfl⟩
  rw [← hD] at hma hzg
  rw [← hD]
  clear hD
 case' inr.inl =>
  have hw : wkE X x a = sgE X x a := by unfold wkE; rw [if_pos hE, if_neg hS]
  rw [hw]
  clear hw
  have hma := fun (W : World) (hk : Below w.heap.size w W) => kgz (t := t) (ke := ke) (ro := ro) (h.next hk) ha
  have hE0 := (xBz hE).1
  have hA := (xHz h.snd hE0 (xBz hE).2 ha.1).2.2.2.2.2
  simp only [hE, if_pos] at hma
  obtain ⟨m0, m1, m2, hM⟩ := mp_at (mpM X x a)
  have hMz : zM.size = (PgM.mpV (mpM X x a)).size := by rfl
  have oneM := kzz (mpM X x a)
  have hse := fun (W : World) (hk : Below w.heap.size w W) => w3z (t := t) (ke := ke) (ro := ro) (kd := 1) (G := #[.int .u64 (mpM X x a).cont, .int .u64 (mpM X x a).seg]) (h.next hk).obs h.srt h.len h.sml (h.next hk).thr h.lab rfl rfl rfl
  change ∀ (W : World) (_ : Below w.heap.size w W), Calls prog _ _ W (fun e w' => ∃ C', e = .returned (.tuple #[.agg C', .int .i64 (sgE X x a)]) ∧ ObD (New W w') w' C' (resO (sgE X x a) (wkO X x a)) ∧ Below W.heap.size W w') at hse
  have hbr := kNz (mpM X x a).cont (mpM X x a).seg
  have ga1 := isAgg22
  have ga3 := isAgg4
  have HE : Hid (sgE X x a ≠ 0) := hS
  clear hS hE hE0 hA
  generalize sgE X x a = ek at hse HE ⊢
  have hb0 : (ek != 0) = true := by simpa using HE.out
  generalize mpA X x a = A at hma ⊢
  generalize (mpM X x a).cont = mc at m0 hse hbr
  generalize (mpM X x a).seg = ms at m1 hse hbr
  generalize (mpM X x a).wr = mw at m2 ⊢
  generalize PgM.mpV (mpM X x a) = M at hma m0 m1 m2 hM hMz oneM
  generalize wkO X x a = y at hse ⊢
  obtain ⟨D, hD⟩ : ∃ D : Array Value, D = #[.int .i64 t, .int .u64 ke, .int .u64 ro, .slice ao n cap] := ⟨_, rfl⟩
  rw [← hD] at hma hse hzg
  rw [← hD]
  clear hD
 case' inr.inr.inl =>
  have hw : wkE X x a = wpl (wkO X x a) (mpA X x a : Nat) := by unfold wkE; rw [if_pos hE, if_pos hS]
  rw [hw]
  clear hw
  have hma := fun (W : World) (hk : Below w.heap.size w W) => kgz (t := t) (ke := ke) (ro := ro) (h.next hk) ha
  have hE0 := (xBz hE).1
  have hA := (xHz h.snd hE0 (xBz hE).2 ha.1).2.2.2.2.2
  simp only [hE, if_pos] at hma
  obtain ⟨m0, m1, m2, hM⟩ := mp_at (mpM X x a)
  have hMz : zM.size = (PgM.mpV (mpM X x a)).size := by rfl
  have oneM := kzz (mpM X x a)
  have hse := fun (W : World) (hk : Below w.heap.size w W) => w3z (t := t) (ke := ke) (ro := ro) (kd := 1) (G := #[.int .u64 (mpM X x a).cont, .int .u64 (mpM X x a).seg]) (h.next hk).obs h.srt h.len h.sml (h.next hk).thr h.lab rfl rfl rfl
  change ∀ (W : World) (_ : Below w.heap.size w W), Calls prog _ _ W (fun e w' => ∃ C', e = .returned (.tuple #[.agg C', .int .i64 (sgE X x a)]) ∧ ObD (New W w') w' C' (resO (sgE X x a) (wkO X x a)) ∧ Below W.heap.size W w') at hse
  have hbr := kNz (mpM X x a).cont (mpM X x a).seg
  have ga1 := isAgg22
  have ga3 := isAgg4
  rw [hS] at hse
  have hres : resO 0 (wkO X x a) = wkO X x a := rfl
  rw [hres] at hse
  clear hres hS hE hE0
  have hA2 : mpA X x a < 18446744073709551616 := by omega
  generalize mpA X x a = A at hma hW hA2 ⊢
  generalize (mpM X x a).cont = mc at m0 hse hbr
  generalize (mpM X x a).seg = ms at m1 hse hbr
  generalize (mpM X x a).wr = mw at m2 ⊢
  generalize PgM.mpV (mpM X x a) = M at hma m0 m1 m2 hM hMz oneM
  generalize wkO X x a = y at hse hW ⊢
  have hwo := fun (W : World) (F Cy : Array Value) (hF : PlD F Cy A mw) (hy : ObD (LtN W) W Cy y) => yZz hF hy hA2
  obtain ⟨gv, hgv⟩ : ∃ gv, Hid (gtV y A = gv) := ⟨_, rfl⟩
  simp only [hgv.out] at hwo
  have HE : Hid (wpl y (A : Nat) ≠ 0) := hW
  clear hW hA
  generalize wpl y (A : Nat) = ek at hwo HE ⊢
  have hb0 : (ek != 0) = true := by simpa using HE.out
  obtain ⟨D, hD⟩ : ∃ D : Array Value, D = #[.int .i64 t, .int .u64 ke, .int .u64 ro, .slice ao n cap] := ⟨_, rfl⟩
  rw [← hD] at hma hse hzg
  rw [← hD]
  clear hD
 case' inr.inr.inr =>
  have hw : wkE X x a = wpl (wkO X x a) (mpA X x a : Nat) := by unfold wkE; rw [if_pos hE, if_pos hS]
  rw [hw]
  clear hw
  have hma := fun (W : World) (hk : Below w.heap.size w W) => kgz (t := t) (ke := ke) (ro := ro) (h.next hk) ha
  have hE0 := (xBz hE).1
  have hA := (xHz h.snd hE0 (xBz hE).2 ha.1).2.2.2.2.2
  simp only [hE, if_pos] at hma
  obtain ⟨m0, m1, m2, hM⟩ := mp_at (mpM X x a)
  have hMz : zM.size = (PgM.mpV (mpM X x a)).size := by rfl
  have oneM := kzz (mpM X x a)
  have hse := fun (W : World) (hk : Below w.heap.size w W) => w3z (t := t) (ke := ke) (ro := ro) (kd := 1) (G := #[.int .u64 (mpM X x a).cont, .int .u64 (mpM X x a).seg]) (h.next hk).obs h.srt h.len h.sml (h.next hk).thr h.lab rfl rfl rfl
  change ∀ (W : World) (_ : Below w.heap.size w W), Calls prog _ _ W (fun e w' => ∃ C', e = .returned (.tuple #[.agg C', .int .i64 (sgE X x a)]) ∧ ObD (New W w') w' C' (resO (sgE X x a) (wkO X x a)) ∧ Below W.heap.size W w') at hse
  have hbr := kNz (mpM X x a).cont (mpM X x a).seg
  have ga1 := isAgg22
  have ga3 := isAgg4
  rw [hS] at hse
  have hres : resO 0 (wkO X x a) = wkO X x a := rfl
  rw [hres] at hse
  clear hres hS hE hE0
  have hA2 : mpA X x a < 18446744073709551616 := by omega
  generalize mpA X x a = A at hma hW hA2 ⊢
  generalize (mpM X x a).cont = mc at m0 hse hbr
  generalize (mpM X x a).seg = ms at m1 hse hbr
  generalize (mpM X x a).wr = mw at m2 ⊢
  generalize PgM.mpV (mpM X x a) = M at hma m0 m1 m2 hM hMz oneM
  generalize wkO X x a = y at hse hW ⊢
  have hwo := fun (W : World) (F Cy : Array Value) (hF : PlD F Cy A mw) (hy : ObD (LtN W) W Cy y) => yZz hF hy hA2
  obtain ⟨gv, hgv⟩ : ∃ gv, Hid (gtV y A = gv) := ⟨_, rfl⟩
  simp only [hgv.out] at hwo
  rw [hW] at hwo ⊢
  clear hW hA
  obtain ⟨D, hD⟩ : ∃ D : Array Value, D = #[.int .i64 t, .int .u64 ke, .int .u64 ro, .slice ao n cap] := ⟨_, rfl⟩
  rw [← hD] at hma hse hzg
  rw [← hD]
  clear hD
 all_goals go_enter func122, ntmps122
 all_goals go_wp2_with (first
  | go_skip
  | (with_reducible refine qdz rfl 25 _ rfl D rfl ?_; intro B V1 hNB hB hk)
  | (with_reducible refine qdz rfl 50 _ rfl C rfl ?_; intro T V2 hNT hT hk2; replace hB := hB.next hk2; replace hk := btz hk hk2; clear hk2)
  | ((with_reducible refine qcz rfl 162 rfl zPl kUz ?_); have hx := hPF; clear hx; intro K VK hNK hKa hkK; have nK : Hid (R < K ∧ w.heap.size ≤ K) := (by have := hNK.out.1; have := hR.lt; have := hk.size; exact ⟨by omega, by omega⟩); have nKG : Hid (_ ≤ K) := (by have := hNK.out.1; have h2 := oG1.top; rw [this] at h2; exact h2); replace hB := hB.next hkK; replace hT := hT.next hkK; replace hR := hR.next hkK; replace hQ := hQ.next hkK; replace hP1 := hP1.next hkK; replace oG1 := oG1.next hkK; replace hk := btz hk hkK; clear hkK)
  | ((with_reducible refine qcz rfl 162 rfl zPl kUz ?_); intro R V3 hNR hR hk3; replace hB := hB.next hk3; replace hT := hT.next hk3; replace hk := btz hk hk3; clear hk3)
  | (with_reducible refine qez (by kernel_rfl) 25 _ rfl B rfl D hB _ underlying25 (by kernel_rfl) hzg ?_)
  | (with_reducible refine qez (by kernel_rfl) 50 _ rfl T rfl C hT _ underlying50 (by kernel_rfl) (qhz hz) ?_)
  | (go_at_call 139; (with_reducible refine (hma _ hk).mono ?_); rintro e w9 ⟨rfl, hb9⟩; replace hB := hB.next hb9; replace hT := hT.next hb9; replace hR := hR.next hb9; replace hk := btz hk hb9; clear hb9)
  | ((with_reducible refine qcz rfl 113 rfl zM ynz ?_); intro Q VQ hNQ hQa hkq; have nBQ : Hid (B ≠ Q) := (by have := hNQ.out.1; have := hB.lt; show B ≠ Q; omega); have nTQ : Hid (T ≠ Q) := (by have := hNQ.out.1; have := hT.lt; show T ≠ Q; omega); have nQ : Hid (R < Q ∧ w.heap.size ≤ Q) := (by have := hNQ.out.1; have := hR.lt; have := hk.size; exact ⟨by omega, by omega⟩); replace hB := hB.next hkq; replace hT := hT.next hkq; replace hR := hR.next hkq; replace hk := btz hk hkq; clear hkq)
  | ((with_reducible refine qbz rfl _ _ _ rfl Q rfl M rfl zM hQa (xgz hM) hMz oneM ?_); intro VS hQ qS; replace hR := hR.other qS (Nat.ne_of_lt nQ.out.1); replace hB := hB.other qS nBQ.out; replace hT := hT.other qS nTQ.out; replace hk := qS.below _ _ nQ.out.2 hk; clear qS hQa)
  | (with_reducible refine qaz (by kernel_rfl) _ _ rfl Q _ rfl _ _ hQ _ m0 ga1 ?_)
  | (with_reducible refine qaz (by kernel_rfl) _ _ rfl Q _ rfl _ _ hQ _ m1 ga1 ?_)
  | ((with_reducible refine qvz rfl 39 [(0, _), (1, _)] rfl _ ?hf ?_); (case hf => exact hbr))
  | (go_at_call 140; (with_reducible refine (hse _ hk).mono ?_); rintro e w4 ⟨CF1, rfl, oF1, hb1⟩)
  | ((with_reducible refine qcz rfl 50 rfl zC qsz ?_); have hx := oF1; intro P1 U1 hN21 hPa1 hka1; clear hx)
  | ((with_reducible refine qbz rfl _ _ _ rfl P1 rfl CF1 rfl zC hPa1 (qhz oF1.size) (qmz.trans oF1.size.symm) oF1.one ?_); intro X1 hP1 q1; obtain ⟨hbz, oG1⟩ := yGz hb1 oF1 hN21 hka1 q1; have zG1 := oG1.size; clear oF1 hb1 hN21 hka1 q1 hPa1; have nw1 : Hid (w.heap.size ≤ _) := hk.size; have nR1 : Hid (R < _) := hR.lt; have nQ1 : Hid (Q < _) := hQ.lt; replace hB := hB.next hbz; replace hT := hT.next hbz; replace hR := hR.next hbz; replace hQ := hQ.next hbz; replace hk := btz hk hbz; clear hbz; skip)
  | (with_reducible refine qez (by kernel_rfl) 50 _ rfl P1 rfl CF1 hP1 _ underlying50 (by kernel_rfl) (qhz zG1) ?_)
  | (with_reducible refine qaz (by kernel_rfl) _ _ rfl Q _ rfl _ _ hQ _ m2 ga3 ?_)
  | ((with_reducible refine qvz rfl 162 [(0, _), (1, _), (2, _)] rfl (Classical.choose (jFz zG1 oG1.one A mw)) ?hf ?_); (case hf => exact (Classical.choose_spec (jFz zG1 oG1.one A mw)).1); obtain ⟨F, hFF⟩ : ∃ F, Classical.choose (jFz zG1 oG1.one A mw) = F := ⟨_, rfl⟩; have hPF := (Classical.choose_spec (jFz zG1 oG1.one A mw)).2; rw [hFF] at hPF ⊢; clear hFF; have zF := hPF.size; have zFz : zPl.size = F.size := (by rw [zF]; exact wbz))
  | ((with_reducible refine qbz rfl _ _ _ rfl K rfl F rfl zPl hKa (wvz zF) zFz hPF.one ?_); intro VS2 hK qK; replace oG1 := oG1.above qK nKG.out; replace hR := hR.other qK (Nat.ne_of_lt nK.out.1); replace hk := qK.below _ _ nK.out.2 hk; clear hKa qK)
  | (with_reducible refine qez (by kernel_rfl) 162 _ rfl K rfl F hK _ underlying162 (by kernel_rfl) (wvz zF) ?_)
  | (go_at_call 123; (with_reducible refine (hwo _ F CF1 hPF oG1.lt).mono ?_); rintro e w5 ⟨rfl, hb7⟩; replace hR := hR.next hb7; replace hK := hK.next hb7; replace oG1 := oG1.next hb7; replace hk := btz hk hb7; clear hb7; skip)
  | ((with_reducible refine qbz rfl _ _ _ rfl R rfl F rfl zPl hR (wvz zF) zFz hPF.one ?_); intro V9 hR9 q9)
  | ((with_reducible refine qvz rfl 162 [] rfl zPl ?hf ?_); (case hf => exact gsz))
  | ((with_reducible refine qbz rfl _ _ _ rfl R rfl zPl rfl zPl hR (wvz wbz) rfl zPl_d.one ?_); intro V9 hR9 q9))
 ·exact bodyPost_ret (v := .tuple #[.agg F, .int .i64 0]) (uvz results122 hR9 underlying162 rfl (wvz zF) rfl rfl) rfl ⟨F, CF1, rfl, hPF, (oG1.other q9 nR1.out).new nw1.out, q9.below _ _ (by have := hNB.out; have := hNT.out; have := hNR.out; omega) hk⟩
 ·exact bodyPost_ret (v := .tuple #[.agg zPl, .int .i64 ek]) (uvz results122 hR9 underlying162 rfl (wvz wbz) rfl rfl) rfl (vzz HE.out (q9.below _ _ (by have := hNB.out; have := hNT.out; have := hNR.out; omega) hk))
 ·exact bodyPost_ret (v := .tuple #[.agg zPl, .int .i64 ek]) (uvz results122 hR9 underlying162 rfl (wvz wbz) rfl rfl) rfl (vzz HE.out (q9.below _ _ (by have := hNB.out; have := hNT.out; have := hNR.out; omega) hk))
 ·exact bodyPost_ret (v := .tuple #[.agg zPl, .int .i64 ek]) (uvz results122 hR9 underlying162 rfl (wvz wbz) rfl rfl) rfl (vzz HE.out (q9.below _ _ (by have := hNB.out; have := hNT.out; have := hNR.out; omega) hk))
theorem vaz {w : World} {t ke ro : Int} {ao : Option Addr} {n cap : Nat} {X : List Ob} {C : Array Value} {x : Ob} {a : Int} (h : Mw w ao n cap X C x) (ha : 0 ≤ a ∧ a ≤ 18446744073709551615) : Calls prog 122 #[.agg #[.int .i64 t, .int .u64 ke, .int .u64 ro, .slice ao n cap], .agg C, .int .u64 a] w (PlO (wkE X x a) (wkO X x a) (mpA X x a) (mpM X x a).wr w) := by
 by_cases hE : mpE X x a = 0
 ·by_cases hS : sgE X x a = 0
  ·by_cases hW : wpl (wkO X x a) (mpA X x a : Nat) = 0
   ·exact xpz h ha (.inr (.inr (.inr ⟨hE, hS, hW⟩)))
   ·exact xpz h ha (.inr (.inr (.inl ⟨hE, hS, hW⟩)))
  ·exact xpz h ha (.inr (.inl ⟨hE, hS⟩))
 ·exact xpz h ha (.inl hE)
end
end Go.Proofs.YtdeddhojjolihaaGreat
