/-
 PROVED HERE: steps of a region whose order is drawn: words in a row, objects that stay (no function of the code); what the . What is asked stands at each.
-/
import Derived.Test.YtdeddhojjolihaaGreatZ18
import Derived.Test.YtdeddhojjolihaaGreatZ28
namespace Go.Proofs.YtdeddhojjolihaaGreat
set_option maxRecDepth 100000
set_option maxHeartbeats 8000000
set_option linter.unusedVariables false
open Go.Proofs.Tryz
section
open Go.RowKit Go.Shelf
attribute [local go_sem] Oper.semAt_some
theorem k8z {S : World → Prop} {b off i n cap : Nat} (hi : i < n) : Obl.holds prog S (.ia 35 (.slice (some ⟨b, off, none⟩) n cap) (.int .i64 i) (.pointer (some ⟨b, off + i, none⟩))) := fun w hS => by
 have hi' : (i : Int) < n := by omega
 go_simp
theorem xAz {S : World → Prop} {P : Program} {ty : TypeId} {b o : Nat} {v : Value} (hc : ∀ w, S w → w.cell? ⟨b, o, none⟩ = some v) (hg : ∀ w, (isAgg ty).run P w = .ok false w) : Obl.holds P S (.load ty b o v) := fun w hS => by
 simp [loadVar, hg, hc w hS]
variable {C : Array Value}
theorem ob_lt {w W W' : World} {x : Ob} (h : ObD (LtN w) W C x) (k : Below w.heap.size w W) (q : Below W.heap.size W W') : ObD (LtN w) W' C x :=
 h.laterK fun b hb => q.block b (Nat.lt_of_lt_of_le hb k.size)
theorem ob_oth {w W W' : World} {P : Nat} {x : Ob} (h : ObD (LtN w) W C x) (hP : w.heap.size ≤ P) (q : Oth P W W') : ObD (LtN w) W' C x :=
 h.laterK fun b hb => q.block b (by have : b < w.heap.size := hb; omega)
theorem kbz {w W : World} {t ke ro : Int} {ao : Option Addr} {n cap : Nat} {X : List Ob} {i : Int} (h : Obs w ao n cap X) (k : Below w.heap.size w W) : Calls prog 12 #[.agg #[.int .i64 t, .int .u64 ke, .int .u64 ro, .slice ao n cap], .int .u64 i] W fun e w' => ∃ C', e = .returned (.tuple #[.agg C', .bool (fnd X i).isSome]) ∧ ObD (LtN w) w' C' (fO X i) ∧ Below W.heap.size W w' :=
 rfind_d (D0 := LtN w) (fun _ hb => Nat.lt_of_lt_of_le hb k.size) (wJz h (fun _ hb => hb) k)
theorem laidL {w W2 w3 W4 V4 : World} {P : Nat} {x : Ob} (hk : Below w.heap.size w W2) (hb3 : Below W2.heap.size W2 w3) (oF : ObD (LtN w) w3 C x) (hN4 : Hid (w3.heap.size = P ∧ W4.heap.size = P + 1)) (hk4 : Below w3.heap.size w3 W4) (q4 : Oth P W4 V4) : Below W2.heap.size W2 V4 ∧ ObD (LtN w) V4 C x := by
 have h1 := hN4.out
 have h2 := hb3.size
 have h0 := hk.size
 refine ⟨q4.below _ _ (by omega) (hb3.trans (hk4.mono h2)), (oF.laterK fun b hb => ?_)⟩
 have h5 : b < w.heap.size := hb
 rw [q4.block b (by omega), hk4.block b (by omega)]
end
section
open Go.RowKit Go.Shelf
attribute [local go_sem] Oper.semAt_some
theorem fO_quota (X : List Ob) (i : Int) : (fO X i).quota = qOf X i := by
 unfold fO qOf
 cases fnd X i <;> rfl
theorem pagN_le {o : Ob} (h : Small o) : 0 ≤ pagN o ∧ pagN o ≤ 4294967296 := by
 have := h.c6
 unfold pagN
 omega
theorem ruse_le {X : List Ob} {o : Ob} (hq : ∀ x ∈ X, 0 ≤ x.quota ∧ x.quota ≤ 4096) (hsm : Small o) (l : List Int) (hl : l.length < 4294967296) : 0 ≤ pagN o + (l.map (qOf X)).sum ∧ pagN o + (l.map (qOf X)).sum ≤ 17596481011712 := by
 have h1 := sum_le (l := l) (f := qOf X) (k := 4096) fun i _ => qO_le hq i
 have h2 := pagN_le hsm
 omega
theorem sum_take {l : List Int} {f : Int → Int} {k : Nat} (h : k < l.length) : ((l.take (k + 1)).map f).sum = ((l.take k).map f).sum + f (l.getD k 0) := by
 rw [List.take_add_one, List.getElem?_eq_getElem h, Option.toList_some, List.map_append, List.sum_append, List.getD_eq_getElem?_getD, List.getElem?_eq_getElem h]
 simp
theorem ruses_w {w : World} {t ke ro : Int} {ao : Option Addr} {n cap : Nat} {X : List Ob} {C : Array Value} {o : Ob} (h : Obs w ao n cap X) (hq : ∀ x ∈ X, 0 ≤ x.quota ∧ x.quota ≤ 4096) (ho : ObD (LtN w) w C o) (hsm : Small o) : Calls prog 56 #[.agg #[.int .i64 t, .int .u64 ke, .int .u64 ro, .slice ao n cap], .agg C] w fun e w' => e = .returned (.int .i64 (kRz X o)) ∧ Below w.heap.size w w' := by
 have hmx : prog.follows .mixedOrders = true := by kernel_rfl
 have hz := ho.size
 obtain ⟨al, nl, cl, c5, hLk⟩ := ho.links
 have hln : Hid (o.links.length = nl) := hLk.1
 have hlc := hLk.2.1
 have hlm := hLk.2.2.1.1
 have hl32 : nl < 4294967296 := by rw [← hln.out]; exact hsm.c5
 have hzw : (prog.info? 25).map (·.size) = some (#[.int .i64 t, .int .u64 ke, .int .u64 ro, .slice ao n cap] : Array Value).size := by kernel_rfl
 have hpg := fun (W : World) (hk : Below w.heap.size w W) => yxz (ho.next hk) hsm
 have hfd := fun {W : World} {i : Int} (hk : Below w.heap.size w W) => kbz (t := t) (ke := ke) (ro := ro) (i := i) h hk
 have hul := fun k => ruse_le hq hsm (o.links.take k) (by rw [List.length_take, hln.out]; omega)
 have hst := fun k (hk : k < nl) => sum_take (f := qOf X) (show k < o.links.length by rw [hln.out]; exact hk)
 have hfin : Hid (kRz X o = pagN o + ((o.links.take nl).map (qOf X)).sum) := by show kRz X o = _; rw [← hln.out, List.take_length]; rfl
 rw [hfin.out]
 obtain ⟨G, hG⟩ : ∃ G : Array Value, G = #[.int .i64 t, .int .u64 ke, .int .u64 ro, .slice ao n cap] := ⟨_, rfl⟩
 rw [← hG] at hzw hfd
 rw [← hG]
 clear hG
 generalize pagN o = pg at hpg hul hst ⊢
 go_enter func56, ntmps56
 go_wp2_with (first
  | (with_reducible refine qdz rfl 25 _ rfl G rfl ?_; intro B2 W2 hN2 hB2 hk)
  | (with_reducible refine qdz rfl 50 _ rfl C rfl ?_; intro B3 W3 hN3 hB3 hk3; replace hB2 := hB2.next hk3; replace hk := btz hk hk3)
  | (with_reducible refine qez (by kernel_rfl) _ _ rfl B3 rfl C hB3 _ underlying50 (by kernel_rfl) (qhz hz) ?_)
  | (go_at_call 98; (with_reducible refine (hpg _ hk).mono ?_); rintro e w1 ⟨rfl, hb1⟩; replace hB2 := hB2.next hb1; replace hB3 := hB3.next hb1; replace hk := btz hk hb1))
 clear hN2 hN3 hk3
 go_loopw [5, 6] (fun v j wr => ∃ k : Nat, k ≤ nl ∧ j = .int .i64 k ∧ v = .int .i64 (pg + ((o.links.take k).map (qOf X)).sum) ∧ Blk wr B2 G 25 ∧ Blk wr B3 C 50 ∧ Below w.heap.size w wr) (fun _ j _ => nl - (intOf j).toNat)
 case atStart => exact ⟨0, Nat.zero_le _, rfl, by simp, hB2, hB3, hk⟩
 case round =>
  clear hB2 hB3 hk
  obtain ⟨k, hkn1, rfl, rfl, hB2, hB3, hk⟩ := hrel
  by_cases hkn : k < nl
  ·obtain ⟨b, off, rfl, hbb, hc⟩ := jCz hLk hkn
   have hkn' : (k : Int) < nl := by omega
   have hw5 := hul (k + 1)
   rw [hst k hkn] at hw5
   have hst1 := hst k hkn
   have hq0 := fO_quota X (o.links.getD k 0)
   generalize ((o.links.take k).map (qOf X)).sum = s0 at hst1 hw5 ⊢
   generalize o.links.getD k 0 = i at hc hst1 hq0 hw5
   go_wp2_with (first
    | (with_reducible refine qaz (by kernel_rfl) _ _ rfl B3 _ rfl _ _ hB3 _ c5 isAgg35 ?_))
   refine PgM.region_out (S := fun W => Blk W B2 G 25 ∧ Blk W B3 C 50 ∧ Below w.heap.size w W) hmx ⟨hB2.next (Below.refl _ _).drew, hB3.next (Below.refl _ _).drew, hk.trans ((Below.refl _ _).drew.mono hk.size)⟩ (fun hS => ?_)
   generalize wr.drew = v6 at hS ⊢
   clear hk hB2 hB3 
   refine qlz (by kernel_rfl) (fun _ _ _ _ _ h => h) hS [(0, some (.agg G)), (1, none), (2, some (.slice (some ⟨b, off, none⟩) nl cl)), (3, none), (4, some (.pointer (some ⟨b, off + k, none⟩))), (5, some (.int .u64 i))] (l' := #[tt, tt, tt, tt, tt, tt, ff, ff, ff, ff, ff, ff, ff]) (a' := { tmps := #[.agg G, .agg C, .pointer (some ⟨B2, 0, none⟩), .pointer (some ⟨B3, 0, none⟩), .int .i64 0, .int .i64 (pg + s0), .int .i64 k, u7, u8, .agg C, .int .i64 pg, .int .i64 k, .pointer (some ⟨B3, 5, none⟩), .slice (some ⟨b, off, none⟩) nl cl, .int .i64 nl, .bool true, u16, u17, u18, .agg G, .pointer (some ⟨B3, 5, none⟩), .slice (some ⟨b, off, none⟩) nl cl, .int .i64 k, .pointer (some ⟨b, off + k, none⟩), .int .u64 i, u25, u26, u27, u28, u29, u30, u31, undef], defers := [] }) (obs := [.load 25 B2 0 (.agg G), .load 35 B3 5 (.slice (some ⟨b, off, none⟩) nl cl), .ia 35 (.slice (some ⟨b, off, none⟩) nl cl) (.int .i64 k) (.pointer (some ⟨b, off + k, none⟩)), .load 22 b (off + k) (.int .u64 i)]) (n := 7) (by kernel_rfl) (by kernel_rfl) ⟨qTz (fun _ h => h.1) underlying25 (by kernel_rfl) hzw, qgz (fun _ h => h.2.1) c5 isAgg35, k8z hkn, xAz (fun W h => (World.cell?_of_block (w := w) (a := ⟨b, off + k, none⟩) (h.2.2.block b hbb)).trans hc) isAgg22, trivial⟩ ?_
   refine vqz 2 #[true, true, true, true, true, true, true, true, true, true, true, false, false] (fun A W => ∃ (P6 : Nat) (C6 : Array Value), A = { tmps := #[.agg G, .agg C, .pointer (some ⟨B2, 0, none⟩), .pointer (some ⟨B3, 0, none⟩), .int .i64 0, .int .i64 (pg + s0), .int .i64 k, .pointer (some ⟨P6, 0, none⟩), u8, .agg C, .int .i64 pg, .int .i64 k, .pointer (some ⟨B3, 5, none⟩), .slice (some ⟨b, off, none⟩) nl cl, .int .i64 nl, .bool true, u16, u17, .tuple #[.agg C6, .bool (fnd X i).isSome], .agg G, .pointer (some ⟨B3, 5, none⟩), .slice (some ⟨b, off, none⟩) nl cl, .int .i64 k, .pointer (some ⟨b, off + k, none⟩), .int .u64 i, .tuple #[.agg C6, .bool (fnd X i).isSome], .agg C6, .bool (fnd X i).isSome, u28, u29, u30, u31, undef], defers := [] } ∧ (Blk W B2 G 25 ∧ Blk W B3 C 50 ∧ Below w.heap.size w W) ∧ Blk W P6 zC 50 ∧ v6.heap.size ≤ P6 ∧ ObD (LtN w) W C6 (fO X i) ∧ Below v6.heap.size v6 W) ?_ (fun rest => ?_)
   ·rintro A W ⟨P6, C6, rfl, hS1, hP0, hgP, o6, kv⟩
    obtain ⟨W6, hr6, hP6, q6⟩ := wdz hP0 (qhz o6.size) (qmz.trans o6.size.symm) o6.one
    refine qjz (i := 11) (n := 1) rfl (by kernel_rfl) ?_
    refine qAz (ty := 50) (B := P6) (off := 0) (v := .agg C6) (d := none) (by kernel_rfl) hr6 ?_
    have hwP : w.heap.size ≤ P6 := Nat.le_trans hS.2.2.size hgP
    have hS6 : Blk W6 B2 G 25 ∧ Blk W6 B3 C 50 ∧ Below w.heap.size w W6 := ⟨hS1.1.other q6 (by have := hS.1.lt; omega), hS1.2.1.other q6 (by have := hS.2.1.lt; omega), q6.below _ _ hwP hS1.2.2⟩
    replace o6 := ob_oth o6 hwP q6
    refine ⟨hS6, ?_⟩
    refine qlz (by kernel_rfl) (fun _ _ _ _ _ h => h) hS6 [(12, none)] (l' := #[tt, tt, tt, tt, tt, tt, tt, tt, tt, tt, tt, tt, tt]) (a' := { tmps := #[.agg G, .agg C, .pointer (some ⟨B2, 0, none⟩), .pointer (some ⟨B3, 0, none⟩), .int .i64 0, .int .i64 (pg + s0), .int .i64 k, .pointer (some ⟨P6, 0, none⟩), .bool (fnd X i).isSome, .agg C, .int .i64 pg, .int .i64 k, .pointer (some ⟨B3, 5, none⟩), .slice (some ⟨b, off, none⟩) nl cl, .int .i64 nl, .bool true, u16, u17, .tuple #[.agg C6, .bool (fnd X i).isSome], .agg G, .pointer (some ⟨B3, 5, none⟩), .slice (some ⟨b, off, none⟩) nl cl, .int .i64 k, .pointer (some ⟨b, off + k, none⟩), .int .u64 i, .tuple #[.agg C6, .bool (fnd X i).isSome], .agg C6, .bool (fnd X i).isSome, u28, u29, u30, u31, undef], defers := [] }) (obs := []) (n := 0) (by kernel_rfl) (by kernel_rfl) trivial ?_
    refine wpAnyH_done (by kernel_rfl) ?_ _
    obtain ⟨hB2, hB3, hk⟩ := hS6
    clear hS hS1 hP0 hgP hr6 q6 kv
    have c3 := o6.quota
    rw [hq0] at c3
    have hwr : IntKind.i64.wrap (pg + s0 + qOf X i) = pg + s0 + qOf X i := by rw [IntKind.wrap_i64]; omega
    generalize qOf X i = qi at c3 hst1 hwr hw5
    clear hq0 o6
    go_wp2_with (first
     | (with_reducible refine qaz (by kernel_rfl) _ _ rfl P6 _ rfl _ _ hP6 _ c3 isAgg3 ?_))
    go_roundw
    case rel => exact ⟨k + 1, by omega, by go_num, by rw [hst1]; first | rfl | (congr 1; omega), hB2, hB3, hk⟩
    case measure => simp [intOf]; omega
   ·refine qYz (i := 6) (j := 10) (n := 6) rfl (by kernel_rfl) ?_ ?_
    ·refine qpz (f := 12) (vs := [.agg G, .int .u64 i]) (d := some 25) (by kernel_rfl) call12 (hfd hS.2.2) ?_
     rintro e z1 ⟨C6, rfl, o6, hb101⟩
     have k1 := (Below.refl v6.heap.size v6).trans (hb101.mono (Below.refl v6.heap.size v6).size)
     have hS1 : Blk z1 B2 G 25 ∧ Blk z1 B3 C 50 ∧ Below w.heap.size w z1 := ⟨hS.1.next hb101, hS.2.1.next hb101, hS.2.2.trans (hb101.mono hS.2.2.size)⟩
     refine ⟨_, rfl, hS1, ?_⟩
     refine qVz (by kernel_rfl) (fun _ _ _ _ _ h => h) hS1 [7, 8, 9] (l' := #[tt, tt, tt, tt, tt, tt, tt, tt, tt, tt, ff, ff, ff]) (a' := { tmps := #[.agg G, .agg C, .pointer (some ⟨B2, 0, none⟩), .pointer (some ⟨B3, 0, none⟩), .int .i64 0, .int .i64 (pg + s0), .int .i64 k, u7, u8, .agg C, .int .i64 pg, .int .i64 k, .pointer (some ⟨B3, 5, none⟩), .slice (some ⟨b, off, none⟩) nl cl, .int .i64 nl, .bool true, u16, u17, .tuple #[.agg C6, .bool (fnd X i).isSome], .agg G, .pointer (some ⟨B3, 5, none⟩), .slice (some ⟨b, off, none⟩) nl cl, .int .i64 k, .pointer (some ⟨b, off + k, none⟩), .int .u64 i, .tuple #[.agg C6, .bool (fnd X i).isSome], .agg C6, .bool (fnd X i).isSome, u28, u29, u30, u31, undef], defers := [] }) (n := 3) (by kernel_rfl) (by kernel_rfl) ?_
     refine qjz (i := 10) (n := 2) rfl (by kernel_rfl) ?_
     refine q7z (ty := 50) (z := zC) (d := some 7) (by kernel_rfl) qsz ?_
     intro P6 z2 hN hP6 hb102
     have hgP : v6.heap.size ≤ P6 := by have := hN.out; have := k1.size; omega
     replace o6 := ob_lt o6 hS1.2.2 hb102
     have k2 := btz k1 hb102
     have hS2 : Blk z2 B2 G 25 ∧ Blk z2 B3 C 50 ∧ Below w.heap.size w z2 := ⟨hS1.1.next hb102, hS1.2.1.next hb102, hS1.2.2.trans (hb102.mono hS1.2.2.size)⟩
     refine ⟨hS2, ?_⟩
     exact rest _ _ ⟨P6, C6, rfl, hS2, hP6, hgP, o6, k2⟩
    ·refine q7z (ty := 50) (z := zC) (d := some 7) (by kernel_rfl) qsz ?_
     intro P6 z3 hN hP6 hb103
     have hgP : v6.heap.size ≤ P6 := by have := hN.out; have := (Below.refl v6.heap.size v6).size; omega
     have k3 := (Below.refl v6.heap.size v6).trans (hb103.mono (Below.refl v6.heap.size v6).size)
     have hS3 : Blk z3 B2 G 25 ∧ Blk z3 B3 C 50 ∧ Below w.heap.size w z3 := ⟨hS.1.next hb103, hS.2.1.next hb103, hS.2.2.trans (hb103.mono hS.2.2.size)⟩
     refine ⟨hS3, ?_⟩
     refine qjz (i := 6) (n := 5) rfl (by kernel_rfl) ?_
     refine qpz (f := 12) (vs := [.agg G, .int .u64 i]) (d := some 25) (by kernel_rfl) call12 (hfd hS3.2.2) ?_
     rintro e z4 ⟨C6, rfl, o6, hb104⟩
     replace hP6 := hP6.next hb104
     have k4 := btz k3 hb104
     have hS4 : Blk z4 B2 G 25 ∧ Blk z4 B3 C 50 ∧ Below w.heap.size w z4 := ⟨hS3.1.next hb104, hS3.2.1.next hb104, hS3.2.2.trans (hb104.mono hS3.2.2.size)⟩
     refine ⟨_, rfl, hS4, ?_⟩
     refine qVz (by kernel_rfl) (fun _ _ _ _ _ h => h) hS4 [7, 8, 9] (l' := #[tt, tt, tt, tt, tt, tt, tt, tt, tt, tt, tt, ff, ff]) (a' := { tmps := #[.agg G, .agg C, .pointer (some ⟨B2, 0, none⟩), .pointer (some ⟨B3, 0, none⟩), .int .i64 0, .int .i64 (pg + s0), .int .i64 k, .pointer (some ⟨P6, 0, none⟩), u8, .agg C, .int .i64 pg, .int .i64 k, .pointer (some ⟨B3, 5, none⟩), .slice (some ⟨b, off, none⟩) nl cl, .int .i64 nl, .bool true, u16, u17, .tuple #[.agg C6, .bool (fnd X i).isSome], .agg G, .pointer (some ⟨B3, 5, none⟩), .slice (some ⟨b, off, none⟩) nl cl, .int .i64 k, .pointer (some ⟨b, off + k, none⟩), .int .u64 i, .tuple #[.agg C6, .bool (fnd X i).isSome], .agg C6, .bool (fnd X i).isSome, u28, u29, u30, u31, undef], defers := [] }) (n := 2) (by kernel_rfl) (by kernel_rfl) ?_
     exact rest _ _ ⟨P6, C6, rfl, hS4, hP6, hgP, o6, k4⟩
  ·obtain rfl : k = nl := by omega
   generalize hsF : ((o.links.take k).map (qOf X)).sum = sF
   go_wp2_with (first
    | (with_reducible refine qaz (by kernel_rfl) _ _ rfl B3 _ rfl _ _ hB3 _ c5 isAgg35 ?_))
   go_ret
   exact ⟨by rw [hsF]; rfl, hk⟩
end
end Go.Proofs.YtdeddhojjolihaaGreat
