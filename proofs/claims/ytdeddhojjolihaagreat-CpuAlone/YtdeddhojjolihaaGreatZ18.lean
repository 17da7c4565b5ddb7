/-
 PROVED HERE: what the document's Same returns when it is called (a contract over this translation); what the document's Fit. What is asked stands at each.
-/
import Derived.RangeFuncNested
import Derived.Test.YtdeddhojjolihaaGreatZ16
import Derived.Test.YtdeddhojjolihaaGreatZ17
namespace Go.Proofs.YtdeddhojjolihaaGreat
set_option maxRecDepth 100000
set_option maxHeartbeats 8000000
set_option linter.unusedVariables false
open Go.Proofs.Tryz
section
open Go.RowKit Go.Shelf
attribute [local go_sem] Oper.semAt_some
theorem rsame_w {w : World} {t ke ro t' ke' ro' : Int} {ao ao' : Option Addr} {n cap n' cap' : Nat} {X Y : List Ob} (h : Obs w ao n cap X) (h' : Obs w ao' n' cap' Y) : Asks 10 #[.agg #[.int .i64 t, .int .u64 ke, .int .u64 ro, .slice ao n cap], .agg #[.int .i64 t', .int .u64 ke', .int .u64 ro', .slice ao' n' cap']] ((⟨t, ke, ro, X⟩ : Wd) = ⟨t', ke', ro', Y⟩) w := by
 have hmx : prog.follows .mixedOrders = true := by kernel_rfl
 have hn : Hid (X.length = n) := h.1
 have hn' : Hid (Y.length = n') := h'.1
 have hnc := h.2.1
 have hcm := h.2.2.1.1
 have hnc' := h'.2.1
 have hcm' := h'.2.2.1.1
 have ga1 := isAgg22
 have ga2 := isAgg3
 have ga3 := isAgg23
 have c0 : (#[.int .i64 t, .int .u64 ke, .int .u64 ro, .slice ao n cap] : Array Value)[0]? = some (.int .i64 t) := rfl
 have c1 : (#[.int .i64 t, .int .u64 ke, .int .u64 ro, .slice ao n cap] : Array Value)[1]? = some (.int .u64 ke) := rfl
 have c2 : (#[.int .i64 t, .int .u64 ke, .int .u64 ro, .slice ao n cap] : Array Value)[2]? = some (.int .u64 ro) := rfl
 have c3 : (#[.int .i64 t, .int .u64 ke, .int .u64 ro, .slice ao n cap] : Array Value)[3]? = some (.slice ao n cap) := rfl
 have d0 : (#[.int .i64 t', .int .u64 ke', .int .u64 ro', .slice ao' n' cap'] : Array Value)[0]? = some (.int .i64 t') := rfl
 have d1 : (#[.int .i64 t', .int .u64 ke', .int .u64 ro', .slice ao' n' cap'] : Array Value)[1]? = some (.int .u64 ke') := rfl
 have d2 : (#[.int .i64 t', .int .u64 ke', .int .u64 ro', .slice ao' n' cap'] : Array Value)[2]? = some (.int .u64 ro') := rfl
 have d3 : (#[.int .i64 t', .int .u64 ke', .int .u64 ro', .slice ao' n' cap'] : Array Value)[3]? = some (.slice ao' n' cap') := rfl
 obtain ⟨G, hG⟩ : ∃ G : Array Value, G = #[.int .i64 t, .int .u64 ke, .int .u64 ro, .slice ao n cap] := ⟨_, rfl⟩
 obtain ⟨G', hG'⟩ : ∃ G' : Array Value, G' = #[.int .i64 t', .int .u64 ke', .int .u64 ro', .slice ao' n' cap'] := ⟨_, rfl⟩
 rw [← hG] at c0 c1 c2 c3
 rw [← hG'] at d0 d1 d2 d3
 rw [← hG, ← hG']
 clear hG hG'
 unfold Asks
 go_enter func10, ntmps10
 go_wp2_with (first
  | go_skip
  | (with_reducible refine qdz rfl _ _ rfl G rfl ?_; intro B W hB hb hk)
  | (with_reducible refine qdz rfl _ _ rfl G' rfl ?_; intro B' W' hB' hb' hk'; replace hb := hb.next hk'; replace hk := btz hk hk'; clear hk')
  | (with_reducible refine qaz (by kernel_rfl) _ _ rfl B _ rfl _ _ hb _ (by assumption) (by assumption) ?_)
  | (with_reducible refine qaz (by kernel_rfl) _ _ rfl B' _ rfl _ _ hb' _ (by assumption) (by assumption) ?_)
  | ((with_reducible refine qiz (by kernel_rfl) .neq _ _ _ _ rfl _ _ rfl rfl (wiz _ _ _ _ _ _) ?_ ?_) <;> intro hq))
 all_goals (try (go_ret; first
  | (have hl : ¬ t = t' := Hid.out (by assumption); refine ⟨false, rfl, ⟨fun e => absurd e Bool.false_ne_true, fun e => ?_⟩, hk⟩; exact absurd (congrArg Wd.time e) hl)
  | (have hl : ¬ ke = ke' := Hid.out (by assumption); refine ⟨false, rfl, ⟨fun e => absurd e Bool.false_ne_true, fun e => ?_⟩, hk⟩; exact absurd (congrArg Wd.key e) hl)
  | (have hl : ¬ ro = ro' := Hid.out (by assumption); refine ⟨false, rfl, ⟨fun e => absurd e Bool.false_ne_true, fun e => ?_⟩, hk⟩; exact absurd (congrArg Wd.root e) hl)
  | (have hl : ¬ (n : Int) = n' := Hid.out (by assumption); refine ⟨false, rfl, ⟨fun e => absurd e Bool.false_ne_true, fun e => ?_⟩, hk⟩; have := congrArg (fun z => z.obs.length) e; simp only [] at this; exact absurd (by rw [← hn.out, ← hn'.out, this]) hl)
  | fail))
 have et : t = t' := Classical.not_not.1 (Hid.out (by assumption))
 have ek : ke = ke' := Classical.not_not.1 (Hid.out (by assumption))
 have er : ro = ro' := Classical.not_not.1 (Hid.out (by assumption))
 have en : (n : Int) = n' := Classical.not_not.1 (Hid.out (by assumption))
 have hnn : n = n' := by omega
 subst hnn
 have hes : Hid (t = t' ∧ ke = ke' ∧ ro = ro') := ⟨et, ek, er⟩
 clear et ek er en
 clear hB hB'
 go_loopw [5] (fun i wr => ∃ k : Nat, k ≤ n ∧ i = .int .i64 k ∧ Hid (∀ j, j < k → oat X j = oat Y j) ∧ Blk wr B G 25 ∧ Blk wr B' G' 25 ∧ Below w.heap.size w wr) (fun i _ => n - (intOf i).toNat)
 case atStart => exact ⟨0, Nat.zero_le _, rfl, fun j hj => absurd hj (by omega), hb, hb', hk⟩
 case round =>
  clear hb hb' hk
  obtain ⟨k, hk, rfl, hal, hb, hb', hbw⟩ := hrel
  have hbs := hbw.size
  by_cases hkn : k < n
  ·obtain ⟨b, off, C, rfl, hbb, hC, hr⟩ := wQz (quz h hbw) hkn
   obtain ⟨b', off', C', rfl, hbb', hC', hr'⟩ := wQz (quz h' hbw) hkn
   have hkn' : (k : Int) < n := by omega
   have hz := hC.size
   have hz' := hC'.size
   go_wp2_with (first
    | (with_reducible refine qaz (by kernel_rfl) _ _ rfl B _ rfl _ _ hb _ (by assumption) (by assumption) ?_))
   refine PgM.region_out (S := fun W => Blk W B G 25 ∧ Blk W B' G' 25 ∧ W.rangeAt b (off + k * 51) C.toList ∧ W.rangeAt b' (off' + k * 51) C'.toList) hmx ⟨hb.next (Below.refl _ _).drew, hb'.next (Below.refl _ _).drew, qyz hr ((Below.refl _ wr).drew.block b hbb), qyz hr' ((Below.refl _ wr).drew.block b' hbb')⟩ (fun hS => ?_)
   have hkd := (Below.refl wr.heap.size wr).drew
   have hC0 := hC.next hkd
   have hC0' := hC'.next hkd
   have hb1 := hbw.trans (hkd.mono hbs)
   have hbb1 : b < wr.drew.heap.size := Nat.lt_of_lt_of_le hbb hkd.size
   have hbb1' : b' < wr.drew.heap.size := Nat.lt_of_lt_of_le hbb' hkd.size
   generalize wr.drew = W1 at hS hC0 hC0' hb1 hbb1 hbb1' ⊢
   clear hkd
   refine qlz (by kernel_rfl) (fun _ _ _ _ _ h => h) hS [(0, none), (1, some (.slice (some ⟨b, off, none⟩) n cap)), (2, none), (3, some (.pointer (some ⟨b, off + k * 51, none⟩))), (4, some (.agg C)), (5, none), (6, some (.slice (some ⟨b', off', none⟩) n cap')), (7, none), (8, some (.pointer (some ⟨b', off' + k * 51, none⟩))), (9, some (.agg C'))] (l' := #[tt, tt, tt, tt, tt, tt, tt, tt, tt, tt, ff, ff]) (a' := { tmps := #[.agg G, .agg G', .pointer (some ⟨B, 0, none⟩), .pointer (some ⟨B', 0, none⟩), u4, .int .i64 k, .pointer (some ⟨B, 0, none⟩), .int .i64 t, .pointer (some ⟨B', 0, none⟩), .int .i64 t', .bool false, .bool false, .pointer (some ⟨B, 1, none⟩), .int .u64 ke, .pointer (some ⟨B', 1, none⟩), .int .u64 ke', .bool false, .bool false, .bool false, .pointer (some ⟨B, 2, none⟩), .int .u64 ro, .pointer (some ⟨B', 2, none⟩), .int .u64 ro', .bool false, .bool false, .bool false, .pointer (some ⟨B, 3, none⟩), .slice (some ⟨b, off, none⟩) n cap, .int .i64 n, .pointer (some ⟨B', 3, none⟩), .slice (some ⟨b', off', none⟩) n cap', .int .i64 n, .bool false, .bool false, .int .i64 k, .pointer (some ⟨B, 3, none⟩), .slice (some ⟨b, off, none⟩) n cap, .int .i64 n, .bool true, u39, u40, .pointer (some ⟨B, 3, none⟩), .slice (some ⟨b, off, none⟩) n cap, .int .i64 k, .pointer (some ⟨b, off + k * 51, none⟩), .agg C, .pointer (some ⟨B', 3, none⟩), .slice (some ⟨b', off', none⟩) n cap', .int .i64 k, .pointer (some ⟨b', off' + k * 51, none⟩), .agg C', u51, u52], defers := [] }) (obs := [.load 23 B 3 (.slice (some ⟨b, off, none⟩) n cap), .ia 23 (.slice (some ⟨b, off, none⟩) n cap) (.int .i64 k) (.pointer (some ⟨b, off + k * 51, none⟩)), .load 50 b (off + k * 51) (.agg C), .load 23 B' 3 (.slice (some ⟨b', off', none⟩) n cap'), .ia 23 (.slice (some ⟨b', off', none⟩) n cap') (.int .i64 k) (.pointer (some ⟨b', off' + k * 51, none⟩)), .load 50 b' (off' + k * 51) (.agg C')]) (n := 2) (by kernel_rfl) (by kernel_rfl) ⟨qgz (fun _ h => h.1) c3 isAgg23, xUz hkn, wRz (fun _ h => h.2.2.1) underlying50 (by kernel_rfl) (qhz hz), qgz (fun _ h => h.2.1) d3 isAgg23, xUz hkn, wRz (fun _ h => h.2.2.2) underlying50 (by kernel_rfl) (qhz hz'), trivial⟩ ?_
   refine kmz (i := 10) (fuel := 1) (f := 13) (vs := [.agg C, .agg C']) (d := some 51) (by kernel_rfl) (by kernel_rfl) (by kernel_rfl) call13 (qJz hC0 hC0') (fun W2 hk2 => (⟨hS.1.next hk2, hS.2.1.next hk2, qyz hS.2.2.1 (hk2.block b hbb1), qyz hS.2.2.2 (hk2.block b' hbb1')⟩ : Blk W2 B G 25 ∧ Blk W2 B' G' 25 ∧ W2.rangeAt b (off + k * 51) C.toList ∧ W2.rangeAt b' (off' + k * 51) C'.toList)) ?_ ?_
   ·intro W2 hq hk2 hS2
    have hb2 := btz hb1 hk2
    refine qlz (by kernel_rfl) (fun _ _ _ _ _ h => h) hS2 [(11, none)] (l' := #[tt, tt, tt, tt, tt, tt, tt, tt, tt, tt, tt, tt]) (a' := { tmps := #[.agg G, .agg G', .pointer (some ⟨B, 0, none⟩), .pointer (some ⟨B', 0, none⟩), u4, .int .i64 k, .pointer (some ⟨B, 0, none⟩), .int .i64 t, .pointer (some ⟨B', 0, none⟩), .int .i64 t', .bool false, .bool false, .pointer (some ⟨B, 1, none⟩), .int .u64 ke, .pointer (some ⟨B', 1, none⟩), .int .u64 ke', .bool false, .bool false, .bool false, .pointer (some ⟨B, 2, none⟩), .int .u64 ro, .pointer (some ⟨B', 2, none⟩), .int .u64 ro', .bool false, .bool false, .bool false, .pointer (some ⟨B, 3, none⟩), .slice (some ⟨b, off, none⟩) n cap, .int .i64 n, .pointer (some ⟨B', 3, none⟩), .slice (some ⟨b', off', none⟩) n cap', .int .i64 n, .bool false, .bool false, .int .i64 k, .pointer (some ⟨B, 3, none⟩), .slice (some ⟨b, off, none⟩) n cap, .int .i64 n, .bool true, u39, u40, .pointer (some ⟨B, 3, none⟩), .slice (some ⟨b, off, none⟩) n cap, .int .i64 k, .pointer (some ⟨b, off + k * 51, none⟩), .agg C, .pointer (some ⟨B', 3, none⟩), .slice (some ⟨b', off', none⟩) n cap', .int .i64 k, .pointer (some ⟨b', off' + k * 51, none⟩), .agg C', .bool true, .bool false], defers := [] }) (obs := []) (n := 0) (by kernel_rfl) (by kernel_rfl) trivial ?_
    refine wpAnyH_done (by kernel_rfl) ?_ _
    have hx1 := hS2.1
    have hx2 := hS2.2.1
    clear hS hS2 hC0 hC0'
    go_wp2
    go_roundw
    case rel => exact ⟨k + 1, by omega, by go_num, wUz hal.out hq.out, hx1, hx2, hb2⟩
    case measure => simp [intOf]; omega
   ·intro W2 hq hk2 hS2
    have hb2 := btz hb1 hk2
    refine qlz (by kernel_rfl) (fun _ _ _ _ _ h => h) hS2 [(11, none)] (l' := #[tt, tt, tt, tt, tt, tt, tt, tt, tt, tt, tt, tt]) (a' := { tmps := #[.agg G, .agg G', .pointer (some ⟨B, 0, none⟩), .pointer (some ⟨B', 0, none⟩), u4, .int .i64 k, .pointer (some ⟨B, 0, none⟩), .int .i64 t, .pointer (some ⟨B', 0, none⟩), .int .i64 t', .bool false, .bool false, .pointer (some ⟨B, 1, none⟩), .int .u64 ke, .pointer (some ⟨B', 1, none⟩), .int .u64 ke', .bool false, .bool false, .bool false, .pointer (some ⟨B, 2, none⟩), .int .u64 ro, .pointer (some ⟨B', 2, none⟩), .int .u64 ro', .bool false, .bool false, .bool false, .pointer (some ⟨B, 3, none⟩), .slice (some ⟨b, off, none⟩) n cap, .int .i64 n, .pointer (some ⟨B', 3, none⟩), .slice (some ⟨b', off', none⟩) n cap', .int .i64 n, .bool false, .bool false, .int .i64 k, .pointer (some ⟨B, 3, none⟩), .slice (some ⟨b, off, none⟩) n cap, .int .i64 n, .bool true, u39, u40, .pointer (some ⟨B, 3, none⟩), .slice (some ⟨b, off, none⟩) n cap, .int .i64 k, .pointer (some ⟨b, off + k * 51, none⟩), .agg C, .pointer (some ⟨B', 3, none⟩), .slice (some ⟨b', off', none⟩) n cap', .int .i64 k, .pointer (some ⟨b', off' + k * 51, none⟩), .agg C', .bool false, .bool true], defers := [] }) (obs := []) (n := 0) (by kernel_rfl) (by kernel_rfl) trivial ?_
    refine wpAnyH_done (by kernel_rfl) ?_ _
    have hx1 := hS2.1
    have hx2 := hS2.2.1
    clear hS hS2 hC0 hC0'
    go_wp2
    go_ret
    exact qrz hq hb2 (fun e => by have := congrArg Wd.obs e; simp only [] at this; rw [this])
  ·obtain rfl : k = n := by omega
   go_wp2_with (first
    | (with_reducible refine qaz (by kernel_rfl) _ _ rfl B _ rfl _ _ hb _ (by assumption) (by assumption) ?_))
   go_ret
   exact qGz ⟨hes.out.1, hes.out.2.1, hes.out.2.2, oats_ext (by rw [hn.out, hn'.out]) fun i hi => hal.out i (by rw [hn.out] at hi; exact hi)⟩ hbw
end
section
open Go.RowKit Go.Shelf
attribute [local go_sem] Oper.semAt_some
theorem jrz {S : World → Prop} {P : Program} {ty : TypeId} {b o j : Nat} {v : Value} {C : Array Value} (hr : ∀ w, S w → w.rangeAt b o C.toList) (hv : C[j]? = some v) (hg : ∀ w, (isAgg ty).run P w = .ok false w) : Obl.holds P S (.load ty b (o + j) v) := fun w hS => by
 have hc : w.cell? ⟨b, o + j, none⟩ = some v := hr w hS j v (by simpa using hv)
 simp [loadVar, hg, hc]
theorem rfit_w {w : World} {t ke ro : Int} {ao : Option Addr} {n cap : Nat} {X : List Ob} (h : Obs w ao n cap X) : Asks 28 #[.agg #[.int .i64 t, .int .u64 ke, .int .u64 ro, .slice ao n cap]] (fitW ⟨t, ke, ro, X⟩ = true) w := by
 have hmx : prog.follows .mixedOrders = true := by kernel_rfl
 have hn : Hid (X.length = n) := h.1
 have hnc := h.2.1
 have hcm := h.2.2.1.1
 have ga1 := isAgg22
 have ga2 := isAgg3
 have ga3 := isAgg23
 have c0 : (#[.int .i64 t, .int .u64 ke, .int .u64 ro, .slice ao n cap] : Array Value)[0]? = some (.int .i64 t) := rfl
 have c3 : (#[.int .i64 t, .int .u64 ke, .int .u64 ro, .slice ao n cap] : Array Value)[3]? = some (.slice ao n cap) := rfl
 obtain ⟨G, hG⟩ : ∃ G : Array Value, G = #[.int .i64 t, .int .u64 ke, .int .u64 ro, .slice ao n cap] := ⟨_, rfl⟩
 rw [← hG] at c0 c3
 rw [← hG]
 clear hG
 unfold Asks
 go_enter func28, ntmps28
 go_wp2_with (first
  | go_skip
  | (with_reducible refine qdz rfl _ _ rfl G rfl ?_; intro B W hB hb hk)
  | (with_reducible refine qaz (by kernel_rfl) _ _ rfl B _ rfl _ _ hb _ (by assumption) (by assumption) ?_)
  | ((with_reducible refine qiz (by kernel_rfl) .lss _ _ _ _ rfl _ _ rfl rfl (wxz _ _ _ _ _ _) ?_ ?_) <;> intro hq)
  | ((with_reducible refine qiz (by kernel_rfl) .gtr _ _ _ _ rfl _ _ rfl rfl (qNz _ _ _ _ _ _) ?_ ?_) <;> intro hq))
 all_goals (try (go_ret; first
  | (have hl : t < 0 := Hid.out (by assumption); refine ⟨false, rfl, ⟨fun e => absurd e Bool.false_ne_true, fun e => ?_⟩, hk⟩; exfalso; have := (xoz.1 e).1; omega)
  | (have hl : 1099511627776 < t := Hid.out (by assumption); refine ⟨false, rfl, ⟨fun e => absurd e Bool.false_ne_true, fun e => ?_⟩, hk⟩; exfalso; have := (xoz.1 e).2.1; omega)
  | (have hl : 1024 < (n : Int) := Hid.out (by assumption); refine ⟨false, rfl, ⟨fun e => absurd e Bool.false_ne_true, fun e => ?_⟩, hk⟩; exfalso; have := (xoz.1 e).2.2.1; rw [hn.out] at this; omega)
  | fail))
 have a1 : 0 ≤ t := Hid.out (by assumption)
 have a2 : t ≤ 1099511627776 := Hid.out (by assumption)
 have a3 : (n : Int) ≤ 1024 := Hid.out (by assumption)
 have hes : Hid (0 ≤ t ∧ t ≤ 1099511627776 ∧ n ≤ 1024) := ⟨by omega, by omega, by omega⟩
 clear a1 a2 a3
 clear hB
 go_loopw [3] (fun i wr => ∃ k : Nat, k ≤ n ∧ i = .int .i64 k ∧ Hid (∀ j, j < k → qQz (oat X j) = true) ∧ Hid (∀ j, j + 1 < k → (oat X j).id < (oat X (j + 1)).id) ∧ Blk wr B G 25 ∧ Below w.heap.size w wr) (fun i _ => n - (intOf i).toNat)
 case atStart => exact ⟨0, Nat.zero_le _, rfl, fun j hj => absurd hj (by omega), fun j hj => absurd hj (by omega), hb, hk⟩
 case round =>
  clear hb hk
  obtain ⟨k, hk, rfl, hal, hri, hb, hbw⟩ := hrel
  have hbs := hbw.size
  by_cases hkn : k < n
  ·obtain ⟨j, hj0⟩ : ∃ j, Hid (j = k - 1) := ⟨_, rfl⟩
   have hjn : j < n := by have := hj0.out; omega
   obtain ⟨b, off, C, rfl, hbb, hC, hr⟩ := wQz (quz h hbw) hkn
   obtain ⟨b', off', C', e', hbb', hC', hr'⟩ := wQz (quz h hbw) hjn
   cases e'
   have hkn' : (k : Int) < n := by omega
   have hz := hC.size
   go_wp2_with (first
    | (with_reducible refine qaz (by kernel_rfl) _ _ rfl B _ rfl _ _ hb _ (by assumption) (by assumption) ?_))
   refine PgM.region_out (S := fun W => Blk W B G 25 ∧ W.rangeAt b (off + k * 51) C.toList ∧ W.rangeAt b (off + j * 51) C'.toList) hmx ⟨hb.next (Below.refl _ _).drew, qyz hr ((Below.refl _ wr).drew.block b hbb), qyz hr' ((Below.refl _ wr).drew.block b hbb)⟩ (fun hS => ?_)
   have hkd := (Below.refl wr.heap.size wr).drew
   have hC0 := hC.next hkd
   have hb1 := hbw.trans (hkd.mono hbs)
   have hbb1 : b < wr.drew.heap.size := Nat.lt_of_lt_of_le hbb hkd.size
   generalize wr.drew = W1 at hS hC0 hb1 hbb1 ⊢
   clear hkd
   refine qlz (by kernel_rfl) (fun _ _ _ _ _ h => h) hS [(0, none), (1, some (.slice (some ⟨b, off, none⟩) n cap)), (2, none), (3, some (.pointer (some ⟨b, off + k * 51, none⟩))), (4, some (.agg C))] (l' := #[tt, tt, tt, tt, tt, ff, ff, ff, ff, ff, ff, ff, ff, ff, ff, ff, ff, ff, ff, ff, ff, ff, ff, ff, ff, ff, ff]) (a' := { tmps := #[.agg G, .pointer (some ⟨B, 0, none⟩), u2, .int .i64 k, .pointer (some ⟨B, 0, none⟩), .int .i64 t, .bool false, .bool false, .pointer (some ⟨B, 0, none⟩), .int .i64 t, .bool false, .bool false, .bool false, .pointer (some ⟨B, 3, none⟩), .slice (some ⟨b, off, none⟩) n cap, .int .i64 n, .bool false, .bool false, .int .i64 k, .pointer (some ⟨B, 3, none⟩), .slice (some ⟨b, off, none⟩) n cap, .int .i64 n, .bool true, u23, u24, .pointer (some ⟨B, 3, none⟩), .slice (some ⟨b, off, none⟩) n cap, .int .i64 k, .pointer (some ⟨b, off + k * 51, none⟩), .agg C, u30, u31, u32, u33, u34, u35, u36, u37, u38, u39, u40, u41, u42, u43, u44, u45, u46, u47, u48, u49, u50, u51], defers := [] }) (obs := [.load 23 B 3 (.slice (some ⟨b, off, none⟩) n cap), .ia 23 (.slice (some ⟨b, off, none⟩) n cap) (.int .i64 k) (.pointer (some ⟨b, off + k * 51, none⟩)), .load 50 b (off + k * 51) (.agg C)]) (n := 22) (by kernel_rfl) (by kernel_rfl) ⟨qgz (fun _ h => h.1) c3 isAgg23, xUz hkn, wRz (fun _ h => h.2.1) underlying50 (by kernel_rfl) (qhz hz), trivial⟩ ?_
   refine kmz (i := 5) (fuel := 21) (f := 54) (vs := [.agg C]) (d := some 30) (by kernel_rfl) (by kernel_rfl) (by kernel_rfl) call54 (yuz hC0) (fun W2 hk2 => (⟨hS.1.next hk2, qyz hS.2.1 (hk2.block b hbb1), qyz hS.2.2 (hk2.block b hbb1)⟩ : Blk W2 B G 25 ∧ W2.rangeAt b (off + k * 51) C.toList ∧ W2.rangeAt b (off + j * 51) C'.toList)) ?_ ?_
   ·intro W2 hq hk2 hS2
    have hb2 := btz hb1 hk2
    rcases Nat.eq_zero_or_pos k with h0 | h0
    ·have hk0 : Hid (¬ (0 : Int) < k) := by show ¬ _; omega
     have hup : Hid (∀ j, j + 1 < k + 1 → (oat X j).id < (oat X (j + 1)).id) := by
      refine (?_ : ∀ j, j + 1 < k + 1 → (oat X j).id < (oat X (j + 1)).id)
      intro i hi; omega
     refine qlz (by kernel_rfl) (fun _ _ _ _ _ h => h) hS2 [(6, none), (7, none), (8, none), (9, some (.bool false)), (10, none), (11, none), (12, none), (13, none), (14, none), (15, none), (16, none), (17, none), (18, none), (19, none), (20, none), (21, none), (22, none), (23, none), (24, none), (25, none), (26, none)] (l' := #[tt, tt, tt, tt, tt, tt, tt, tt, tt, tt, tt, tt, tt, tt, tt, tt, tt, tt, tt, tt, tt, tt, tt, tt, tt, tt, tt]) (a' := { tmps := #[.agg G, .pointer (some ⟨B, 0, none⟩), u2, .int .i64 k, .pointer (some ⟨B, 0, none⟩), .int .i64 t, .bool false, .bool false, .pointer (some ⟨B, 0, none⟩), .int .i64 t, .bool false, .bool false, .bool false, .pointer (some ⟨B, 3, none⟩), .slice (some ⟨b, off, none⟩) n cap, .int .i64 n, .bool false, .bool false, .int .i64 k, .pointer (some ⟨B, 3, none⟩), .slice (some ⟨b, off, none⟩) n cap, .int .i64 n, .bool true, u23, u24, .pointer (some ⟨B, 3, none⟩), .slice (some ⟨b, off, none⟩) n cap, .int .i64 k, .pointer (some ⟨b, off + k * 51, none⟩), .agg C, .bool true, .bool false, .bool false, .int .i64 k, .bool false, .bool false, undef, undef, undef, undef, undef, undef, undef, undef, undef, undef, undef, undef, undef, undef, .bool false, .bool false], defers := [] }) (obs := [.test .gtr 3 (.tmp 33) (.const (.int .i64 0)) (.int .i64 k) (.int .i64 0) (.bool false)]) (n := 0) (by kernel_rfl) (by kernel_rfl) ⟨wKz (fun _ => qNz _ _ _ _ _ _) hk0, trivial⟩ ?_
     refine wpAnyH_done (by kernel_rfl) ?_ _
     have hx1 := hS2.1
     clear hS hS2 hC0
     go_wp2
     go_roundw
     case rel => exact ⟨k + 1, by omega, by go_num, wUz hal.out hq.out, hup, hx1, hb2⟩
     case measure => simp [intOf]; omega
    ·have hk0 : Hid ((0 : Int) < k) := by show _ < _; omega
     have hj : Hid (k = j + 1) := by have := hj0.out; show _ = _; omega
     have hw : IntKind.i64.wrap ((k : Int) - 1) = (j : Int) := by have := hj.out; rw [IntKind.wrap_i64]; omega
     by_cases hxy : (oat X j).id < (oat X k).id
     ·have hup : Hid (∀ i, i + 1 < k + 1 → (oat X i).id < (oat X (i + 1)).id) := by
       refine (?_ : ∀ i, i + 1 < k + 1 → (oat X i).id < (oat X (i + 1)).id)
       intro i hi
       rcases Nat.lt_or_ge (i + 1) k with h | h
       ·exact hri.out i h
       ·have hij : i = j := by have := hj.out; omega
        rw [hij, ← hj.out]; exact hxy
      have hd : Hid (¬ (oat X k).id ≤ (oat X j).id) := by show ¬ _; omega
      refine qlz (by kernel_rfl) (fun _ _ _ _ _ h => h) hS2 [(6, none), (7, none), (8, none), (9, some (.bool true)), (10, none), (11, none), (12, some (.slice (some ⟨b, off, none⟩) n cap)), (13, none), (14, some (.int .i64 j)), (15, some (.pointer (some ⟨b, off + j * 51, none⟩))), (16, none), (17, some (.int .u64 (oat X j).id)), (18, none), (19, some (.slice (some ⟨b, off, none⟩) n cap)), (20, none), (21, some (.pointer (some ⟨b, off + k * 51, none⟩))), (22, none), (23, some (.int .u64 (oat X k).id)), (24, some (.bool false)), (25, none), (26, none)] (l' := #[tt, tt, tt, tt, tt, tt, tt, tt, tt, tt, tt, tt, tt, tt, tt, tt, tt, tt, tt, tt, tt, tt, tt, tt, tt, tt, tt]) (a' := { tmps := #[.agg G, .pointer (some ⟨B, 0, none⟩), u2, .int .i64 k, .pointer (some ⟨B, 0, none⟩), .int .i64 t, .bool false, .bool false, .pointer (some ⟨B, 0, none⟩), .int .i64 t, .bool false, .bool false, .bool false, .pointer (some ⟨B, 3, none⟩), .slice (some ⟨b, off, none⟩) n cap, .int .i64 n, .bool false, .bool false, .int .i64 k, .pointer (some ⟨B, 3, none⟩), .slice (some ⟨b, off, none⟩) n cap, .int .i64 n, .bool true, u23, u24, .pointer (some ⟨B, 3, none⟩), .slice (some ⟨b, off, none⟩) n cap, .int .i64 k, .pointer (some ⟨b, off + k * 51, none⟩), .agg C, .bool true, .bool false, .bool false, .int .i64 k, .bool true, .bool true, .pointer (some ⟨B, 3, none⟩), .slice (some ⟨b, off, none⟩) n cap, .int .i64 k, .int .i64 j, .pointer (some ⟨b, off + j * 51, none⟩), .pointer (some ⟨b, off + j * 51 + 0, none⟩), .int .u64 (oat X j).id, .pointer (some ⟨B, 3, none⟩), .slice (some ⟨b, off, none⟩) n cap, .int .i64 k, .pointer (some ⟨b, off + k * 51, none⟩), .pointer (some ⟨b, off + k * 51 + 0, none⟩), .int .u64 (oat X k).id, .bool false, .bool false, .bool false], defers := [] }) (obs := [.test .gtr 3 (.tmp 33) (.const (.int .i64 0)) (.int .i64 k) (.int .i64 0) (.bool true), .load 23 B 3 (.slice (some ⟨b, off, none⟩) n cap), .test .sub 3 (.tmp 38) (.const (.int .i64 1)) (.int .i64 k) (.int .i64 1) (.int .i64 j), .ia 23 (.slice (some ⟨b, off, none⟩) n cap) (.int .i64 j) (.pointer (some ⟨b, off + j * 51, none⟩)), .load 22 b (off + j * 51 + 0) (.int .u64 (oat X j).id), .load 23 B 3 (.slice (some ⟨b, off, none⟩) n cap), .ia 23 (.slice (some ⟨b, off, none⟩) n cap) (.int .i64 k) (.pointer (some ⟨b, off + k * 51, none⟩)), .load 22 b (off + k * 51 + 0) (.int .u64 (oat X k).id), .test .geq 22 (.tmp 42) (.tmp 48) (.int .u64 (oat X j).id) (.int .u64 (oat X k).id) (.bool false)]) (n := 0) (by kernel_rfl) (by kernel_rfl) ⟨q0z (fun _ => qNz _ _ _ _ _ _) hk0, qgz (fun _ h => h.1) c3 isAgg23, kYz hj hw, xUz hjn, jrz (j := 0) (fun _ h => h.2.2) hC'.id isAgg22, qgz (fun _ h => h.1) c3 isAgg23, xUz hkn, jrz (j := 0) (fun _ h => h.2.1) hC.id isAgg22, wKz (fun _ => xPz _ _ _ _ _ _) hd, trivial⟩ ?_
      refine wpAnyH_done (by kernel_rfl) ?_ _
      have hx1 := hS2.1
      clear hS hS2 hC0
      go_wp2
      go_roundw
      case rel => exact ⟨k + 1, by omega, by go_num, wUz hal.out hq.out, hup, hx1, hb2⟩
      case measure => simp [intOf]; omega
     ·have hd : Hid ((oat X k).id ≤ (oat X j).id) := by show _ ≤ _; omega
      have hno : Hid (¬ idsB X = true) := by
       refine (?_ : ¬ idsB X = true)
       intro e
       have := u2z.1 e j (by rw [hn.out, ← hj.out]; exact hkn)
       rw [← hj.out] at this
       exact hxy this
      refine qlz (by kernel_rfl) (fun _ _ _ _ _ h => h) hS2 [(6, none), (7, none), (8, none), (9, some (.bool true)), (10, none), (11, none), (12, some (.slice (some ⟨b, off, none⟩) n cap)), (13, none), (14, some (.int .i64 j)), (15, some (.pointer (some ⟨b, off + j * 51, none⟩))), (16, none), (17, some (.int .u64 (oat X j).id)), (18, none), (19, some (.slice (some ⟨b, off, none⟩) n cap)), (20, none), (21, some (.pointer (some ⟨b, off + k * 51, none⟩))), (22, none), (23, some (.int .u64 (oat X k).id)), (24, some (.bool true)), (25, none), (26, none)] (l' := #[tt, tt, tt, tt, tt, tt, tt, tt, tt, tt, tt, tt, tt, tt, tt, tt, tt, tt, tt, tt, tt, tt, tt, tt, tt, tt, tt]) (a' := { tmps := #[.agg G, .pointer (some ⟨B, 0, none⟩), u2, .int .i64 k, .pointer (some ⟨B, 0, none⟩), .int .i64 t, .bool false, .bool false, .pointer (some ⟨B, 0, none⟩), .int .i64 t, .bool false, .bool false, .bool false, .pointer (some ⟨B, 3, none⟩), .slice (some ⟨b, off, none⟩) n cap, .int .i64 n, .bool false, .bool false, .int .i64 k, .pointer (some ⟨B, 3, none⟩), .slice (some ⟨b, off, none⟩) n cap, .int .i64 n, .bool true, u23, u24, .pointer (some ⟨B, 3, none⟩), .slice (some ⟨b, off, none⟩) n cap, .int .i64 k, .pointer (some ⟨b, off + k * 51, none⟩), .agg C, .bool true, .bool false, .bool false, .int .i64 k, .bool true, .bool true, .pointer (some ⟨B, 3, none⟩), .slice (some ⟨b, off, none⟩) n cap, .int .i64 k, .int .i64 j, .pointer (some ⟨b, off + j * 51, none⟩), .pointer (some ⟨b, off + j * 51 + 0, none⟩), .int .u64 (oat X j).id, .pointer (some ⟨B, 3, none⟩), .slice (some ⟨b, off, none⟩) n cap, .int .i64 k, .pointer (some ⟨b, off + k * 51, none⟩), .pointer (some ⟨b, off + k * 51 + 0, none⟩), .int .u64 (oat X k).id, .bool true, .bool true, .bool true], defers := [] }) (obs := [.test .gtr 3 (.tmp 33) (.const (.int .i64 0)) (.int .i64 k) (.int .i64 0) (.bool true), .load 23 B 3 (.slice (some ⟨b, off, none⟩) n cap), .test .sub 3 (.tmp 38) (.const (.int .i64 1)) (.int .i64 k) (.int .i64 1) (.int .i64 j), .ia 23 (.slice (some ⟨b, off, none⟩) n cap) (.int .i64 j) (.pointer (some ⟨b, off + j * 51, none⟩)), .load 22 b (off + j * 51 + 0) (.int .u64 (oat X j).id), .load 23 B 3 (.slice (some ⟨b, off, none⟩) n cap), .ia 23 (.slice (some ⟨b, off, none⟩) n cap) (.int .i64 k) (.pointer (some ⟨b, off + k * 51, none⟩)), .load 22 b (off + k * 51 + 0) (.int .u64 (oat X k).id), .test .geq 22 (.tmp 42) (.tmp 48) (.int .u64 (oat X j).id) (.int .u64 (oat X k).id) (.bool true)]) (n := 0) (by kernel_rfl) (by kernel_rfl) ⟨q0z (fun _ => qNz _ _ _ _ _ _) hk0, qgz (fun _ h => h.1) c3 isAgg23, kYz hj hw, xUz hjn, jrz (j := 0) (fun _ h => h.2.2) hC'.id isAgg22, qgz (fun _ h => h.1) c3 isAgg23, xUz hkn, jrz (j := 0) (fun _ h => h.2.1) hC.id isAgg22, q0z (fun _ => xPz _ _ _ _ _ _) hd, trivial⟩ ?_
      refine wpAnyH_done (by kernel_rfl) ?_ _
      have hx1 := hS2.1
      clear hS hS2 hC0
      go_wp2
      go_ret
      exact qrz hno hb2 (fun e => (xoz.1 e).2.2.2.1)
   ·intro W2 hq hk2 hS2
    have hb2 := btz hb1 hk2
    refine qlz (by kernel_rfl) (fun _ _ _ _ _ h => h) hS2 [(6, none), (7, none), (8, none), (9, none), (10, none), (11, none), (12, none), (13, none), (14, none), (15, none), (16, none), (17, none), (18, none), (19, none), (20, none), (21, none), (22, none), (23, none), (24, none), (25, none), (26, none)] (l' := #[tt, tt, tt, tt, tt, tt, tt, tt, tt, tt, tt, tt, tt, tt, tt, tt, tt, tt, tt, tt, tt, tt, tt, tt, tt, tt, tt]) (a' := { tmps := #[.agg G, .pointer (some ⟨B, 0, none⟩), u2, .int .i64 k, .pointer (some ⟨B, 0, none⟩), .int .i64 t, .bool false, .bool false, .pointer (some ⟨B, 0, none⟩), .int .i64 t, .bool false, .bool false, .bool false, .pointer (some ⟨B, 3, none⟩), .slice (some ⟨b, off, none⟩) n cap, .int .i64 n, .bool false, .bool false, .int .i64 k, .pointer (some ⟨B, 3, none⟩), .slice (some ⟨b, off, none⟩) n cap, .int .i64 n, .bool true, u23, u24, .pointer (some ⟨B, 3, none⟩), .slice (some ⟨b, off, none⟩) n cap, .int .i64 k, .pointer (some ⟨b, off + k * 51, none⟩), .agg C, .bool false, .bool true, .bool true, undef, undef, undef, undef, undef, undef, undef, undef, undef, undef, undef, undef, undef, undef, undef, undef, undef, undef, .bool true], defers := [] }) (obs := []) (n := 0) (by kernel_rfl) (by kernel_rfl) trivial ?_
    refine wpAnyH_done (by kernel_rfl) ?_ _
    have hx1 := hS2.1
    clear hS hS2 hC0
    go_wp2
    go_ret
    exact qrz hq hb2 (fun e => (xoz.1 e).2.2.2.2 k (by rw [hn.out]; exact hkn))
  ·obtain rfl : k = n := by omega
   go_wp2_with (first
    | (with_reducible refine qaz (by kernel_rfl) _ _ rfl B _ rfl _ _ hb _ (by assumption) (by assumption) ?_))
   go_ret
   exact qGz (xoz.2 ⟨hes.out.1, hes.out.2.1, by rw [hn.out]; exact hes.out.2.2, u2z.2 fun i hi => hri.out i (by rw [hn.out] at hi; exact hi), fun i hi => hal.out i (by rw [hn.out] at hi; exact hi)⟩) hbw
end
section
open Go.RowKit Go.Shelf
attribute [local go_sem] Oper.semAt_some
theorem Asks.val {f : FuncId} {args : Array Value} {X : Prop} {W : World} {b : Bool} (h : Asks f args X W) (hb : Hid (b = true ↔ X)) : Calls prog f args W fun e w' => e = .returned (.bool b) ∧ Below W.heap.size W w' := by
 refine h.mono ?_
 rintro e w' ⟨b', rfl, h', k⟩
 refine ⟨?_, k⟩
 have := hb.out
 have := h'.out
 cases b <;> cases b' <;> simp_all
theorem small_z : Small zOb := by
 refine ⟨?_, ?_, ?_, ?_, ?_, ?_, ?_, ?_, ?_, ?_, ?_, ?_, ?_, ?_⟩ <;> decide
end
section
def qOf (X : List Ob) (i : Int) : Int := match fnd X i with
 | some x => x.quota
 | none => 0
def kRz (X : List Ob) (o : Ob) : Int := pagN o + (o.links.map (qOf X)).sum
def holL (X : List Ob) (i : Int) : List Int := (X.filter fun d => decide (i ∈ d.links)).map Ob.id
def abvL (X : List Ob) : Nat → Int → List Int
 | 0, _ => []
 | f + 1, i => match holL X i with
  | [] => []
  | h :: _ => h :: abvL X f h
def rabv (X : List Ob) (i : Int) : List Int := if (abvL X (X.length + 1) i).length ≤ X.length then abvL X (X.length + 1) i else []
theorem sum_le {l : List Int} {f : Int → Int} {k : Int} (h : ∀ i ∈ l, 0 ≤ f i ∧ f i ≤ k) : 0 ≤ (l.map f).sum ∧ (l.map f).sum ≤ k * l.length := by
 induction l with
 | nil => simp
 | cons a r ih =>
  have h1 := h a (List.mem_cons_self ..)
  have h2 := ih fun i hi => h i (List.mem_cons_of_mem _ hi)
  rw [List.map_cons, List.sum_cons, List.length_cons]
  have e : k * ((r.length + 1 : Nat) : Int) = k * (r.length : Int) + k := by rw [Int.natCast_add, Int.mul_add]; simp
  rw [e]
  omega
end
section
open Go.RowKit Go.Shelf
attribute [local go_sem] Oper.semAt_some
theorem jCz {D : Nat → Prop} {w : World} {ao : Option Addr} {n cap : Nat} {L : List Int} (h : CtD D w ao n cap L) {i : Nat} (hi : i < n) : ∃ b off, ao = some ⟨b, off, none⟩ ∧ D b ∧ w.cell? ⟨b, off + i, none⟩ = some (.int .u64 (L.getD i 0)) := by
 obtain ⟨b, off, e, hb, hc⟩ := h.2.2.2 (by omega)
 exact ⟨b, off, e, hb, hc i hi⟩
theorem jvz {L : List Int} {i : Nat} (h : i < L.length) : L.getD i 0 ∈ L := by
 rw [List.getD_eq_getElem?_getD, List.getElem?_eq_getElem h]; exact List.getElem_mem h
section
variable {ops : Array Oper} {rest : List Oper} {op : Oper} {a : Act} {Q : Exit → Act → World → Prop} {w : World}
theorem viz (hw : Region.wanted op (yielded ops a.tmps) = true) (t d : TypeId) (x : Operand) (ho : op.op = .convert t d x) (u : Value) (hx : a.eval x = u) {r : Value} (hr : (convert t d u).run prog w = .ok r w) (h : wpList prog ops Q rest (a.put op.dst r) w) : wpList prog ops Q (op :: rest) a w := by
 refine qXz hw ?_ h
 subst hx
 unfold execOp
 simp only [ho]
 rw [Sem.run_bind, hr]
 rfl
theorem ypz (hw : Region.wanted op (yielded ops a.tmps) = true) (f : BinOp) (t : TypeId) (x y : Operand) (t' : TypeId) (ho : op.op = .binOp f t x y t') (u v : Value) (hx : a.eval x = u) (hy : a.eval y = v) {r : Value} (hr : (do eqGuard f t x y u v; binOp f t u v).run prog w = .ok r w) (h : wpList prog ops Q rest (a.put op.dst r) w) : wpList prog ops Q (op :: rest) a w := by
 refine qXz hw ?_ h
 subst hx hy
 unfold execOp
 simp only [ho]
 rw [Sem.run_bind, hr]
 rfl
end
def ObsF (E D : Nat → Prop) (w : World) (ao : Option Addr) (n cap : Nat) (X : List Ob) (Cf : Nat → Array Value) : Prop :=
 X.length = n ∧ n ≤ cap ∧ (cap ≤ 9223372036854775807 ∧ (ao = none → cap = 0)) ∧
 (0 < n → ∃ b off, ao = some ⟨b, off, none⟩ ∧ E b ∧ ∀ i, i < n → w.rangeAt b (off + i * 51) (Cf i).toList) ∧ ∀ i, i < n → ObD D w (Cf i) (oat X i)
section
variable {E E' D D' : Nat → Prop} {w w' : World} {ao : Option Addr} {n cap : Nat} {X : List Ob} {Cf : Nat → Array Value}
theorem ObsF.obs (h : ObsF E D w ao n cap X Cf) : ObsD E D w ao n cap X := by
 obtain ⟨h1, h2, h3, h4, h5⟩ := h
 refine ⟨h1, h2, h3, fun h0 => ?_⟩
 obtain ⟨b, off, e, hb, hc⟩ := h4 h0
 exact ⟨b, off, e, hb, fun i hi => ⟨Cf i, h5 i hi, hc i hi⟩⟩
theorem ObsF.laterK (h : ObsF E D w ao n cap X Cf) (k : ∀ b, D b → w'.heap[b]? = w.heap[b]?) (k' : ∀ b, E b → w'.heap[b]? = w.heap[b]?) : ObsF E D w' ao n cap X Cf := by
 obtain ⟨h1, h2, h3, h4, h5⟩ := h
 refine ⟨h1, h2, h3, fun h0 => ?_, fun i hi => (h5 i hi).laterK k⟩
 obtain ⟨b, off, e, hb, hc⟩ := h4 h0
 exact ⟨b, off, e, hb, fun i hi => qyz (hc i hi) (k' b hb)⟩
theorem ObsF.wide (h : ObsF E D w ao n cap X Cf) (k : ∀ b, D b → D' b) (k' : ∀ b, E b → E' b) : ObsF E' D' w ao n cap X Cf := by
 obtain ⟨h1, h2, h3, h4, h5⟩ := h
 refine ⟨h1, h2, h3, fun h0 => ?_, fun i hi => (h5 i hi).wide k⟩
 obtain ⟨b, off, e, hb, hc⟩ := h4 h0
 exact ⟨b, off, e, k' b hb, hc⟩
theorem ObsF.next (h : ObsF (LtN w) (LtN w) w ao n cap X Cf) (k : Below w.heap.size w w') : ObsF (LtN w') (LtN w') w' ao n cap X Cf :=
 (h.laterK (fun b hb => k.block b hb) (fun b hb => k.block b hb)).wide (fun b hb => Nat.lt_of_lt_of_le hb k.size) (fun b hb => Nat.lt_of_lt_of_le hb k.size)
end
def fC (X : List Ob) (Cf : Nat → Array Value) (i : Int) : Array Value := if (fnd X i).isSome = true then Cf (ahd X i) else zC
end
section
open Go.RowKit Go.Shelf
attribute [local go_sem] Oper.semAt_some
theorem qO_le {X : List Ob} (hq : ∀ x ∈ X, 0 ≤ x.quota ∧ x.quota ≤ 4096) (i : Int) : 0 ≤ qOf X i ∧ qOf X i ≤ 4096 := by
 unfold qOf
 cases hf : fnd X i with
 | none => exact ⟨by decide, by decide⟩
 | some x => exact hq x (List.mem_of_find?_eq_some (show X.find? _ = some x from hf))
end
section
open Go.RowKit Go.Shelf
attribute [local go_sem] Oper.semAt_some
def sngO (o : Ob) : Bool := decide (o.kind = 2) || decide (o.kind = 4)
end
section
open Go.RowKit Go.Shelf
attribute [local go_sem] Oper.semAt_some
def fO (X : List Ob) (i : Int) : Ob := (fnd X i).getD zOb
theorem xJz {X : List Ob} {i : Int} (h : (fnd X i).isSome = true) : fO X i ∈ X ∧ (fO X i).id = i := by
 obtain ⟨x, hx⟩ := Option.isSome_iff_exists.1 h
 have e : fO X i = x := by unfold fO; rw [hx]; rfl
 unfold fnd at hx
 rw [e]
 exact ⟨List.mem_of_find?_eq_some hx, by simpa using List.find?_some hx⟩
end
end Go.Proofs.YtdeddhojjolihaaGreat
