/-
 PROVED HERE: what the document's Same returns when it is called (a contract over this translation); what the document's Fit. What is asked stands at each.
-/
import Derived.RangeFuncNested
import Derived.Deep.RegionHeld3
import Derived.Laws.EntriesVeiled
import Derived.Test.YtcmcakandbpjfaaY1
import Derived.Test.YtcmcakandbpjfaaY8
import Derived.Test.YtcmcakandbpjfaaY9
namespace Go.Proofs.Ytcmcakandbpjfaa
set_option maxRecDepth 100000
set_option maxHeartbeats 8000000
open Go.RowKit Go.Shelf
set_option linter.unusedVariables false
attribute [local go_sem] Oper.semAt_some

theorem rsame_w {w : World} {t ke ro t' ke' ro' : Int} {ao ao' : Option Addr} {n cap n' cap' : Nat} {X Y : List Ob} (h : Obs w ao n cap X) (h' : Obs w ao' n' cap' Y) : Asks 11 #[.agg #[.int .i64 t, .int .u64 ke, .int .u64 ro, .slice ao n cap], .agg #[.int .i64 t', .int .u64 ke', .int .u64 ro', .slice ao' n' cap']] ((⟨t, ke, ro, X⟩ : Wd) = ⟨t', ke', ro', Y⟩) w := by
 have hmx : Try.prog.follows .mixedOrders = true := by kernel_rfl
 have hn : Hid (X.length = n) := h.1
 have hn' : Hid (Y.length = n') := h'.1
 have hnc := h.2.1
 have hcm := h.2.2.1.1
 have hnc' := h'.2.1
 have hcm' := h'.2.2.1.1
 have ga1 := Try.isAgg22
 have ga2 := Try.isAgg3
 have ga3 := Try.isAgg23
 have c0 : (#[.int .i64 t, .int .u64 ke, .int .u64 ro, .slice ao n cap] : Array Value)[0]? = some (.int .i64 t) := rfl
 have c1 : (#[.int .i64 t, .int .u64 ke, .int .u64 ro, .slice ao n cap] : Array Value)[1]? = some (.int .u64 ke) := rfl
 have c2 : (#[.int .i64 t, .int .u64 ke, .int .u64 ro, .slice ao n cap] : Array Value)[2]? = some (.int .u64 ro) := rfl
 have c3 : (#[.int .i64 t, .int .u64 ke, .int .u64 ro, .slice ao n cap] : Array Value)[3]? = some (.slice ao n cap) := rfl
 have d0 : (#[.int .i64 t', .int .u64 ke', .int .u64 ro', .slice ao' n' cap'] : Array Value)[0]? = some (.int .i64 t') := rfl
 have d1 : (#[.int .i64 t', .int .u64 ke', .int .u64 ro', .slice ao' n' cap'] : Array Value)[1]? = some (.int .u64 ke') := rfl
 have d2 : (#[.int .i64 t', .int .u64 ke', .int .u64 ro', .slice ao' n' cap'] : Array Value)[2]? = some (.int .u64 ro') := rfl
 have d3 : (#[.int .i64 t', .int .u64 ke', .int .u64 ro', .slice ao' n' cap'] : Array Value)[3]? = some (.slice ao' n' cap') := rfl
 obtain ⟨G, hG⟩ : ∃ G : Array Value, G = #[.int .i64 t, .int .u64 ke, .int .u64 ro, .slice ao n cap] := ⟨_, rfl⟩
 obtain ⟨G', hG'⟩ : ∃ G' : Array Value, G' = #[.int .i64 t', .int .u64 ke', .int .u64 ro', .slice ao' n' cap'] := ⟨_, rfl⟩
 rw [← hG] at c0 c1 c2 c3
 rw [← hG'] at d0 d1 d2 d3
 rw [← hG, ← hG']
 clear hG hG'
 unfold Asks
 go_enter Try.func11, Try.ntmps11
 go_wp2_with (first
  | go_skip
  | (with_reducible refine wpList_box rfl _ _ rfl G rfl ?_; intro B W hB hb hk)
  | (with_reducible refine wpList_box rfl _ _ rfl G' rfl ?_; intro B' W' hB' hb' hk'; replace hb := hb.next hk'; replace hk := hk.trans (hk'.mono hk.size); clear hk')
  | (with_reducible refine wpList_load1 (by kernel_rfl) _ _ rfl B _ rfl _ _ hb _ (by assumption) (by assumption) ?_)
  | (with_reducible refine wpList_load1 (by kernel_rfl) _ _ rfl B' _ rfl _ _ hb' _ (by assumption) (by assumption) ?_)
  | ((with_reducible refine wpList_test (by kernel_rfl) .neq _ _ _ _ rfl _ _ rfl rfl (neg_int _ _ _ _ _ _) ?_ ?_) <;> intro hq))
 all_goals (try (go_ret; first
  | (have hl : ¬ t = t' := Hid.out (by assumption); refine ⟨false, rfl, ⟨fun e => absurd e Bool.false_ne_true, fun e => ?_⟩, hk⟩; exact absurd (congrArg Wd.time e) hl)
  | (have hl : ¬ ke = ke' := Hid.out (by assumption); refine ⟨false, rfl, ⟨fun e => absurd e Bool.false_ne_true, fun e => ?_⟩, hk⟩; exact absurd (congrArg Wd.key e) hl)
  | (have hl : ¬ ro = ro' := Hid.out (by assumption); refine ⟨false, rfl, ⟨fun e => absurd e Bool.false_ne_true, fun e => ?_⟩, hk⟩; exact absurd (congrArg Wd.root e) hl)
  | (have hl : ¬ (n : Int) = n' := Hid.out (by assumption); refine ⟨false, rfl, ⟨fun e => absurd e Bool.false_ne_true, fun e => ?_⟩, hk⟩; have := congrArg (fun z => z.obs.length) e; simp only [] at this; exact absurd (by rw [← hn.out, ← hn'.out, this]) hl)
  | fail))
 have et : t = t' := Classical.not_not.1 (Hid.out (by assumption))
 have ek : ke = ke' := Classical.not_not.1 (Hid.out (by assumption))
 have er : ro = ro' := Classical.not_not.1 (Hid.out (by assumption))
 have en : (n : Int) = n' := Classical.not_not.1 (Hid.out (by assumption))
 have hnn : n = n' := by omega
 subst hnn
 have hes : Hid (t = t' ∧ ke = ke' ∧ ro = ro') := ⟨et, ek, er⟩
 clear et ek er en
 clear hB hB'
 go_loopw [5] (fun i wr => ∃ k : Nat, k ≤ n ∧ i = .int .i64 k ∧ Hid (∀ j, j < k → oat X j = oat Y j) ∧ Blk wr B G 25 ∧ Blk wr B' G' 25 ∧ Below w.heap.size w wr) (fun i _ => n - (intOf i).toNat)
 case atStart => exact ⟨0, Nat.zero_le _, rfl, fun j hj => absurd hj (by omega), hb, hb', hk⟩
 case round =>
  clear hb hb' hk
  obtain ⟨k, hk, rfl, hal, hb, hb', hbw⟩ := hrel
  have hbs := hbw.size
  by_cases hkn : k < n
  ·obtain ⟨b, off, C, rfl, hbb, hC, hr⟩ := obs_at (obs_next h hbw) hkn
   obtain ⟨b', off', C', rfl, hbb', hC', hr'⟩ := obs_at (obs_next h' hbw) hkn
   have hkn' : (k : Int) < n := by omega
   have hz := hC.size
   have hz' := hC'.size
   go_wp2_with (first
    | (with_reducible refine wpList_load1 (by kernel_rfl) _ _ rfl B _ rfl _ _ hb _ (by assumption) (by assumption) ?_))
   refine PgM.region_out (S := fun W => Blk W B G 25 ∧ Blk W B' G' 25 ∧ W.rangeAt b (off + k * 51) C.toList ∧ W.rangeAt b' (off' + k * 51) C'.toList) hmx ⟨hb.next (Below.refl _ _).drew, hb'.next (Below.refl _ _).drew, range_block hr ((Below.refl _ wr).drew.block b hbb), range_block hr' ((Below.refl _ wr).drew.block b' hbb')⟩ (fun hS => ?_)
   have hkd := (Below.refl wr.heap.size wr).drew
   have hC0 := hC.next hkd
   have hC0' := hC'.next hkd
   have hb1 := hbw.trans (hkd.mono hbs)
   have hbb1 : b < wr.drew.heap.size := Nat.lt_of_lt_of_le hbb hkd.size
   have hbb1' : b' < wr.drew.heap.size := Nat.lt_of_lt_of_le hbb' hkd.size
   generalize wr.drew = W1 at hS hC0 hC0' hb1 hbb1 hbb1' ⊢
   clear hkd
   refine wpAnyH_sym (by kernel_rfl) (fun _ _ _ _ _ h => h) hS [(0, none), (1, some (.slice (some ⟨b, off, none⟩) n cap)), (2, none), (3, some (.pointer (some ⟨b, off + k * 51, none⟩))), (4, some (.agg C)), (5, none), (6, some (.slice (some ⟨b', off', none⟩) n cap')), (7, none), (8, some (.pointer (some ⟨b', off' + k * 51, none⟩))), (9, some (.agg C'))] (l' := #[true, true, true, true, true, true, true, true, true, true, false, false]) (a' := { tmps := #[.agg G, .agg G', .pointer (some ⟨B, 0, none⟩), .pointer (some ⟨B', 0, none⟩), u4, .int .i64 k, .pointer (some ⟨B, 0, none⟩), .int .i64 t, .pointer (some ⟨B', 0, none⟩), .int .i64 t', .bool false, .bool false, .pointer (some ⟨B, 1, none⟩), .int .u64 ke, .pointer (some ⟨B', 1, none⟩), .int .u64 ke', .bool false, .bool false, .bool false, .pointer (some ⟨B, 2, none⟩), .int .u64 ro, .pointer (some ⟨B', 2, none⟩), .int .u64 ro', .bool false, .bool false, .bool false, .pointer (some ⟨B, 3, none⟩), .slice (some ⟨b, off, none⟩) n cap, .int .i64 n, .pointer (some ⟨B', 3, none⟩), .slice (some ⟨b', off', none⟩) n cap', .int .i64 n, .bool false, .bool false, .int .i64 k, .pointer (some ⟨B, 3, none⟩), .slice (some ⟨b, off, none⟩) n cap, .int .i64 n, .bool true, u39, u40, .pointer (some ⟨B, 3, none⟩), .slice (some ⟨b, off, none⟩) n cap, .int .i64 k, .pointer (some ⟨b, off + k * 51, none⟩), .agg C, .pointer (some ⟨B', 3, none⟩), .slice (some ⟨b', off', none⟩) n cap', .int .i64 k, .pointer (some ⟨b', off' + k * 51, none⟩), .agg C', u51, u52], defers := [] }) (obs := [.load 23 B 3 (.slice (some ⟨b, off, none⟩) n cap), .ia 23 (.slice (some ⟨b, off, none⟩) n cap) (.int .i64 k) (.pointer (some ⟨b, off + k * 51, none⟩)), .load 54 b (off + k * 51) (.agg C), .load 23 B' 3 (.slice (some ⟨b', off', none⟩) n cap'), .ia 23 (.slice (some ⟨b', off', none⟩) n cap') (.int .i64 k) (.pointer (some ⟨b', off' + k * 51, none⟩)), .load 54 b' (off' + k * 51) (.agg C')]) (n := 2) (by kernel_rfl) (by kernel_rfl) ⟨ob_load1 (fun _ h => h.1) c3 Try.isAgg23, ia_at hkn, ob_loadm (fun _ h => h.2.2.1) Try.underlying54 (by kernel_rfl) (size40C hz), ob_load1 (fun _ h => h.2.1) d3 Try.isAgg23, ia_at hkn, ob_loadm (fun _ h => h.2.2.2) Try.underlying54 (by kernel_rfl) (size40C hz'), trivial⟩ ?_
   refine wpAnyH_askL (i := 10) (fuel := 1) (f := 19) (vs := [.agg C, .agg C']) (d := some 51) (by kernel_rfl) (by kernel_rfl) (by kernel_rfl) Try.call19 (rsameOne_any hC0 hC0') (fun W2 hk2 => (⟨hS.1.next hk2, hS.2.1.next hk2, range_block hS.2.2.1 (hk2.block b hbb1), range_block hS.2.2.2 (hk2.block b' hbb1')⟩ : Blk W2 B G 25 ∧ Blk W2 B' G' 25 ∧ W2.rangeAt b (off + k * 51) C.toList ∧ W2.rangeAt b' (off' + k * 51) C'.toList)) ?_ ?_
   ·intro W2 hq hk2 hS2
    have hb2 := hb1.trans (hk2.mono hb1.size)
    refine wpAnyH_sym (by kernel_rfl) (fun _ _ _ _ _ h => h) hS2 [(11, none)] (l' := #[true, true, true, true, true, true, true, true, true, true, true, true]) (a' := { tmps := #[.agg G, .agg G', .pointer (some ⟨B, 0, none⟩), .pointer (some ⟨B', 0, none⟩), u4, .int .i64 k, .pointer (some ⟨B, 0, none⟩), .int .i64 t, .pointer (some ⟨B', 0, none⟩), .int .i64 t', .bool false, .bool false, .pointer (some ⟨B, 1, none⟩), .int .u64 ke, .pointer (some ⟨B', 1, none⟩), .int .u64 ke', .bool false, .bool false, .bool false, .pointer (some ⟨B, 2, none⟩), .int .u64 ro, .pointer (some ⟨B', 2, none⟩), .int .u64 ro', .bool false, .bool false, .bool false, .pointer (some ⟨B, 3, none⟩), .slice (some ⟨b, off, none⟩) n cap, .int .i64 n, .pointer (some ⟨B', 3, none⟩), .slice (some ⟨b', off', none⟩) n cap', .int .i64 n, .bool false, .bool false, .int .i64 k, .pointer (some ⟨B, 3, none⟩), .slice (some ⟨b, off, none⟩) n cap, .int .i64 n, .bool true, u39, u40, .pointer (some ⟨B, 3, none⟩), .slice (some ⟨b, off, none⟩) n cap, .int .i64 k, .pointer (some ⟨b, off + k * 51, none⟩), .agg C, .pointer (some ⟨B', 3, none⟩), .slice (some ⟨b', off', none⟩) n cap', .int .i64 k, .pointer (some ⟨b', off' + k * 51, none⟩), .agg C', .bool true, .bool false], defers := [] }) (obs := []) (n := 0) (by kernel_rfl) (by kernel_rfl) trivial ?_
    refine wpAnyH_done (by kernel_rfl) ?_ _
    have hx1 := hS2.1
    have hx2 := hS2.2.1
    clear hS hS2 hC0 hC0'
    go_wp2
    go_roundw
    case rel => exact ⟨k + 1, by omega, by go_num, fn_succ hal.out hq.out, hx1, hx2, hb2⟩
    case measure => simp [intOf]; omega
   ·intro W2 hq hk2 hS2
    have hb2 := hb1.trans (hk2.mono hb1.size)
    refine wpAnyH_sym (by kernel_rfl) (fun _ _ _ _ _ h => h) hS2 [(11, none)] (l' := #[true, true, true, true, true, true, true, true, true, true, true, true]) (a' := { tmps := #[.agg G, .agg G', .pointer (some ⟨B, 0, none⟩), .pointer (some ⟨B', 0, none⟩), u4, .int .i64 k, .pointer (some ⟨B, 0, none⟩), .int .i64 t, .pointer (some ⟨B', 0, none⟩), .int .i64 t', .bool false, .bool false, .pointer (some ⟨B, 1, none⟩), .int .u64 ke, .pointer (some ⟨B', 1, none⟩), .int .u64 ke', .bool false, .bool false, .bool false, .pointer (some ⟨B, 2, none⟩), .int .u64 ro, .pointer (some ⟨B', 2, none⟩), .int .u64 ro', .bool false, .bool false, .bool false, .pointer (some ⟨B, 3, none⟩), .slice (some ⟨b, off, none⟩) n cap, .int .i64 n, .pointer (some ⟨B', 3, none⟩), .slice (some ⟨b', off', none⟩) n cap', .int .i64 n, .bool false, .bool false, .int .i64 k, .pointer (some ⟨B, 3, none⟩), .slice (some ⟨b, off, none⟩) n cap, .int .i64 n, .bool true, u39, u40, .pointer (some ⟨B, 3, none⟩), .slice (some ⟨b, off, none⟩) n cap, .int .i64 k, .pointer (some ⟨b, off + k * 51, none⟩), .agg C, .pointer (some ⟨B', 3, none⟩), .slice (some ⟨b', off', none⟩) n cap', .int .i64 k, .pointer (some ⟨b', off' + k * 51, none⟩), .agg C', .bool false, .bool true], defers := [] }) (obs := []) (n := 0) (by kernel_rfl) (by kernel_rfl) trivial ?_
    refine wpAnyH_done (by kernel_rfl) ?_ _
    have hx1 := hS2.1
    have hx2 := hS2.2.1
    clear hS hS2 hC0 hC0'
    go_wp2
    go_ret
    exact askP_no hq hb2 (fun e => by have := congrArg Wd.obs e; simp only [] at this; rw [this])
  ·obtain rfl : k = n := by omega
   go_wp2_with (first
    | (with_reducible refine wpList_load1 (by kernel_rfl) _ _ rfl B _ rfl _ _ hb _ (by assumption) (by assumption) ?_))
   go_ret
   exact askP_yes ⟨hes.out.1, hes.out.2.1, hes.out.2.2, oats_ext (by rw [hn.out, hn'.out]) fun i hi => hal.out i (by rw [hn.out] at hi; exact hi)⟩ hbw
end Go.Proofs.Ytcmcakandbpjfaa
namespace Go.Proofs.Ytcmcakandbpjfaa
set_option maxRecDepth 100000
set_option maxHeartbeats 8000000
open Go.RowKit Go.Shelf
set_option linter.unusedVariables false
attribute [local go_sem] Oper.semAt_some

theorem ob_cell {S : World → Prop} {P : Program} {ty : TypeId} {b o j : Nat} {v : Value} {C : Array Value} (hr : ∀ w, S w → w.rangeAt b o C.toList) (hv : C[j]? = some v) (hg : ∀ w, (isAgg ty).run P w = .ok false w) : Obl.holds P S (.load ty b (o + j) v) := fun w hS => by
 have hc : w.cell? ⟨b, o + j, none⟩ = some v := hr w hS j v (by simpa using hv)
 simp [loadVar, hg, hc]
theorem rfit_w {w : World} {t ke ro : Int} {ao : Option Addr} {n cap : Nat} {X : List Ob} (h : Obs w ao n cap X) : Asks 35 #[.agg #[.int .i64 t, .int .u64 ke, .int .u64 ro, .slice ao n cap]] (fitW ⟨t, ke, ro, X⟩ = true) w := by
 have hmx : Try.prog.follows .mixedOrders = true := by kernel_rfl
 have hn : Hid (X.length = n) := h.1
 have hnc := h.2.1
 have hcm := h.2.2.1.1
 have ga1 := Try.isAgg22
 have ga2 := Try.isAgg3
 have ga3 := Try.isAgg23
 have c0 : (#[.int .i64 t, .int .u64 ke, .int .u64 ro, .slice ao n cap] : Array Value)[0]? = some (.int .i64 t) := rfl
 have c3 : (#[.int .i64 t, .int .u64 ke, .int .u64 ro, .slice ao n cap] : Array Value)[3]? = some (.slice ao n cap) := rfl
 obtain ⟨G, hG⟩ : ∃ G : Array Value, G = #[.int .i64 t, .int .u64 ke, .int .u64 ro, .slice ao n cap] := ⟨_, rfl⟩
 rw [← hG] at c0 c3
 rw [← hG]
 clear hG
 unfold Asks
 go_enter Try.func35, Try.ntmps35
 go_wp2_with (first
  | go_skip
  | (with_reducible refine wpList_box rfl _ _ rfl G rfl ?_; intro B W hB hb hk)
  | (with_reducible refine wpList_load1 (by kernel_rfl) _ _ rfl B _ rfl _ _ hb _ (by assumption) (by assumption) ?_)
  | ((with_reducible refine wpList_test (by kernel_rfl) .lss _ _ _ _ rfl _ _ rfl rfl (tlt_int _ _ _ _ _ _) ?_ ?_) <;> intro hq)
  | ((with_reducible refine wpList_test (by kernel_rfl) .gtr _ _ _ _ rfl _ _ rfl rfl (tgt_int _ _ _ _ _ _) ?_ ?_) <;> intro hq))
 all_goals (try (go_ret; first
  | (have hl : t < 0 := Hid.out (by assumption); refine ⟨false, rfl, ⟨fun e => absurd e Bool.false_ne_true, fun e => ?_⟩, hk⟩; exfalso; have := (fitW_iff.1 e).1; omega)
  | (have hl : 1099511627776 < t := Hid.out (by assumption); refine ⟨false, rfl, ⟨fun e => absurd e Bool.false_ne_true, fun e => ?_⟩, hk⟩; exfalso; have := (fitW_iff.1 e).2.1; omega)
  | (have hl : 1024 < (n : Int) := Hid.out (by assumption); refine ⟨false, rfl, ⟨fun e => absurd e Bool.false_ne_true, fun e => ?_⟩, hk⟩; exfalso; have := (fitW_iff.1 e).2.2.1; rw [hn.out] at this; omega)
  | fail))
 have a1 : 0 ≤ t := Hid.out (by assumption)
 have a2 : t ≤ 1099511627776 := Hid.out (by assumption)
 have a3 : (n : Int) ≤ 1024 := Hid.out (by assumption)
 have hes : Hid (0 ≤ t ∧ t ≤ 1099511627776 ∧ n ≤ 1024) := ⟨by omega, by omega, by omega⟩
 clear a1 a2 a3
 clear hB
 go_loopw [3] (fun i wr => ∃ k : Nat, k ≤ n ∧ i = .int .i64 k ∧ Hid (∀ j, j < k → soundB (oat X j) = true) ∧ Hid (∀ j, j + 1 < k → (oat X j).id < (oat X (j + 1)).id) ∧ Blk wr B G 25 ∧ Below w.heap.size w wr) (fun i _ => n - (intOf i).toNat)
 case atStart => exact ⟨0, Nat.zero_le _, rfl, fun j hj => absurd hj (by omega), fun j hj => absurd hj (by omega), hb, hk⟩
 case round =>
  clear hb hk
  obtain ⟨k, hk, rfl, hal, hri, hb, hbw⟩ := hrel
  have hbs := hbw.size
  by_cases hkn : k < n
  ·obtain ⟨j, hj0⟩ : ∃ j, Hid (j = k - 1) := ⟨_, rfl⟩
   have hjn : j < n := by have := hj0.out; omega
   obtain ⟨b, off, C, rfl, hbb, hC, hr⟩ := obs_at (obs_next h hbw) hkn
   obtain ⟨b', off', C', e', hbb', hC', hr'⟩ := obs_at (obs_next h hbw) hjn
   cases e'
   have hkn' : (k : Int) < n := by omega
   have hz := hC.size
   go_wp2_with (first
    | (with_reducible refine wpList_load1 (by kernel_rfl) _ _ rfl B _ rfl _ _ hb _ (by assumption) (by assumption) ?_))
   refine PgM.region_out (S := fun W => Blk W B G 25 ∧ W.rangeAt b (off + k * 51) C.toList ∧ W.rangeAt b (off + j * 51) C'.toList) hmx ⟨hb.next (Below.refl _ _).drew, range_block hr ((Below.refl _ wr).drew.block b hbb), range_block hr' ((Below.refl _ wr).drew.block b hbb)⟩ (fun hS => ?_)
   have hkd := (Below.refl wr.heap.size wr).drew
   have hC0 := hC.next hkd
   have hb1 := hbw.trans (hkd.mono hbs)
   have hbb1 : b < wr.drew.heap.size := Nat.lt_of_lt_of_le hbb hkd.size
   generalize wr.drew = W1 at hS hC0 hb1 hbb1 ⊢
   clear hkd
   refine wpAnyH_sym (by kernel_rfl) (fun _ _ _ _ _ h => h) hS [(0, none), (1, some (.slice (some ⟨b, off, none⟩) n cap)), (2, none), (3, some (.pointer (some ⟨b, off + k * 51, none⟩))), (4, some (.agg C))] (l' := #[true, true, true, true, true, false, false, false, false, false, false, false, false, false, false, false, false, false, false, false, false, false, false, false, false, false, false]) (a' := { tmps := #[.agg G, .pointer (some ⟨B, 0, none⟩), u2, .int .i64 k, .pointer (some ⟨B, 0, none⟩), .int .i64 t, .bool false, .bool false, .pointer (some ⟨B, 0, none⟩), .int .i64 t, .bool false, .bool false, .bool false, .pointer (some ⟨B, 3, none⟩), .slice (some ⟨b, off, none⟩) n cap, .int .i64 n, .bool false, .bool false, .int .i64 k, .pointer (some ⟨B, 3, none⟩), .slice (some ⟨b, off, none⟩) n cap, .int .i64 n, .bool true, u23, u24, .pointer (some ⟨B, 3, none⟩), .slice (some ⟨b, off, none⟩) n cap, .int .i64 k, .pointer (some ⟨b, off + k * 51, none⟩), .agg C, u30, u31, u32, u33, u34, u35, u36, u37, u38, u39, u40, u41, u42, u43, u44, u45, u46, u47, u48, u49, u50, u51], defers := [] }) (obs := [.load 23 B 3 (.slice (some ⟨b, off, none⟩) n cap), .ia 23 (.slice (some ⟨b, off, none⟩) n cap) (.int .i64 k) (.pointer (some ⟨b, off + k * 51, none⟩)), .load 54 b (off + k * 51) (.agg C)]) (n := 22) (by kernel_rfl) (by kernel_rfl) ⟨ob_load1 (fun _ h => h.1) c3 Try.isAgg23, ia_at hkn, ob_loadm (fun _ h => h.2.1) Try.underlying54 (by kernel_rfl) (size40C hz), trivial⟩ ?_
   refine wpAnyH_askL (i := 5) (fuel := 21) (f := 56) (vs := [.agg C]) (d := some 30) (by kernel_rfl) (by kernel_rfl) (by kernel_rfl) Try.call56 (rsound_any hC0) (fun W2 hk2 => (⟨hS.1.next hk2, range_block hS.2.1 (hk2.block b hbb1), range_block hS.2.2 (hk2.block b hbb1)⟩ : Blk W2 B G 25 ∧ W2.rangeAt b (off + k * 51) C.toList ∧ W2.rangeAt b (off + j * 51) C'.toList)) ?_ ?_
   ·intro W2 hq hk2 hS2
    have hb2 := hb1.trans (hk2.mono hb1.size)
    rcases Nat.eq_zero_or_pos k with h0 | h0
    ·have hk0 : Hid (¬ (0 : Int) < k) := by show ¬ _; omega
     have hup : Hid (∀ j, j + 1 < k + 1 → (oat X j).id < (oat X (j + 1)).id) := by
      refine (?_ : ∀ j, j + 1 < k + 1 → (oat X j).id < (oat X (j + 1)).id)
      intro i hi; omega
     refine wpAnyH_sym (by kernel_rfl) (fun _ _ _ _ _ h => h) hS2 [(6, none), (7, none), (8, none), (9, some (.bool false)), (10, none), (11, none), (12, none), (13, none), (14, none), (15, none), (16, none), (17, none), (18, none), (19, none), (20, none), (21, none), (22, none), (23, none), (24, none), (25, none), (26, none)] (l' := #[true, true, true, true, true, true, true, true, true, true, true, true, true, true, true, true, true, true, true, true, true, true, true, true, true, true, true]) (a' := { tmps := #[.agg G, .pointer (some ⟨B, 0, none⟩), u2, .int .i64 k, .pointer (some ⟨B, 0, none⟩), .int .i64 t, .bool false, .bool false, .pointer (some ⟨B, 0, none⟩), .int .i64 t, .bool false, .bool false, .bool false, .pointer (some ⟨B, 3, none⟩), .slice (some ⟨b, off, none⟩) n cap, .int .i64 n, .bool false, .bool false, .int .i64 k, .pointer (some ⟨B, 3, none⟩), .slice (some ⟨b, off, none⟩) n cap, .int .i64 n, .bool true, u23, u24, .pointer (some ⟨B, 3, none⟩), .slice (some ⟨b, off, none⟩) n cap, .int .i64 k, .pointer (some ⟨b, off + k * 51, none⟩), .agg C, .bool true, .bool false, .bool false, .int .i64 k, .bool false, .bool false, undef, undef, undef, undef, undef, undef, undef, undef, undef, undef, undef, undef, undef, undef, .bool false, .bool false], defers := [] }) (obs := [.test .gtr 3 (.tmp 33) (.const (.int .i64 0)) (.int .i64 k) (.int .i64 0) (.bool false)]) (n := 0) (by kernel_rfl) (by kernel_rfl) ⟨ob_no (fun _ => tgt_int _ _ _ _ _ _) hk0, trivial⟩ ?_
     refine wpAnyH_done (by kernel_rfl) ?_ _
     have hx1 := hS2.1
     clear hS hS2 hC0
     go_wp2
     go_roundw
     case rel => exact ⟨k + 1, by omega, by go_num, fn_succ hal.out hq.out, hup, hx1, hb2⟩
     case measure => simp [intOf]; omega
    ·have hk0 : Hid ((0 : Int) < k) := by show _ < _; omega
     have hj : Hid (k = j + 1) := by have := hj0.out; show _ = _; omega
     have hw : IntKind.i64.wrap ((k : Int) - 1) = (j : Int) := by have := hj.out; rw [IntKind.wrap_i64]; omega
     by_cases hxy : (oat X j).id < (oat X k).id
     ·have hup : Hid (∀ i, i + 1 < k + 1 → (oat X i).id < (oat X (i + 1)).id) := by
       refine (?_ : ∀ i, i + 1 < k + 1 → (oat X i).id < (oat X (i + 1)).id)
       intro i hi
       rcases Nat.lt_or_ge (i + 1) k with h | h
       ·exact hri.out i h
       ·have hij : i = j := by have := hj.out; omega
        rw [hij, ← hj.out]; exact hxy
      have hd : Hid (¬ (oat X k).id ≤ (oat X j).id) := by show ¬ _; omega
      refine wpAnyH_sym (by kernel_rfl) (fun _ _ _ _ _ h => h) hS2 [(6, none), (7, none), (8, none), (9, some (.bool true)), (10, none), (11, none), (12, some (.slice (some ⟨b, off, none⟩) n cap)), (13, none), (14, some (.int .i64 j)), (15, some (.pointer (some ⟨b, off + j * 51, none⟩))), (16, none), (17, some (.int .u64 (oat X j).id)), (18, none), (19, some (.slice (some ⟨b, off, none⟩) n cap)), (20, none), (21, some (.pointer (some ⟨b, off + k * 51, none⟩))), (22, none), (23, some (.int .u64 (oat X k).id)), (24, some (.bool false)), (25, none), (26, none)] (l' := #[true, true, true, true, true, true, true, true, true, true, true, true, true, true, true, true, true, true, true, true, true, true, true, true, true, true, true]) (a' := { tmps := #[.agg G, .pointer (some ⟨B, 0, none⟩), u2, .int .i64 k, .pointer (some ⟨B, 0, none⟩), .int .i64 t, .bool false, .bool false, .pointer (some ⟨B, 0, none⟩), .int .i64 t, .bool false, .bool false, .bool false, .pointer (some ⟨B, 3, none⟩), .slice (some ⟨b, off, none⟩) n cap, .int .i64 n, .bool false, .bool false, .int .i64 k, .pointer (some ⟨B, 3, none⟩), .slice (some ⟨b, off, none⟩) n cap, .int .i64 n, .bool true, u23, u24, .pointer (some ⟨B, 3, none⟩), .slice (some ⟨b, off, none⟩) n cap, .int .i64 k, .pointer (some ⟨b, off + k * 51, none⟩), .agg C, .bool true, .bool false, .bool false, .int .i64 k, .bool true, .bool true, .pointer (some ⟨B, 3, none⟩), .slice (some ⟨b, off, none⟩) n cap, .int .i64 k, .int .i64 j, .pointer (some ⟨b, off + j * 51, none⟩), .pointer (some ⟨b, off + j * 51 + 0, none⟩), .int .u64 (oat X j).id, .pointer (some ⟨B, 3, none⟩), .slice (some ⟨b, off, none⟩) n cap, .int .i64 k, .pointer (some ⟨b, off + k * 51, none⟩), .pointer (some ⟨b, off + k * 51 + 0, none⟩), .int .u64 (oat X k).id, .bool false, .bool false, .bool false], defers := [] }) (obs := [.test .gtr 3 (.tmp 33) (.const (.int .i64 0)) (.int .i64 k) (.int .i64 0) (.bool true), .load 23 B 3 (.slice (some ⟨b, off, none⟩) n cap), .test .sub 3 (.tmp 38) (.const (.int .i64 1)) (.int .i64 k) (.int .i64 1) (.int .i64 j), .ia 23 (.slice (some ⟨b, off, none⟩) n cap) (.int .i64 j) (.pointer (some ⟨b, off + j * 51, none⟩)), .load 22 b (off + j * 51 + 0) (.int .u64 (oat X j).id), .load 23 B 3 (.slice (some ⟨b, off, none⟩) n cap), .ia 23 (.slice (some ⟨b, off, none⟩) n cap) (.int .i64 k) (.pointer (some ⟨b, off + k * 51, none⟩)), .load 22 b (off + k * 51 + 0) (.int .u64 (oat X k).id), .test .geq 22 (.tmp 42) (.tmp 48) (.int .u64 (oat X j).id) (.int .u64 (oat X k).id) (.bool false)]) (n := 0) (by kernel_rfl) (by kernel_rfl) ⟨ob_yes (fun _ => tgt_int _ _ _ _ _ _) hk0, ob_load1 (fun _ h => h.1) c3 Try.isAgg23, sub_at hj hw, ia_at hjn, ob_cell (j := 0) (fun _ h => h.2.2) hC'.id Try.isAgg22, ob_load1 (fun _ h => h.1) c3 Try.isAgg23, ia_at hkn, ob_cell (j := 0) (fun _ h => h.2.1) hC.id Try.isAgg22, ob_no (fun _ => tge_int _ _ _ _ _ _) hd, trivial⟩ ?_
      refine wpAnyH_done (by kernel_rfl) ?_ _
      have hx1 := hS2.1
      clear hS hS2 hC0
      go_wp2
      go_roundw
      case rel => exact ⟨k + 1, by omega, by go_num, fn_succ hal.out hq.out, hup, hx1, hb2⟩
      case measure => simp [intOf]; omega
     ·have hd : Hid ((oat X k).id ≤ (oat X j).id) := by show _ ≤ _; omega
      have hno : Hid (¬ idsB X = true) := by
       refine (?_ : ¬ idsB X = true)
       intro e
       have := ids_iff.1 e j (by rw [hn.out, ← hj.out]; exact hkn)
       rw [← hj.out] at this
       exact hxy this
      refine wpAnyH_sym (by kernel_rfl) (fun _ _ _ _ _ h => h) hS2 [(6, none), (7, none), (8, none), (9, some (.bool true)), (10, none), (11, none), (12, some (.slice (some ⟨b, off, none⟩) n cap)), (13, none), (14, some (.int .i64 j)), (15, some (.pointer (some ⟨b, off + j * 51, none⟩))), (16, none), (17, some (.int .u64 (oat X j).id)), (18, none), (19, some (.slice (some ⟨b, off, none⟩) n cap)), (20, none), (21, some (.pointer (some ⟨b, off + k * 51, none⟩))), (22, none), (23, some (.int .u64 (oat X k).id)), (24, some (.bool true)), (25, none), (26, none)] (l' := #[true, true, true, true, true, true, true, true, true, true, true, true, true, true, true, true, true, true, true, true, true, true, true, true, true, true, true]) (a' := { tmps := #[.agg G, .pointer (some ⟨B, 0, none⟩), u2, .int .i64 k, .pointer (some ⟨B, 0, none⟩), .int .i64 t, .bool false, .bool false, .pointer (some ⟨B, 0, none⟩), .int .i64 t, .bool false, .bool false, .bool false, .pointer (some ⟨B, 3, none⟩), .slice (some ⟨b, off, none⟩) n cap, .int .i64 n, .bool false, .bool false, .int .i64 k, .pointer (some ⟨B, 3, none⟩), .slice (some ⟨b, off, none⟩) n cap, .int .i64 n, .bool true, u23, u24, .pointer (some ⟨B, 3, none⟩), .slice (some ⟨b, off, none⟩) n cap, .int .i64 k, .pointer (some ⟨b, off + k * 51, none⟩), .agg C, .bool true, .bool false, .bool false, .int .i64 k, .bool true, .bool true, .pointer (some ⟨B, 3, none⟩), .slice (some ⟨b, off, none⟩) n cap, .int .i64 k, .int .i64 j, .pointer (some ⟨b, off + j * 51, none⟩), .pointer (some ⟨b, off + j * 51 + 0, none⟩), .int .u64 (oat X j).id, .pointer (some ⟨B, 3, none⟩), .slice (some ⟨b, off, none⟩) n cap, .int .i64 k, .pointer (some ⟨b, off + k * 51, none⟩), .pointer (some ⟨b, off + k * 51 + 0, none⟩), .int .u64 (oat X k).id, .bool true, .bool true, .bool true], defers := [] }) (obs := [.test .gtr 3 (.tmp 33) (.const (.int .i64 0)) (.int .i64 k) (.int .i64 0) (.bool true), .load 23 B 3 (.slice (some ⟨b, off, none⟩) n cap), .test .sub 3 (.tmp 38) (.const (.int .i64 1)) (.int .i64 k) (.int .i64 1) (.int .i64 j), .ia 23 (.slice (some ⟨b, off, none⟩) n cap) (.int .i64 j) (.pointer (some ⟨b, off + j * 51, none⟩)), .load 22 b (off + j * 51 + 0) (.int .u64 (oat X j).id), .load 23 B 3 (.slice (some ⟨b, off, none⟩) n cap), .ia 23 (.slice (some ⟨b, off, none⟩) n cap) (.int .i64 k) (.pointer (some ⟨b, off + k * 51, none⟩)), .load 22 b (off + k * 51 + 0) (.int .u64 (oat X k).id), .test .geq 22 (.tmp 42) (.tmp 48) (.int .u64 (oat X j).id) (.int .u64 (oat X k).id) (.bool true)]) (n := 0) (by kernel_rfl) (by kernel_rfl) ⟨ob_yes (fun _ => tgt_int _ _ _ _ _ _) hk0, ob_load1 (fun _ h => h.1) c3 Try.isAgg23, sub_at hj hw, ia_at hjn, ob_cell (j := 0) (fun _ h => h.2.2) hC'.id Try.isAgg22, ob_load1 (fun _ h => h.1) c3 Try.isAgg23, ia_at hkn, ob_cell (j := 0) (fun _ h => h.2.1) hC.id Try.isAgg22, ob_yes (fun _ => tge_int _ _ _ _ _ _) hd, trivial⟩ ?_
      refine wpAnyH_done (by kernel_rfl) ?_ _
      have hx1 := hS2.1
      clear hS hS2 hC0
      go_wp2
      go_ret
      exact askP_no hno hb2 (fun e => (fitW_iff.1 e).2.2.2.1)
   ·intro W2 hq hk2 hS2
    have hb2 := hb1.trans (hk2.mono hb1.size)
    refine wpAnyH_sym (by kernel_rfl) (fun _ _ _ _ _ h => h) hS2 [(6, none), (7, none), (8, none), (9, none), (10, none), (11, none), (12, none), (13, none), (14, none), (15, none), (16, none), (17, none), (18, none), (19, none), (20, none), (21, none), (22, none), (23, none), (24, none), (25, none), (26, none)] (l' := #[true, true, true, true, true, true, true, true, true, true, true, true, true, true, true, true, true, true, true, true, true, true, true, true, true, true, true]) (a' := { tmps := #[.agg G, .pointer (some ⟨B, 0, none⟩), u2, .int .i64 k, .pointer (some ⟨B, 0, none⟩), .int .i64 t, .bool false, .bool false, .pointer (some ⟨B, 0, none⟩), .int .i64 t, .bool false, .bool false, .bool false, .pointer (some ⟨B, 3, none⟩), .slice (some ⟨b, off, none⟩) n cap, .int .i64 n, .bool false, .bool false, .int .i64 k, .pointer (some ⟨B, 3, none⟩), .slice (some ⟨b, off, none⟩) n cap, .int .i64 n, .bool true, u23, u24, .pointer (some ⟨B, 3, none⟩), .slice (some ⟨b, off, none⟩) n cap, .int .i64 k, .pointer (some ⟨b, off + k * 51, none⟩), .agg C, .bool false, .bool true, .bool true, undef, undef, undef, undef, undef, undef, undef, undef, undef, undef, undef, undef, undef, undef, undef, undef, undef, undef, .bool true], defers := [] }) (obs := []) (n := 0) (by kernel_rfl) (by kernel_rfl) trivial ?_
    refine wpAnyH_done (by kernel_rfl) ?_ _
    have hx1 := hS2.1
    clear hS hS2 hC0
    go_wp2
    go_ret
    exact askP_no hq hb2 (fun e => (fitW_iff.1 e).2.2.2.2 k (by rw [hn.out]; exact hkn))
  ·obtain rfl : k = n := by omega
   go_wp2_with (first
    | (with_reducible refine wpList_load1 (by kernel_rfl) _ _ rfl B _ rfl _ _ hb _ (by assumption) (by assumption) ?_))
   go_ret
   exact askP_yes (fitW_iff.2 ⟨hes.out.1, hes.out.2.1, by rw [hn.out]; exact hes.out.2.2, ids_iff.2 fun i hi => hri.out i (by rw [hn.out] at hi; exact hi), fun i hi => hal.out i (by rw [hn.out] at hi; exact hi)⟩) hbw
end Go.Proofs.Ytcmcakandbpjfaa
namespace Go.Proofs.Ytcmcakandbpjfaa
set_option maxRecDepth 100000
set_option maxHeartbeats 8000000
open Go.RowKit Go.Shelf
set_option linter.unusedVariables false
attribute [local go_sem] Oper.semAt_some

def stp (o : Ob) (s : List Ob × Bool) (x : Ob) : List Ob × Bool :=
 if s.2 = false ∧ o.id ≤ x.id then (if x.id ≠ o.id then (s.1 ++ [o] ++ [x], true) else (s.1 ++ [o], true)) else (if x.id ≠ o.id then (s.1 ++ [x], s.2) else s)
def stps (o : Ob) (l : List Ob) : List Ob × Bool := l.foldl (stp o) ([], false)
theorem stps_succ {o : Ob} {X : List Ob} {k : Nat} (hk : k < X.length) : stps o (X.take (k + 1)) = stp o (stps o (X.take k)) (oat X k) := by
 unfold stps
 rw [List.take_add_one, List.getElem?_eq_getElem hk, oat_get hk, Option.toList_some, List.foldl_append]
 rfl
theorem stps_len (o : Ob) : ∀ (l : List Ob) (s : List Ob × Bool), (l.foldl (stp o) s).1.length ≤ s.1.length + 2 * l.length
 | [], s => by simp
 | x :: l, s => by
  rw [List.foldl_cons]
  have h := stps_len o l (stp o s x)
  have h2 : (stp o s x).1.length ≤ s.1.length + 2 := by unfold stp; split <;> split <;> simp
  rw [List.length_cons]; omega
theorem stp_up (o : Ob) : ∀ (l : List Ob) (a : List Ob), (∀ x ∈ l, o.id < x.id) → l.foldl (stp o) (a, true) = (a ++ l, true)
 | [], a, _ => by simp
 | x :: l, a, h => by
  have hx := h x (List.mem_cons_self ..)
  rw [List.foldl_cons, show stp o (a, true) x = (a ++ [x], true) by unfold stp; rw [if_neg (by simp), if_pos (by omega)], stp_up o l _ fun y hy => h y (List.mem_cons_of_mem _ hy)]
  simp
def rpu (s : List Ob × Bool) (o : Ob) : List Ob := if s.2 = true then s.1 else s.1 ++ [o]
theorem rpu_go (o : Ob) : ∀ (l : List Ob) (a : List Ob), Srt l → rpu (l.foldl (stp o) (a, false)) o = a ++ puR l o
 | [], a, _ => by simp [rpu, puR, lowL, higL]
 | x :: l, a, h => by
  obtain ⟨h1, h2⟩ := List.pairwise_cons.1 h
  rw [List.foldl_cons]
  by_cases q : o.id ≤ x.id
  ·have hl : ∀ y ∈ l, o.id < y.id := fun y hy => by have := h1 y hy; omega
   have e1 : lowL (x :: l) o.id = [] := by
    unfold lowL; rw [List.filter_eq_nil_iff]; intro y hy
    rcases List.mem_cons.1 hy with r | r
    ·rw [r]; simp; omega
    ·have := hl y r; simp; omega
   have e2 : higL l o.id = l := by
    unfold higL; rw [List.filter_eq_self]; intro y hy; have := hl y hy; simpa using this
   by_cases r : x.id = o.id
   ·rw [show stp o (a, false) x = (a ++ [o], true) by unfold stp; rw [if_pos ⟨rfl, q⟩, if_neg (by simp [r])], stp_up o l _ hl]
    have e3 : higL (x :: l) o.id = l := by unfold higL at e2 ⊢; rw [List.filter_cons_of_neg (by simp; omega), e2]
    unfold puR rpu; rw [e1, e3]; simp
   ·rw [show stp o (a, false) x = (a ++ [o] ++ [x], true) by unfold stp; rw [if_pos ⟨rfl, q⟩, if_pos r], stp_up o l _ hl]
    have e3 : higL (x :: l) o.id = x :: l := by unfold higL at e2 ⊢; rw [List.filter_cons_of_pos (by simp; omega), e2]
    unfold puR rpu; rw [e1, e3]; simp
  ·rw [show stp o (a, false) x = (a ++ [x], false) by unfold stp; rw [if_neg (by simp; omega), if_pos (by omega)], rpu_go o l _ h2]
   have e1 : lowL (x :: l) o.id = x :: lowL l o.id := by unfold lowL; rw [List.filter_cons_of_pos (by simp; omega)]
   have e2 : higL (x :: l) o.id = higL l o.id := by unfold higL; rw [List.filter_cons_of_neg (by simp; omega)]
   unfold puR; rw [e1, e2]; simp
theorem rpu_eq {X : List Ob} (h : Srt X) (o : Ob) : rpu (stps o X) o = puR X o := by
 have := rpu_go o X [] h
 simpa [stps] using this
theorem rput_d {D0 : Nat → Prop} {w : World} {t ke ro : Int} {ao : Option Addr} {n cap : Nat} {X : List Ob} {C : Array Value} {x : Ob} (hD : ∀ b, D0 b → b < w.heap.size) (h : ObsD (LtN w) D0 w ao n cap X) (hs : Srt X) (hn16 : n < 1024) (hx : ObD D0 w C x) : Calls Try.prog 28 #[.agg #[.int .i64 t, .int .u64 ke, .int .u64 ro, .slice ao n cap], .agg C] w fun e w' => ∃ ao2 n2 cap2, e = .returned (.agg #[.int .i64 t, .int .u64 ke, .int .u64 ro, .slice ao2 n2 cap2]) ∧ ObsD (New w w') D0 w' ao2 n2 cap2 (puR X x) ∧ Below w.heap.size w w' := by
 have hmx : Try.prog.follows .mixedOrders = true := by kernel_rfl
 have hn : Hid (X.length = n) := h.1
 have hnc := h.2.1
 have hcm := h.2.2.1.1
 have ga1 := Try.isAgg22
 have ga3 := Try.isAgg23
 have d0 := hx.id
 have hz := hx.size
 have hrp : Hid (rpu (stps x X) x = puR X x) := rpu_eq hs x
 have hln : Hid ((puR X x).length ≤ n + 1) := by have := puR_len X x; rw [hn.out] at this; exact this
 clear hs
 have c3 : (#[.int .i64 t, .int .u64 ke, .int .u64 ro, .slice ao n cap] : Array Value)[3]? = some (.slice ao n cap) := rfl
 have hz2 : ∀ v, (Try.prog.info? 25).map (·.size) = some (#[.int .i64 t, .int .u64 ke, .int .u64 ro, v] : Array Value).size := fun _ => size43
 have hs2 : ∀ v, zW.size = (#[.int .i64 t, .int .u64 ke, .int .u64 ro, v] : Array Value).size := fun _ => rfl
 have h12 : ∀ ao n cap, (#[.int .i64 t, .int .u64 ke, .int .u64 ro, .slice ao n cap] : Array Value).all (·.oneCell') = true := fun _ _ _ => by kernel_rfl
 have cS : ∀ v, (#[.int .i64 t, .int .u64 ke, .int .u64 ro, .slice ao n cap] : Array Value).setIfInBounds 3 v = #[.int .i64 t, .int .u64 ke, .int .u64 ro, v] := fun v => rfl
 have hzG4 : (#[.int .i64 t, .int .u64 ke, .int .u64 ro, .slice ao n cap] : Array Value).size = 4 := rfl
 obtain ⟨G, hG⟩ : ∃ G : Array Value, G = #[.int .i64 t, .int .u64 ke, .int .u64 ro, .slice ao n cap] := ⟨_, rfl⟩
 rw [← hG] at c3 cS hzG4
 rw [← hG]
 clear hG
 go_enter Try.func28, Try.ntmps28
 go_wp2_with (first
  | (with_reducible refine wpList_box rfl _ _ rfl G rfl ?_; intro B W hB hb hk)
  | (with_reducible refine wpList_box rfl _ _ rfl C rfl ?_; intro B2 W2 hB2 hb2 hk2; replace hb := hb.next hk2; replace hk := hk.trans (hk2.mono hk.size))
  | ((with_reducible refine wpList_alloc rfl _ rfl zW zero43 ?_); intro R W0 hB1 hRA hk1; have hbA := hb.next hk1; have hb2A := hb2.next hk1; replace hk := hk.trans (hk1.mono hk.size)))
 have hne : B ≠ R := by have := hB.out; have := hB1.out; have := hB2.out; omega
 have hRl : Hid (w.heap.size ≤ R ∧ w.heap.size ≤ B) := by have := hB.out; have := hB1.out; have := hB2.out; refine (⟨?_, ?_⟩ : _ ∧ _) <;> omega
 have hBR0 : Hid (B < W0.heap.size ∧ R < W0.heap.size) := ⟨hbA.lt, hRA.lt⟩
 clear hB hB1 hB2 hk1 hk2 hb hb2
 go_loopw [5, 6, 7] (fun v vd j wr => ∃ (k : Nat) (cs : List Value) (A : List Ob) (d : Bool), k ≤ n ∧ j = .int .i64 k ∧ vd = .bool d ∧ Hid (stps x (X.take k) = (A, d)) ∧ wr.ownsRow W0.heap.size 54 51 v A.length cs ∧ RowO D0 wr A cs ∧ Below W0.heap.size W0 wr) (fun _ _ j _ => n - (intOf j).toNat)
 case atStart => exact ⟨0, [], [], false, Nat.zero_le _, rfl, rfl, rfl, World.ownsRow_nil _ _ _ _, rfl, Below.refl _ _⟩
 case round =>
  obtain ⟨k, cs, A, d, hkn1, rfl, rfl, hA, hown, hro, hb0⟩ := hrel
  have hbw := hk.trans (hb0.mono hk.size)
  have hb := hbA.next hb0
  have hb2 := hb2A.next hb0
  have hR := hRA.next hb0
  have hAl : A.length ≤ 2 * k := by have := stps_len x (X.take k) ([], false); rw [show (X.take k).foldl (stp x) ([], false) = stps x (X.take k) from rfl, hA.out] at this; simp at this; omega
  by_cases hkn : k < n
  ·obtain ⟨b, off, C', rfl, hbw0, hC', hrw⟩ := obs_atD h hkn
   have hkX : k < X.length := by rw [hn.out]; exact hkn
   have hr := range_block hrw (hbw.block b hbw0)
   have hbb : b < wr.heap.size := Nat.lt_of_lt_of_le hbw0 hbw.size
   replace hC' := hC'.laterK (w' := wr) fun b hb => hbw.block b (hD b hb)
   have hkn' : (k : Int) < n := by omega
   have hz' := hC'.size
   by_cases hne1 : (oat X k).id = x.id
   ·have hne : Hid (¬ ¬ (oat X k).id = x.id) := fun q => q hne1
    have hge1 : x.id ≤ (oat X k).id := by omega
    have hge : Hid (x.id ≤ (oat X k).id) := hge1
    clear hne1
    cases d with
    | true =>
     go_wp2_with (first
      | (with_reducible refine wpList_load1 (by kernel_rfl) _ _ rfl B _ rfl _ _ hb _ c3 ga3 ?_))
     refine PgM.region_out (S := fun W => Blk W B G 25 ∧ Blk W B2 C 54 ∧ W.rangeAt b (off + k * 51) C'.toList) hmx ⟨hb.next (Below.refl _ _).drew, hb2.next (Below.refl _ _).drew, range_block hr ((Below.refl _ wr).drew.block b hbb)⟩ (fun hS => ?_)
     have hkd := (Below.refl wr.heap.size wr).drew
     replace hown := own_next hown hkd
     replace hb0 := hb0.trans (hkd.mono hb0.size)
     replace hbb := Nat.lt_of_lt_of_le hbb hkd.size
     generalize wr.drew = W1 at hS hown hb0 hbb ⊢
     clear hkd hb hb2 hr
     refine wpAnyH_sym (by kernel_rfl) (fun _ _ _ _ _ h => h) hS [(0, none), (1, none), (2, none), (3, none), (4, none), (5, none), (6, none), (7, none), (8, none), (9, none), (10, none), (11, none), (12, none)] (l' := #[true, true, true, true, true, true, true, true, true, true, true, true, true]) (a' := { tmps := #[.agg G, .agg C, .pointer (some ⟨B, 0, none⟩), .pointer (some ⟨B2, 0, none⟩), .pointer (some ⟨R, 0, none⟩), u5, .bool true, .int .i64 k, .int .i64 k, .pointer (some ⟨B, 3, none⟩), .slice (some ⟨b, off, none⟩) n cap, .int .i64 n, .bool true, u13, u14, .bool true, .bool false, .bool false, undef, undef, undef, undef, undef, undef, undef, undef, undef, .bool false, u28, u29, u30, u31, u32, u33, u34, u35, u36, u37, u38, u39, u40, u41, u42, u43, u44, u45, u46, u47, u48, undef, undef, undef, undef, undef, undef, undef, undef, undef, undef, undef, undef, undef], defers := [] }) (obs := []) (n := 0) (by kernel_rfl) (by kernel_rfl) trivial ?_
     refine wpAnyH_done (by kernel_rfl) ?_ _
     obtain ⟨hb, hb2, hr⟩ := hS
     go_wp2
     refine PgM.region_out (S := fun W => Blk W B G 25 ∧ Blk W B2 C 54 ∧ W.rangeAt b (off + k * 51) C'.toList) hmx ⟨hb.next (Below.refl _ _).drew, hb2.next (Below.refl _ _).drew, range_block hr ((Below.refl _ W1).drew.block b hbb)⟩ (fun hS => ?_)
     have hkd := (Below.refl W1.heap.size W1).drew
     replace hown := own_next hown hkd
     replace hb0 := hb0.trans (hkd.mono hb0.size)
     replace hbb := Nat.lt_of_lt_of_le hbb hkd.size
     generalize W1.drew = W4 at hS hown hb0 hbb ⊢
     clear hkd hb hb2 hr
     refine wpAnyH_sym (by kernel_rfl) (fun _ _ _ _ _ h => h) hS [(0, none), (1, some (.slice (some ⟨b, off, none⟩) n cap)), (2, none), (3, some (.pointer (some ⟨b, off + k * 51, none⟩))), (4, none), (5, some (.int .u64 (oat X k).id)), (6, none), (7, some (.int .u64 x.id)), (8, some (.bool false))] (l' := #[true, true, true, true, true, true, true, true, true]) (a' := { tmps := #[.agg G, .agg C, .pointer (some ⟨B, 0, none⟩), .pointer (some ⟨B2, 0, none⟩), .pointer (some ⟨R, 0, none⟩), u5, .bool true, .int .i64 k, .int .i64 k, .pointer (some ⟨B, 3, none⟩), .slice (some ⟨b, off, none⟩) n cap, .int .i64 n, .bool true, u13, u14, .bool true, .bool false, .bool false, undef, undef, undef, undef, undef, undef, undef, undef, undef, .bool false, u28, u29, u30, u31, .pointer (some ⟨B, 3, none⟩), .slice (some ⟨b, off, none⟩) n cap, .int .i64 k, .pointer (some ⟨b, off + k * 51, none⟩), .pointer (some ⟨b, off + k * 51 + 0, none⟩), .int .u64 (oat X k).id, .pointer (some ⟨B2, 0, none⟩), .int .u64 x.id, .bool false, u41, u42, u43, u44, u45, u46, u47, u48, undef, undef, undef, undef, undef, undef, undef, undef, undef, undef, undef, undef, undef], defers := [] }) (obs := [.load 23 B 3 (.slice (some ⟨b, off, none⟩) n cap), .ia 23 (.slice (some ⟨b, off, none⟩) n cap) (.int .i64 k) (.pointer (some ⟨b, off + k * 51, none⟩)), .load 22 b (off + k * 51 + 0) (.int .u64 (oat X k).id), .load 22 B2 0 (.int .u64 x.id), .test .neq 22 (.tmp 37) (.tmp 39) (.int .u64 (oat X k).id) (.int .u64 x.id) (.bool false)]) (n := 0) (by kernel_rfl) (by kernel_rfl) ⟨ob_load1 (fun _ h => h.1) c3 Try.isAgg23, ia_at hkn, ob_cell (j := 0) (fun _ h => h.2.2) hC'.id Try.isAgg22, ob_load1 (fun _ h => h.2.1) d0 Try.isAgg22, ob_no (fun _ => neg_int _ _ _ _ _ _) hne, trivial⟩ ?_
     refine wpAnyH_done (by kernel_rfl) ?_ _
     obtain ⟨hb, hb2, hr⟩ := hS
     go_wp2
     go_roundw
     case rel =>
      have hne1 := Classical.not_not.1 hne.out
      have hst : stps x (X.take (k + 1)) = (A, true) := by rw [stps_succ hkX, hA.out]; unfold stp; simp [hne1]
      have hbw2 := hk.trans (hb0.mono hk.size)
      refine ⟨k + 1, cs, A, true, by omega, by go_num, rfl, hst, ?_, ?_, hb0⟩
      ·simpa [List.length_append] using hown
      ·exact (hro.laterK fun b hb => (hbw2.block b (hD b hb)).trans (hbw.block b (hD b hb)).symm)
     case measure => simp [intOf]; omega
    | false =>
     go_wp2_with (first
      | (with_reducible refine wpList_load1 (by kernel_rfl) _ _ rfl B _ rfl _ _ hb _ c3 ga3 ?_))
     refine PgM.region_out (S := fun W => Blk W B G 25 ∧ Blk W B2 C 54 ∧ W.rangeAt b (off + k * 51) C'.toList) hmx ⟨hb.next (Below.refl _ _).drew, hb2.next (Below.refl _ _).drew, range_block hr ((Below.refl _ wr).drew.block b hbb)⟩ (fun hS => ?_)
     have hkd := (Below.refl wr.heap.size wr).drew
     replace hown := own_next hown hkd
     replace hb0 := hb0.trans (hkd.mono hb0.size)
     replace hbb := Nat.lt_of_lt_of_le hbb hkd.size
     generalize wr.drew = W1 at hS hown hb0 hbb ⊢
     clear hkd hb hb2 hr
     refine wpAnyH_sym (by kernel_rfl) (fun _ _ _ _ _ h => h) hS [(0, none), (1, none), (2, none), (3, none), (4, some (.slice (some ⟨b, off, none⟩) n cap)), (5, none), (6, some (.pointer (some ⟨b, off + k * 51, none⟩))), (7, none), (8, some (.int .u64 (oat X k).id)), (9, none), (10, some (.int .u64 x.id)), (11, some (.bool true)), (12, none)] (l' := #[true, true, true, true, true, true, true, true, true, true, true, true, true]) (a' := { tmps := #[.agg G, .agg C, .pointer (some ⟨B, 0, none⟩), .pointer (some ⟨B2, 0, none⟩), .pointer (some ⟨R, 0, none⟩), u5, .bool false, .int .i64 k, .int .i64 k, .pointer (some ⟨B, 3, none⟩), .slice (some ⟨b, off, none⟩) n cap, .int .i64 n, .bool true, u13, u14, .bool false, .bool true, .bool true, .pointer (some ⟨B, 3, none⟩), .slice (some ⟨b, off, none⟩) n cap, .int .i64 k, .pointer (some ⟨b, off + k * 51, none⟩), .pointer (some ⟨b, off + k * 51 + 0, none⟩), .int .u64 (oat X k).id, .pointer (some ⟨B2, 0, none⟩), .int .u64 x.id, .bool true, .bool true, u28, u29, u30, u31, u32, u33, u34, u35, u36, u37, u38, u39, u40, u41, u42, u43, u44, u45, u46, u47, u48, undef, undef, undef, undef, undef, undef, undef, undef, undef, undef, undef, undef, undef], defers := [] }) (obs := [.load 23 B 3 (.slice (some ⟨b, off, none⟩) n cap), .ia 23 (.slice (some ⟨b, off, none⟩) n cap) (.int .i64 k) (.pointer (some ⟨b, off + k * 51, none⟩)), .load 22 b (off + k * 51 + 0) (.int .u64 (oat X k).id), .load 22 B2 0 (.int .u64 x.id), .test .geq 22 (.tmp 23) (.tmp 25) (.int .u64 (oat X k).id) (.int .u64 x.id) (.bool true)]) (n := 0) (by kernel_rfl) (by kernel_rfl) ⟨ob_load1 (fun _ h => h.1) c3 Try.isAgg23, ia_at hkn, ob_cell (j := 0) (fun _ h => h.2.2) hC'.id Try.isAgg22, ob_load1 (fun _ h => h.2.1) d0 Try.isAgg22, ob_yes (fun _ => tge_int _ _ _ _ _ _) hge, trivial⟩ ?_
     refine wpAnyH_done (by kernel_rfl) ?_ _
     obtain ⟨hb, hb2, hr⟩ := hS
     go_wp2_with (first
      | (with_reducible refine wpList_load_blk rfl _ _ rfl B2 rfl _ hb2 _ Try.underlying54 rfl (size40C hz) ?_)
      | ((with_reducible refine wpList_bs1 rfl _ rfl C rfl hz ?_); intro Bq W2 hBq hbq hk2; replace hown := own_next hown hk2; replace hb0 := hb0.trans (hk2.mono hb0.size))
      | (at_builtin; refine wpList_append_row infoO Try.underlying23 zC_size (by omega) rfl _ _ rfl W0.heap.size _ _ cs rfl hown _ _ _ _ C.toList rfl (row_one hbq hz) (obC_one hx) (by unfold maxLen; omega) (by omega) hb0.size ?_; intro v1 W3 hown3 hgrow; replace hb0 := hb0.grown hgrow hb0.size (own_ge hown); replace hown := hown3; clear hown3))
     replace hb := hbA.next hb0
     replace hb2 := hb2A.next hb0
     replace hr : W3.rangeAt b (off + k * 51) C'.toList := range_block hrw ((hk.trans (hb0.mono hk.size)).block b hbw0)
     replace hbb : b < W3.heap.size := Nat.lt_of_lt_of_le hbw0 (hk.trans (hb0.mono hk.size)).size
     clear hgrow hbq hBq hk2
     refine PgM.region_out (S := fun W => Blk W B G 25 ∧ Blk W B2 C 54 ∧ W.rangeAt b (off + k * 51) C'.toList) hmx ⟨hb.next (Below.refl _ _).drew, hb2.next (Below.refl _ _).drew, range_block hr ((Below.refl _ W3).drew.block b hbb)⟩ (fun hS => ?_)
     have hkd := (Below.refl W3.heap.size W3).drew
     replace hown := own_next hown hkd
     replace hb0 := hb0.trans (hkd.mono hb0.size)
     replace hbb := Nat.lt_of_lt_of_le hbb hkd.size
     generalize W3.drew = W4 at hS hown hb0 hbb ⊢
     clear hkd hb hb2 hr
     refine wpAnyH_sym (by kernel_rfl) (fun _ _ _ _ _ h => h) hS [(0, none), (1, some (.slice (some ⟨b, off, none⟩) n cap)), (2, none), (3, some (.pointer (some ⟨b, off + k * 51, none⟩))), (4, none), (5, some (.int .u64 (oat X k).id)), (6, none), (7, some (.int .u64 x.id)), (8, some (.bool false))] (l' := #[true, true, true, true, true, true, true, true, true]) (a' := { tmps := #[.agg G, .agg C, .pointer (some ⟨B, 0, none⟩), .pointer (some ⟨B2, 0, none⟩), .pointer (some ⟨R, 0, none⟩), v1, .bool true, .int .i64 k, .int .i64 k, .pointer (some ⟨B, 3, none⟩), .slice (some ⟨b, off, none⟩) n cap, .int .i64 n, .bool true, u13, u14, .bool false, .bool true, .bool true, .pointer (some ⟨B, 3, none⟩), .slice (some ⟨b, off, none⟩) n cap, .int .i64 k, .pointer (some ⟨b, off + k * 51, none⟩), .pointer (some ⟨b, off + k * 51 + 0, none⟩), .int .u64 (oat X k).id, .pointer (some ⟨B2, 0, none⟩), .int .u64 x.id, .bool true, .bool true, u5, .agg C, .slice (some ⟨Bq, 0, none⟩) 1 1, v1, .pointer (some ⟨B, 3, none⟩), .slice (some ⟨b, off, none⟩) n cap, .int .i64 k, .pointer (some ⟨b, off + k * 51, none⟩), .pointer (some ⟨b, off + k * 51 + 0, none⟩), .int .u64 (oat X k).id, .pointer (some ⟨B2, 0, none⟩), .int .u64 x.id, .bool false, u41, u42, u43, u44, u45, u46, u47, u48, undef, undef, undef, undef, undef, undef, undef, undef, undef, undef, undef, undef, undef], defers := [] }) (obs := [.load 23 B 3 (.slice (some ⟨b, off, none⟩) n cap), .ia 23 (.slice (some ⟨b, off, none⟩) n cap) (.int .i64 k) (.pointer (some ⟨b, off + k * 51, none⟩)), .load 22 b (off + k * 51 + 0) (.int .u64 (oat X k).id), .load 22 B2 0 (.int .u64 x.id), .test .neq 22 (.tmp 37) (.tmp 39) (.int .u64 (oat X k).id) (.int .u64 x.id) (.bool false)]) (n := 0) (by kernel_rfl) (by kernel_rfl) ⟨ob_load1 (fun _ h => h.1) c3 Try.isAgg23, ia_at hkn, ob_cell (j := 0) (fun _ h => h.2.2) hC'.id Try.isAgg22, ob_load1 (fun _ h => h.2.1) d0 Try.isAgg22, ob_no (fun _ => neg_int _ _ _ _ _ _) hne, trivial⟩ ?_
     refine wpAnyH_done (by kernel_rfl) ?_ _
     obtain ⟨hb, hb2, hr⟩ := hS
     go_wp2
     go_roundw
     case rel =>
      have hne1 := Classical.not_not.1 hne.out
      have hst : stps x (X.take (k + 1)) = (A ++ [x], true) := by rw [stps_succ hkX, hA.out]; unfold stp; simp [hne1]
      have hbw2 := hk.trans (hb0.mono hk.size)
      refine ⟨k + 1, cs ++ C.toList, A ++ [x], true, by omega, by go_num, rfl, hst, ?_, ?_, hb0⟩
      ·simpa [List.length_append] using hown
      ·exact (RowO.app (hro.laterK fun b hb => (hbw2.block b (hD b hb)).trans (hbw.block b (hD b hb)).symm) (RowO.single (hx.laterK fun b hb => hbw2.block b (hD b hb))))
     case measure => simp [intOf]; omega
   ·have hne : Hid (¬ (oat X k).id = x.id) := hne1
    clear hne1
    cases d with
    | true =>
     go_wp2_with (first
      | (with_reducible refine wpList_load1 (by kernel_rfl) _ _ rfl B _ rfl _ _ hb _ c3 ga3 ?_))
     refine PgM.region_out (S := fun W => Blk W B G 25 ∧ Blk W B2 C 54 ∧ W.rangeAt b (off + k * 51) C'.toList) hmx ⟨hb.next (Below.refl _ _).drew, hb2.next (Below.refl _ _).drew, range_block hr ((Below.refl _ wr).drew.block b hbb)⟩ (fun hS => ?_)
     have hkd := (Below.refl wr.heap.size wr).drew
     replace hown := own_next hown hkd
     replace hb0 := hb0.trans (hkd.mono hb0.size)
     replace hbb := Nat.lt_of_lt_of_le hbb hkd.size
     generalize wr.drew = W1 at hS hown hb0 hbb ⊢
     clear hkd hb hb2 hr
     refine wpAnyH_sym (by kernel_rfl) (fun _ _ _ _ _ h => h) hS [(0, none), (1, none), (2, none), (3, none), (4, none), (5, none), (6, none), (7, none), (8, none), (9, none), (10, none), (11, none), (12, none)] (l' := #[true, true, true, true, true, true, true, true, true, true, true, true, true]) (a' := { tmps := #[.agg G, .agg C, .pointer (some ⟨B, 0, none⟩), .pointer (some ⟨B2, 0, none⟩), .pointer (some ⟨R, 0, none⟩), u5, .bool true, .int .i64 k, .int .i64 k, .pointer (some ⟨B, 3, none⟩), .slice (some ⟨b, off, none⟩) n cap, .int .i64 n, .bool true, u13, u14, .bool true, .bool false, .bool false, undef, undef, undef, undef, undef, undef, undef, undef, undef, .bool false, u28, u29, u30, u31, u32, u33, u34, u35, u36, u37, u38, u39, u40, u41, u42, u43, u44, u45, u46, u47, u48, undef, undef, undef, undef, undef, undef, undef, undef, undef, undef, undef, undef, undef], defers := [] }) (obs := []) (n := 0) (by kernel_rfl) (by kernel_rfl) trivial ?_
     refine wpAnyH_done (by kernel_rfl) ?_ _
     obtain ⟨hb, hb2, hr⟩ := hS
     go_wp2
     refine PgM.region_out (S := fun W => Blk W B G 25 ∧ Blk W B2 C 54 ∧ W.rangeAt b (off + k * 51) C'.toList) hmx ⟨hb.next (Below.refl _ _).drew, hb2.next (Below.refl _ _).drew, range_block hr ((Below.refl _ W1).drew.block b hbb)⟩ (fun hS => ?_)
     have hkd := (Below.refl W1.heap.size W1).drew
     replace hown := own_next hown hkd
     replace hb0 := hb0.trans (hkd.mono hb0.size)
     replace hbb := Nat.lt_of_lt_of_le hbb hkd.size
     generalize W1.drew = W4 at hS hown hb0 hbb ⊢
     clear hkd hb hb2 hr
     refine wpAnyH_sym (by kernel_rfl) (fun _ _ _ _ _ h => h) hS [(0, none), (1, some (.slice (some ⟨b, off, none⟩) n cap)), (2, none), (3, some (.pointer (some ⟨b, off + k * 51, none⟩))), (4, none), (5, some (.int .u64 (oat X k).id)), (6, none), (7, some (.int .u64 x.id)), (8, some (.bool true))] (l' := #[true, true, true, true, true, true, true, true, true]) (a' := { tmps := #[.agg G, .agg C, .pointer (some ⟨B, 0, none⟩), .pointer (some ⟨B2, 0, none⟩), .pointer (some ⟨R, 0, none⟩), u5, .bool true, .int .i64 k, .int .i64 k, .pointer (some ⟨B, 3, none⟩), .slice (some ⟨b, off, none⟩) n cap, .int .i64 n, .bool true, u13, u14, .bool true, .bool false, .bool false, undef, undef, undef, undef, undef, undef, undef, undef, undef, .bool false, u28, u29, u30, u31, .pointer (some ⟨B, 3, none⟩), .slice (some ⟨b, off, none⟩) n cap, .int .i64 k, .pointer (some ⟨b, off + k * 51, none⟩), .pointer (some ⟨b, off + k * 51 + 0, none⟩), .int .u64 (oat X k).id, .pointer (some ⟨B2, 0, none⟩), .int .u64 x.id, .bool true, u41, u42, u43, u44, u45, u46, u47, u48, undef, undef, undef, undef, undef, undef, undef, undef, undef, undef, undef, undef, undef], defers := [] }) (obs := [.load 23 B 3 (.slice (some ⟨b, off, none⟩) n cap), .ia 23 (.slice (some ⟨b, off, none⟩) n cap) (.int .i64 k) (.pointer (some ⟨b, off + k * 51, none⟩)), .load 22 b (off + k * 51 + 0) (.int .u64 (oat X k).id), .load 22 B2 0 (.int .u64 x.id), .test .neq 22 (.tmp 37) (.tmp 39) (.int .u64 (oat X k).id) (.int .u64 x.id) (.bool true)]) (n := 0) (by kernel_rfl) (by kernel_rfl) ⟨ob_load1 (fun _ h => h.1) c3 Try.isAgg23, ia_at hkn, ob_cell (j := 0) (fun _ h => h.2.2) hC'.id Try.isAgg22, ob_load1 (fun _ h => h.2.1) d0 Try.isAgg22, ob_yes (fun _ => neg_int _ _ _ _ _ _) hne, trivial⟩ ?_
     refine wpAnyH_done (by kernel_rfl) ?_ _
     obtain ⟨hb, hb2, hr⟩ := hS
     go_wp2_with (first
      | (with_reducible refine wpList_load1 (by kernel_rfl) _ _ rfl B _ rfl _ _ hb _ c3 ga3 ?_)
      | (with_reducible refine wpList_loadm (by kernel_rfl) 54 _ rfl b _ rfl C' hr _ Try.underlying54 (by kernel_rfl) (size40C hz') ?_)
      | ((with_reducible refine wpList_bs1 rfl _ rfl C' rfl hz' ?_); intro Bp W5 hBp hbp hk5; replace hown := own_next hown hk5; replace hb0 := hb0.trans (hk5.mono hb0.size))
      | (at_builtin; refine wpList_append_row infoO Try.underlying23 zC_size (by omega) rfl _ _ rfl W0.heap.size _ _ _ rfl hown _ _ _ _ C'.toList rfl (row_one hbp hz') (obC_one hC') (by unfold maxLen; omega) (by omega) hb0.size ?_; intro v2 W6 hown6 hgrow; replace hb0 := hb0.grown hgrow hb0.size (own_ge hown); replace hown := hown6; clear hown6))
     go_roundw
     case rel =>
      have hne1 := hne.out
      have hst : stps x (X.take (k + 1)) = (A ++ [oat X k], true) := by rw [stps_succ hkX, hA.out]; unfold stp; simp [hne1]
      have hbw2 := hk.trans (hb0.mono hk.size)
      refine ⟨k + 1, cs ++ C'.toList, A ++ [oat X k], true, by omega, by go_num, rfl, hst, ?_, ?_, hb0⟩
      ·simpa [List.length_append] using hown
      ·exact (RowO.app (hro.laterK fun b hb => (hbw2.block b (hD b hb)).trans (hbw.block b (hD b hb)).symm) (RowO.single (hC'.laterK fun b hb => (hbw2.block b (hD b hb)).trans (hbw.block b (hD b hb)).symm)))
     case measure => simp [intOf]; omega
    | false =>
     by_cases hge1 : x.id ≤ (oat X k).id
     ·have hge : Hid (x.id ≤ (oat X k).id) := hge1
      go_wp2_with (first
       | (with_reducible refine wpList_load1 (by kernel_rfl) _ _ rfl B _ rfl _ _ hb _ c3 ga3 ?_))
      refine PgM.region_out (S := fun W => Blk W B G 25 ∧ Blk W B2 C 54 ∧ W.rangeAt b (off + k * 51) C'.toList) hmx ⟨hb.next (Below.refl _ _).drew, hb2.next (Below.refl _ _).drew, range_block hr ((Below.refl _ wr).drew.block b hbb)⟩ (fun hS => ?_)
      have hkd := (Below.refl wr.heap.size wr).drew
      replace hown := own_next hown hkd
      replace hb0 := hb0.trans (hkd.mono hb0.size)
      replace hbb := Nat.lt_of_lt_of_le hbb hkd.size
      generalize wr.drew = W1 at hS hown hb0 hbb ⊢
      clear hkd hb hb2 hr
      refine wpAnyH_sym (by kernel_rfl) (fun _ _ _ _ _ h => h) hS [(0, none), (1, none), (2, none), (3, none), (4, some (.slice (some ⟨b, off, none⟩) n cap)), (5, none), (6, some (.pointer (some ⟨b, off + k * 51, none⟩))), (7, none), (8, some (.int .u64 (oat X k).id)), (9, none), (10, some (.int .u64 x.id)), (11, some (.bool true)), (12, none)] (l' := #[true, true, true, true, true, true, true, true, true, true, true, true, true]) (a' := { tmps := #[.agg G, .agg C, .pointer (some ⟨B, 0, none⟩), .pointer (some ⟨B2, 0, none⟩), .pointer (some ⟨R, 0, none⟩), u5, .bool false, .int .i64 k, .int .i64 k, .pointer (some ⟨B, 3, none⟩), .slice (some ⟨b, off, none⟩) n cap, .int .i64 n, .bool true, u13, u14, .bool false, .bool true, .bool true, .pointer (some ⟨B, 3, none⟩), .slice (some ⟨b, off, none⟩) n cap, .int .i64 k, .pointer (some ⟨b, off + k * 51, none⟩), .pointer (some ⟨b, off + k * 51 + 0, none⟩), .int .u64 (oat X k).id, .pointer (some ⟨B2, 0, none⟩), .int .u64 x.id, .bool true, .bool true, u28, u29, u30, u31, u32, u33, u34, u35, u36, u37, u38, u39, u40, u41, u42, u43, u44, u45, u46, u47, u48, undef, undef, undef, undef, undef, undef, undef, undef, undef, undef, undef, undef, undef], defers := [] }) (obs := [.load 23 B 3 (.slice (some ⟨b, off, none⟩) n cap), .ia 23 (.slice (some ⟨b, off, none⟩) n cap) (.int .i64 k) (.pointer (some ⟨b, off + k * 51, none⟩)), .load 22 b (off + k * 51 + 0) (.int .u64 (oat X k).id), .load 22 B2 0 (.int .u64 x.id), .test .geq 22 (.tmp 23) (.tmp 25) (.int .u64 (oat X k).id) (.int .u64 x.id) (.bool true)]) (n := 0) (by kernel_rfl) (by kernel_rfl) ⟨ob_load1 (fun _ h => h.1) c3 Try.isAgg23, ia_at hkn, ob_cell (j := 0) (fun _ h => h.2.2) hC'.id Try.isAgg22, ob_load1 (fun _ h => h.2.1) d0 Try.isAgg22, ob_yes (fun _ => tge_int _ _ _ _ _ _) hge, trivial⟩ ?_
      refine wpAnyH_done (by kernel_rfl) ?_ _
      obtain ⟨hb, hb2, hr⟩ := hS
      go_wp2_with (first
       | (with_reducible refine wpList_load_blk rfl _ _ rfl B2 rfl _ hb2 _ Try.underlying54 rfl (size40C hz) ?_)
       | ((with_reducible refine wpList_bs1 rfl _ rfl C rfl hz ?_); intro Bq W2 hBq hbq hk2; replace hown := own_next hown hk2; replace hb0 := hb0.trans (hk2.mono hb0.size))
       | (at_builtin; refine wpList_append_row infoO Try.underlying23 zC_size (by omega) rfl _ _ rfl W0.heap.size _ _ cs rfl hown _ _ _ _ C.toList rfl (row_one hbq hz) (obC_one hx) (by unfold maxLen; omega) (by omega) hb0.size ?_; intro v1 W3 hown3 hgrow; replace hb0 := hb0.grown hgrow hb0.size (own_ge hown); replace hown := hown3; clear hown3))
      replace hb := hbA.next hb0
      replace hb2 := hb2A.next hb0
      replace hr : W3.rangeAt b (off + k * 51) C'.toList := range_block hrw ((hk.trans (hb0.mono hk.size)).block b hbw0)
      replace hbb : b < W3.heap.size := Nat.lt_of_lt_of_le hbw0 (hk.trans (hb0.mono hk.size)).size
      clear hgrow hbq hBq hk2
      refine PgM.region_out (S := fun W => Blk W B G 25 ∧ Blk W B2 C 54 ∧ W.rangeAt b (off + k * 51) C'.toList) hmx ⟨hb.next (Below.refl _ _).drew, hb2.next (Below.refl _ _).drew, range_block hr ((Below.refl _ W3).drew.block b hbb)⟩ (fun hS => ?_)
      have hkd := (Below.refl W3.heap.size W3).drew
      replace hown := own_next hown hkd
      replace hb0 := hb0.trans (hkd.mono hb0.size)
      replace hbb := Nat.lt_of_lt_of_le hbb hkd.size
      generalize W3.drew = W4 at hS hown hb0 hbb ⊢
      clear hkd hb hb2 hr
      refine wpAnyH_sym (by kernel_rfl) (fun _ _ _ _ _ h => h) hS [(0, none), (1, some (.slice (some ⟨b, off, none⟩) n cap)), (2, none), (3, some (.pointer (some ⟨b, off + k * 51, none⟩))), (4, none), (5, some (.int .u64 (oat X k).id)), (6, none), (7, some (.int .u64 x.id)), (8, some (.bool true))] (l' := #[true, true, true, true, true, true, true, true, true]) (a' := { tmps := #[.agg G, .agg C, .pointer (some ⟨B, 0, none⟩), .pointer (some ⟨B2, 0, none⟩), .pointer (some ⟨R, 0, none⟩), v1, .bool true, .int .i64 k, .int .i64 k, .pointer (some ⟨B, 3, none⟩), .slice (some ⟨b, off, none⟩) n cap, .int .i64 n, .bool true, u13, u14, .bool false, .bool true, .bool true, .pointer (some ⟨B, 3, none⟩), .slice (some ⟨b, off, none⟩) n cap, .int .i64 k, .pointer (some ⟨b, off + k * 51, none⟩), .pointer (some ⟨b, off + k * 51 + 0, none⟩), .int .u64 (oat X k).id, .pointer (some ⟨B2, 0, none⟩), .int .u64 x.id, .bool true, .bool true, u5, .agg C, .slice (some ⟨Bq, 0, none⟩) 1 1, v1, .pointer (some ⟨B, 3, none⟩), .slice (some ⟨b, off, none⟩) n cap, .int .i64 k, .pointer (some ⟨b, off + k * 51, none⟩), .pointer (some ⟨b, off + k * 51 + 0, none⟩), .int .u64 (oat X k).id, .pointer (some ⟨B2, 0, none⟩), .int .u64 x.id, .bool true, u41, u42, u43, u44, u45, u46, u47, u48, undef, undef, undef, undef, undef, undef, undef, undef, undef, undef, undef, undef, undef], defers := [] }) (obs := [.load 23 B 3 (.slice (some ⟨b, off, none⟩) n cap), .ia 23 (.slice (some ⟨b, off, none⟩) n cap) (.int .i64 k) (.pointer (some ⟨b, off + k * 51, none⟩)), .load 22 b (off + k * 51 + 0) (.int .u64 (oat X k).id), .load 22 B2 0 (.int .u64 x.id), .test .neq 22 (.tmp 37) (.tmp 39) (.int .u64 (oat X k).id) (.int .u64 x.id) (.bool true)]) (n := 0) (by kernel_rfl) (by kernel_rfl) ⟨ob_load1 (fun _ h => h.1) c3 Try.isAgg23, ia_at hkn, ob_cell (j := 0) (fun _ h => h.2.2) hC'.id Try.isAgg22, ob_load1 (fun _ h => h.2.1) d0 Try.isAgg22, ob_yes (fun _ => neg_int _ _ _ _ _ _) hne, trivial⟩ ?_
      refine wpAnyH_done (by kernel_rfl) ?_ _
      obtain ⟨hb, hb2, hr⟩ := hS
      go_wp2_with (first
       | (with_reducible refine wpList_load1 (by kernel_rfl) _ _ rfl B _ rfl _ _ hb _ c3 ga3 ?_)
       | (with_reducible refine wpList_loadm (by kernel_rfl) 54 _ rfl b _ rfl C' hr _ Try.underlying54 (by kernel_rfl) (size40C hz') ?_)
       | ((with_reducible refine wpList_bs1 rfl _ rfl C' rfl hz' ?_); intro Bp W5 hBp hbp hk5; replace hown := own_next hown hk5; replace hb0 := hb0.trans (hk5.mono hb0.size))
       | (at_builtin; refine wpList_append_row infoO Try.underlying23 zC_size (by omega) rfl _ _ rfl W0.heap.size _ _ _ rfl hown _ _ _ _ C'.toList rfl (row_one hbp hz') (obC_one hC') (by unfold maxLen; omega) (by omega) hb0.size ?_; intro v2 W6 hown6 hgrow; replace hb0 := hb0.grown hgrow hb0.size (own_ge hown); replace hown := hown6; clear hown6))
      go_roundw
      case rel =>
       have hne1 := hne.out
       have hst : stps x (X.take (k + 1)) = (A ++ [x] ++ [oat X k], true) := by rw [stps_succ hkX, hA.out]; unfold stp; simp [hge1, hne1]
       have hbw2 := hk.trans (hb0.mono hk.size)
       refine ⟨k + 1, cs ++ C.toList ++ C'.toList, A ++ [x] ++ [oat X k], true, by omega, by go_num, rfl, hst, ?_, ?_, hb0⟩
       ·simpa [List.length_append] using hown
       ·exact (RowO.app (RowO.app (hro.laterK fun b hb => (hbw2.block b (hD b hb)).trans (hbw.block b (hD b hb)).symm) (RowO.single (hx.laterK fun b hb => hbw2.block b (hD b hb)))) (RowO.single (hC'.laterK fun b hb => (hbw2.block b (hD b hb)).trans (hbw.block b (hD b hb)).symm)))
      case measure => simp [intOf]; omega
     ·have hge : Hid (¬ x.id ≤ (oat X k).id) := hge1
      go_wp2_with (first
       | (with_reducible refine wpList_load1 (by kernel_rfl) _ _ rfl B _ rfl _ _ hb _ c3 ga3 ?_))
      refine PgM.region_out (S := fun W => Blk W B G 25 ∧ Blk W B2 C 54 ∧ W.rangeAt b (off + k * 51) C'.toList) hmx ⟨hb.next (Below.refl _ _).drew, hb2.next (Below.refl _ _).drew, range_block hr ((Below.refl _ wr).drew.block b hbb)⟩ (fun hS => ?_)
      have hkd := (Below.refl wr.heap.size wr).drew
      replace hown := own_next hown hkd
      replace hb0 := hb0.trans (hkd.mono hb0.size)
      replace hbb := Nat.lt_of_lt_of_le hbb hkd.size
      generalize wr.drew = W1 at hS hown hb0 hbb ⊢
      clear hkd hb hb2 hr
      refine wpAnyH_sym (by kernel_rfl) (fun _ _ _ _ _ h => h) hS [(0, none), (1, none), (2, none), (3, none), (4, some (.slice (some ⟨b, off, none⟩) n cap)), (5, none), (6, some (.pointer (some ⟨b, off + k * 51, none⟩))), (7, none), (8, some (.int .u64 (oat X k).id)), (9, none), (10, some (.int .u64 x.id)), (11, some (.bool false)), (12, none)] (l' := #[true, true, true, true, true, true, true, true, true, true, true, true, true]) (a' := { tmps := #[.agg G, .agg C, .pointer (some ⟨B, 0, none⟩), .pointer (some ⟨B2, 0, none⟩), .pointer (some ⟨R, 0, none⟩), u5, .bool false, .int .i64 k, .int .i64 k, .pointer (some ⟨B, 3, none⟩), .slice (some ⟨b, off, none⟩) n cap, .int .i64 n, .bool true, u13, u14, .bool false, .bool true, .bool true, .pointer (some ⟨B, 3, none⟩), .slice (some ⟨b, off, none⟩) n cap, .int .i64 k, .pointer (some ⟨b, off + k * 51, none⟩), .pointer (some ⟨b, off + k * 51 + 0, none⟩), .int .u64 (oat X k).id, .pointer (some ⟨B2, 0, none⟩), .int .u64 x.id, .bool false, .bool false, u28, u29, u30, u31, u32, u33, u34, u35, u36, u37, u38, u39, u40, u41, u42, u43, u44, u45, u46, u47, u48, undef, undef, undef, undef, undef, undef, undef, undef, undef, undef, undef, undef, undef], defers := [] }) (obs := [.load 23 B 3 (.slice (some ⟨b, off, none⟩) n cap), .ia 23 (.slice (some ⟨b, off, none⟩) n cap) (.int .i64 k) (.pointer (some ⟨b, off + k * 51, none⟩)), .load 22 b (off + k * 51 + 0) (.int .u64 (oat X k).id), .load 22 B2 0 (.int .u64 x.id), .test .geq 22 (.tmp 23) (.tmp 25) (.int .u64 (oat X k).id) (.int .u64 x.id) (.bool false)]) (n := 0) (by kernel_rfl) (by kernel_rfl) ⟨ob_load1 (fun _ h => h.1) c3 Try.isAgg23, ia_at hkn, ob_cell (j := 0) (fun _ h => h.2.2) hC'.id Try.isAgg22, ob_load1 (fun _ h => h.2.1) d0 Try.isAgg22, ob_no (fun _ => tge_int _ _ _ _ _ _) (by refine (?_ : ¬ x.id ≤ (oat X k).id); have := hge.out; omega), trivial⟩ ?_
      refine wpAnyH_done (by kernel_rfl) ?_ _
      obtain ⟨hb, hb2, hr⟩ := hS
      go_wp2
      refine PgM.region_out (S := fun W => Blk W B G 25 ∧ Blk W B2 C 54 ∧ W.rangeAt b (off + k * 51) C'.toList) hmx ⟨hb.next (Below.refl _ _).drew, hb2.next (Below.refl _ _).drew, range_block hr ((Below.refl _ W1).drew.block b hbb)⟩ (fun hS => ?_)
      have hkd := (Below.refl W1.heap.size W1).drew
      replace hown := own_next hown hkd
      replace hb0 := hb0.trans (hkd.mono hb0.size)
      replace hbb := Nat.lt_of_lt_of_le hbb hkd.size
      generalize W1.drew = W4 at hS hown hb0 hbb ⊢
      clear hkd hb hb2 hr
      refine wpAnyH_sym (by kernel_rfl) (fun _ _ _ _ _ h => h) hS [(0, none), (1, some (.slice (some ⟨b, off, none⟩) n cap)), (2, none), (3, some (.pointer (some ⟨b, off + k * 51, none⟩))), (4, none), (5, some (.int .u64 (oat X k).id)), (6, none), (7, some (.int .u64 x.id)), (8, some (.bool true))] (l' := #[true, true, true, true, true, true, true, true, true]) (a' := { tmps := #[.agg G, .agg C, .pointer (some ⟨B, 0, none⟩), .pointer (some ⟨B2, 0, none⟩), .pointer (some ⟨R, 0, none⟩), u5, .bool false, .int .i64 k, .int .i64 k, .pointer (some ⟨B, 3, none⟩), .slice (some ⟨b, off, none⟩) n cap, .int .i64 n, .bool true, u13, u14, .bool false, .bool true, .bool true, .pointer (some ⟨B, 3, none⟩), .slice (some ⟨b, off, none⟩) n cap, .int .i64 k, .pointer (some ⟨b, off + k * 51, none⟩), .pointer (some ⟨b, off + k * 51 + 0, none⟩), .int .u64 (oat X k).id, .pointer (some ⟨B2, 0, none⟩), .int .u64 x.id, .bool false, .bool false, u28, u29, u30, u31, .pointer (some ⟨B, 3, none⟩), .slice (some ⟨b, off, none⟩) n cap, .int .i64 k, .pointer (some ⟨b, off + k * 51, none⟩), .pointer (some ⟨b, off + k * 51 + 0, none⟩), .int .u64 (oat X k).id, .pointer (some ⟨B2, 0, none⟩), .int .u64 x.id, .bool true, u41, u42, u43, u44, u45, u46, u47, u48, undef, undef, undef, undef, undef, undef, undef, undef, undef, undef, undef, undef, undef], defers := [] }) (obs := [.load 23 B 3 (.slice (some ⟨b, off, none⟩) n cap), .ia 23 (.slice (some ⟨b, off, none⟩) n cap) (.int .i64 k) (.pointer (some ⟨b, off + k * 51, none⟩)), .load 22 b (off + k * 51 + 0) (.int .u64 (oat X k).id), .load 22 B2 0 (.int .u64 x.id), .test .neq 22 (.tmp 37) (.tmp 39) (.int .u64 (oat X k).id) (.int .u64 x.id) (.bool true)]) (n := 0) (by kernel_rfl) (by kernel_rfl) ⟨ob_load1 (fun _ h => h.1) c3 Try.isAgg23, ia_at hkn, ob_cell (j := 0) (fun _ h => h.2.2) hC'.id Try.isAgg22, ob_load1 (fun _ h => h.2.1) d0 Try.isAgg22, ob_yes (fun _ => neg_int _ _ _ _ _ _) hne, trivial⟩ ?_
      refine wpAnyH_done (by kernel_rfl) ?_ _
      obtain ⟨hb, hb2, hr⟩ := hS
      go_wp2_with (first
       | (with_reducible refine wpList_load1 (by kernel_rfl) _ _ rfl B _ rfl _ _ hb _ c3 ga3 ?_)
       | (with_reducible refine wpList_loadm (by kernel_rfl) 54 _ rfl b _ rfl C' hr _ Try.underlying54 (by kernel_rfl) (size40C hz') ?_)
       | ((with_reducible refine wpList_bs1 rfl _ rfl C' rfl hz' ?_); intro Bp W5 hBp hbp hk5; replace hown := own_next hown hk5; replace hb0 := hb0.trans (hk5.mono hb0.size))
       | (at_builtin; refine wpList_append_row infoO Try.underlying23 zC_size (by omega) rfl _ _ rfl W0.heap.size _ _ _ rfl hown _ _ _ _ C'.toList rfl (row_one hbp hz') (obC_one hC') (by unfold maxLen; omega) (by omega) hb0.size ?_; intro v2 W6 hown6 hgrow; replace hb0 := hb0.grown hgrow hb0.size (own_ge hown); replace hown := hown6; clear hown6))
      go_roundw
      case rel =>
       have hne1 := hne.out
       have hst : stps x (X.take (k + 1)) = (A ++ [oat X k], false) := by rw [stps_succ hkX, hA.out]; unfold stp; simp [hge1, hne1]
       have hbw2 := hk.trans (hb0.mono hk.size)
       refine ⟨k + 1, cs ++ C'.toList, A ++ [oat X k], false, by omega, by go_num, rfl, hst, ?_, ?_, hb0⟩
       ·simpa [List.length_append] using hown
       ·exact (RowO.app (hro.laterK fun b hb => (hbw2.block b (hD b hb)).trans (hbw.block b (hD b hb)).symm) (RowO.single (hC'.laterK fun b hb => (hbw2.block b (hD b hb)).trans (hbw.block b (hD b hb)).symm)))
      case measure => simp [intOf]; omega
  ·obtain rfl : k = n := by omega
   have ht : X.take k = X := by rw [← hn.out]; exact List.take_length
   rw [ht] at hA
   cases d with
   | true =>
    have hput : Hid (A = puR X x) := by show _ = _; rw [← hrp.out, hA.out]; rfl
    have hAl2 : A.length ≤ k + 1 := by rw [hput.out]; exact hln.out
    obtain ⟨ao2, cap2, rfl, hrc⟩ := RowC.of_owns hown
    go_wp2_with (first
     | (with_reducible refine wpList_load1 (by kernel_rfl) _ _ rfl B _ rfl _ _ hb _ c3 ga3 ?_)
     | ((with_reducible refine wpList_test (by kernel_rfl) .gtr _ _ _ _ rfl _ _ rfl rfl (tgt_int _ _ _ _ _ _) ?_ ?_) <;> first | (intro hq2; exfalso; have h9 := hq2.out; omega) | (intro hq2))
     | ((with_reducible refine wpList_store_cell rfl _ _ _ rfl B 3 rfl (.slice ao2 (A.length) cap2) rfl rfl G _ hb (by kernel_rfl) (by rw [hzG4]; omega) rfl ?_); intro W7 hb7 o7; rw [cS] at hb7; have hR7 := hR.other o7 hne.symm)
     | (with_reducible refine wpList_load_blk rfl _ _ rfl B rfl _ hb7 _ Try.underlying25 rfl (hz2 _) ?_)
     | ((with_reducible refine wpList_store_blk rfl _ _ _ rfl R rfl _ rfl zW hR7 (hz2 _) (hs2 _) (h12 _ _ _) ?_); intro W8 hR8 o8))
    refine bodyPost_ret (v := .agg _) (res43 Try.results28 rfl hR8 rfl) rfl ?_
    have hbw2 := hk.trans (hb0.mono hk.size)
    have hRo := hRl.out
    have hBR := hBR0.out
    have hlt := hb0.size
    have hws := hbw2.size
    refine ⟨ao2, (A.length), cap2, rfl, ?_, o8.below _ _ hRo.1 (o7.below _ _ hRo.2 hbw2)⟩
    rw [← hput.out]
    have hob := hrc.obs (hro.laterK fun b hb => (hbw2.block b (hD b hb)).trans (hbw.block b (hD b hb)).symm)
    refine (hob.laterK (w' := W8) (fun b hb => (o8.block b (by have := hD b hb; omega)).trans (o7.block b (by have := hD b hb; omega))) (fun b hb => (o8.block b (by have := hb.1; omega)).trans (o7.block b (by have := hb.1; omega)))).wide (fun b hb => ?_) (fun b hb => ?_)
    ·exact hb
    ·exact ⟨by have := hb.1; have := hk.size; omega, by rw [o8.size, o7.size]; exact hb.2⟩
   | false =>
    have hput : Hid (A ++ [x] = puR X x) := by show _ = _; rw [← hrp.out, hA.out]; rfl
    have hAl2 : A.length ≤ k := by have := hln.out; rw [← hput.out, List.length_append] at this; simp at this; exact this
    go_wp2_with (first
     | (with_reducible refine wpList_load1 (by kernel_rfl) _ _ rfl B _ rfl _ _ hb _ c3 ga3 ?_)
     | (with_reducible refine wpList_load_blk rfl _ _ rfl B2 rfl _ hb2 _ Try.underlying54 rfl (size40C hz) ?_)
     | ((with_reducible refine wpList_bs1 rfl _ rfl C rfl hz ?_); intro Bq W2 hBq hbq hk2; replace hown := own_next hown hk2; replace hb0 := hb0.trans (hk2.mono hb0.size))
     | (at_builtin; refine wpList_append_row infoO Try.underlying23 zC_size (by omega) rfl _ _ rfl W0.heap.size _ _ cs rfl hown _ _ _ _ C.toList rfl (row_one hbq hz) (obC_one hx) (by unfold maxLen; omega) (by omega) hb0.size ?_; intro v1 W3 hown3 hgrow; replace hb0 := hb0.grown hgrow hb0.size (own_ge hown); obtain ⟨ao2, cap2, rfl, hrc⟩ := RowC.of_owns hown3; replace hb := hbA.next hb0; replace hR := hRA.next hb0)
     | ((with_reducible refine wpList_test (by kernel_rfl) .gtr _ _ _ _ rfl _ _ rfl rfl (tgt_int _ _ _ _ _ _) ?_ ?_) <;> first | (intro hq2; exfalso; have h9 := hq2.out; omega) | (intro hq2))
     | ((with_reducible refine wpList_store_cell rfl _ _ _ rfl B 3 rfl (.slice ao2 (A.length + 1) cap2) rfl rfl G _ hb (by kernel_rfl) (by rw [hzG4]; omega) rfl ?_); intro W7 hb7 o7; rw [cS] at hb7; have hR7 := hR.other o7 hne.symm)
     | (with_reducible refine wpList_load_blk rfl _ _ rfl B rfl _ hb7 _ Try.underlying25 rfl (hz2 _) ?_)
     | ((with_reducible refine wpList_store_blk rfl _ _ _ rfl R rfl _ rfl zW hR7 (hz2 _) (hs2 _) (h12 _ _ _) ?_); intro W8 hR8 o8))
    refine bodyPost_ret (v := .agg _) (res43 Try.results28 rfl hR8 rfl) rfl ?_
    have hbw2 := hk.trans (hb0.mono hk.size)
    have hRo := hRl.out
    have hBR := hBR0.out
    have hlt := hb0.size
    have hws := hbw2.size
    refine ⟨ao2, (A.length + 1), cap2, rfl, ?_, o8.below _ _ hRo.1 (o7.below _ _ hRo.2 hbw2)⟩
    rw [← hput.out]
    have hob := hrc.obs (RowO.app (hro.laterK fun b hb => (hbw2.block b (hD b hb)).trans (hbw.block b (hD b hb)).symm) (RowO.single (hx.laterK fun b hb => hbw2.block b (hD b hb))))
    refine (hob.laterK (w' := W8) (fun b hb => (o8.block b (by have := hD b hb; omega)).trans (o7.block b (by have := hD b hb; omega))) (fun b hb => (o8.block b (by have := hb.1; omega)).trans (o7.block b (by have := hb.1; omega)))).wide (fun b hb => ?_) (fun b hb => ?_)
    ·exact hb
    ·exact ⟨by have := hb.1; have := hk.size; omega, by rw [o8.size, o7.size]; exact hb.2⟩
end Go.Proofs.Ytcmcakandbpjfaa
namespace Go.Proofs.Ytcmcakandbpjfaa
set_option maxRecDepth 100000
set_option maxHeartbeats 8000000
open Go.RowKit Go.Shelf
set_option linter.unusedVariables false
attribute [local go_sem] Oper.semAt_some

theorem Asks.val {f : FuncId} {args : Array Value} {X : Prop} {W : World} {b : Bool} (h : Asks f args X W) (hb : Hid (b = true ↔ X)) : Calls Try.prog f args W fun e w' => e = .returned (.bool b) ∧ Below W.heap.size W w' := by
 refine h.mono ?_
 rintro e w' ⟨b', rfl, h', k⟩
 refine ⟨?_, k⟩
 have := hb.out
 have := h'.out
 cases b <;> cases b' <;> simp_all
end Go.Proofs.Ytcmcakandbpjfaa
namespace Go.Proofs.Ytcmcakandbpjfaa
set_option maxRecDepth 100000
set_option maxHeartbeats 8000000

def qOf (X : List Ob) (i : Int) : Int := match fnd X i with
 | some x => x.quota
 | none => 0
def usesN (X : List Ob) (o : Ob) : Int := pagN o + (o.links.map (qOf X)).sum
def holL (X : List Ob) (i : Int) : List Int := (X.filter fun d => decide (i ∈ d.links)).map Ob.id
def abvL (X : List Ob) : Nat → Int → List Int
 | 0, _ => []
 | f + 1, i => match holL X i with
  | [] => []
  | h :: _ => h :: abvL X f h
def rabv (X : List Ob) (i : Int) : List Int := if (abvL X (X.length + 1) i).length ≤ X.length then abvL X (X.length + 1) i else []
theorem sum_le {l : List Int} {f : Int → Int} {k : Int} (h : ∀ i ∈ l, 0 ≤ f i ∧ f i ≤ k) : 0 ≤ (l.map f).sum ∧ (l.map f).sum ≤ k * l.length := by
 induction l with
 | nil => simp
 | cons a r ih =>
  have h1 := h a (List.mem_cons_self ..)
  have h2 := ih fun i hi => h i (List.mem_cons_of_mem _ hi)
  rw [List.map_cons, List.sum_cons, List.length_cons]
  have e : k * ((r.length + 1 : Nat) : Int) = k * (r.length : Int) + k := by rw [Int.natCast_add, Int.mul_add]; simp
  rw [e]
  omega
end Go.Proofs.Ytcmcakandbpjfaa
namespace Go.Proofs.Ytcmcakandbpjfaa
set_option maxRecDepth 100000
set_option maxHeartbeats 8000000
open Go.RowKit Go.Shelf
set_option linter.unusedVariables false
attribute [local go_sem] Oper.semAt_some

theorem ct_at {D : Nat → Prop} {w : World} {ao : Option Addr} {n cap : Nat} {L : List Int} (h : CtD D w ao n cap L) {i : Nat} (hi : i < n) : ∃ b off, ao = some ⟨b, off, none⟩ ∧ D b ∧ w.cell? ⟨b, off + i, none⟩ = some (.int .u64 (L.getD i 0)) := by
 obtain ⟨b, off, e, hb, hc⟩ := h.2.2.2 (by omega)
 exact ⟨b, off, e, hb, hc i hi⟩
theorem getD_mem {L : List Int} {i : Nat} (h : i < L.length) : L.getD i 0 ∈ L := by
 rw [List.getD_eq_getElem?_getD, List.getElem?_eq_getElem h]; exact List.getElem_mem h
theorem isNaN_any {w : World} {a : Int} : Calls Try.prog 66 #[.int .u64 a] w fun e w' => e = .returned (.bool false) ∧ w' = w := by
 go_enter Try.func66, Try.ntmps66
 go_wp2
 go_ret
 exact ⟨rfl, rfl⟩
theorem shr_one (w : World) (t : TypeId) (x y : Operand) {v r : Int} (hr : v / 2 = r) : (do eqGuard .shr t x y (.int .u64 v) (.int .u64 1); binOp .shr t (.int .u64 v) (.int .u64 1)).run Try.prog w = .ok (.int .u64 r) w := by
 subst hr
 have e : Op.shift .shr .u64 v .u64 1 = pure (.int .u64 (v / 2)) := shift_shr .u64 .u64 v 1 (by decide) (by decide)
 simp [eqGuard_shr, binOp_shr, e]
theorem conv_ui (w : World) {m : Nat} (h : m ≤ 4096) : (convert 95 3 (.int .u64 (m : Int))).run Try.prog w = Result.ok (.int .i64 (m : Int)) w := by
 have hw : IntKind.i64.wrap (m : Int) = m := by rw [IntKind.wrap_i64]; omega
 simp [go_sem, convert, run_underlying Try.underlying95, run_underlying Try.underlying3, hw]
section
variable {ops : Array Oper} {rest : List Oper} {op : Oper} {a : Act} {Q : Exit → Act → World → Prop} {w : World}
theorem wpList_conv (hw : Region.wanted op (yielded ops a.tmps) = true) (t d : TypeId) (x : Operand) (ho : op.op = .convert t d x) (u : Value) (hx : a.eval x = u) {r : Value} (hr : (convert t d u).run Try.prog w = .ok r w) (h : wpList Try.prog ops Q rest (a.put op.dst r) w) : wpList Try.prog ops Q (op :: rest) a w := by
 refine wpList_val hw ?_ h
 subst hx
 unfold execOp
 simp only [ho]
 rw [Sem.run_bind, hr]
 rfl
theorem wpList_bin (hw : Region.wanted op (yielded ops a.tmps) = true) (f : BinOp) (t : TypeId) (x y : Operand) (t' : TypeId) (ho : op.op = .binOp f t x y t') (u v : Value) (hx : a.eval x = u) (hy : a.eval y = v) {r : Value} (hr : (do eqGuard f t x y u v; binOp f t u v).run Try.prog w = .ok r w) (h : wpList Try.prog ops Q rest (a.put op.dst r) w) : wpList Try.prog ops Q (op :: rest) a w := by
 refine wpList_val hw ?_ h
 subst hx hy
 unfold execOp
 simp only [ho]
 rw [Sem.run_bind, hr]
 rfl
end
def ObsF (E D : Nat → Prop) (w : World) (ao : Option Addr) (n cap : Nat) (X : List Ob) (Cf : Nat → Array Value) : Prop :=
 X.length = n ∧ n ≤ cap ∧ (cap ≤ 9223372036854775807 ∧ (ao = none → cap = 0)) ∧
 (0 < n → ∃ b off, ao = some ⟨b, off, none⟩ ∧ E b ∧ ∀ i, i < n → w.rangeAt b (off + i * 51) (Cf i).toList) ∧ ∀ i, i < n → ObD D w (Cf i) (oat X i)
section
variable {E E' D D' : Nat → Prop} {w w' : World} {ao : Option Addr} {n cap : Nat} {X : List Ob} {Cf : Nat → Array Value}
theorem ObsF.obs (h : ObsF E D w ao n cap X Cf) : ObsD E D w ao n cap X := by
 obtain ⟨h1, h2, h3, h4, h5⟩ := h
 refine ⟨h1, h2, h3, fun h0 => ?_⟩
 obtain ⟨b, off, e, hb, hc⟩ := h4 h0
 exact ⟨b, off, e, hb, fun i hi => ⟨Cf i, h5 i hi, hc i hi⟩⟩
theorem ObsF.laterK (h : ObsF E D w ao n cap X Cf) (k : ∀ b, D b → w'.heap[b]? = w.heap[b]?) (k' : ∀ b, E b → w'.heap[b]? = w.heap[b]?) : ObsF E D w' ao n cap X Cf := by
 obtain ⟨h1, h2, h3, h4, h5⟩ := h
 refine ⟨h1, h2, h3, fun h0 => ?_, fun i hi => (h5 i hi).laterK k⟩
 obtain ⟨b, off, e, hb, hc⟩ := h4 h0
 exact ⟨b, off, e, hb, fun i hi => range_block (hc i hi) (k' b hb)⟩
theorem ObsF.wide (h : ObsF E D w ao n cap X Cf) (k : ∀ b, D b → D' b) (k' : ∀ b, E b → E' b) : ObsF E' D' w ao n cap X Cf := by
 obtain ⟨h1, h2, h3, h4, h5⟩ := h
 refine ⟨h1, h2, h3, fun h0 => ?_, fun i hi => (h5 i hi).wide k⟩
 obtain ⟨b, off, e, hb, hc⟩ := h4 h0
 exact ⟨b, off, e, k' b hb, hc⟩
theorem ObsF.next (h : ObsF (LtN w) (LtN w) w ao n cap X Cf) (k : Below w.heap.size w w') : ObsF (LtN w') (LtN w') w' ao n cap X Cf :=
 (h.laterK (fun b hb => k.block b hb) (fun b hb => k.block b hb)).wide (fun b hb => Nat.lt_of_lt_of_le hb k.size) (fun b hb => Nat.lt_of_lt_of_le hb k.size)
end
end Go.Proofs.Ytcmcakandbpjfaa
namespace Go.Proofs.Ytcmcakandbpjfaa
set_option maxRecDepth 100000
set_option maxHeartbeats 8000000
open Go.RowKit Go.Shelf
set_option linter.unusedVariables false
attribute [local go_sem] Oper.semAt_some

section
variable {F : Fence} (hF : ∀ f, F.fn f) {N : Nat} {ops : Array Oper} {rest : List Oper} {op : Oper} {a : Act} {Q : Exit → Act → World → Prop} {w w' : World}
include hF
theorem inL_val {v : Value} (hd : ∀ c, op.op ≠ .defer c) (hw : Region.wanted op (yielded ops a.tmps) = true) (hr : (execOp a.eval op).run Try.prog w = .ok (.value v) w') (h : wpListIn F N Try.prog ops Q rest (a.put op.dst v) w') : wpListIn F N Try.prog ops Q (op :: rest) a w := by
 simp only [wpListIn, hw, if_true]
 refine ⟨fun f _ => hF f, ?_⟩
 rw [Oper.semAt_plain F _ _ hd, hr, Oper.uponIn_value]
 exact h
theorem inL_skip (hd : ∀ c, op.op ≠ .defer c) (hw : Region.wanted op (yielded ops a.tmps) = true) (hr : (execOp a.eval op).run Try.prog w = .ok .skip w') (h : wpListIn F N Try.prog ops Q rest (a.put op.dst undef) w') : wpListIn F N Try.prog ops Q (op :: rest) a w := by
 simp only [wpListIn, hw, if_true]
 refine ⟨fun f _ => hF f, ?_⟩
 rw [Oper.semAt_plain F _ _ hd, hr, Oper.uponIn_skip]
 exact h
theorem inL_loadm (hw : Region.wanted op (yielded ops a.tmps) = true) (ty : TypeId) (x : Operand) (ho : op.op = .load ty x) (b o : Nat) (hx : a.eval x = .pointer (some ⟨b, o, none⟩)) (C : Array Value) (hr : w.rangeAt b o C.toList) (d : TypeDesc)
  (hu : Try.prog.underlying ty = some d) (hd : d.isRow = true) (hi : (Try.prog.info? ty).map (·.size) = some C.size) (h : wpListIn F N Try.prog ops Q rest (a.put op.dst (.agg C)) w) : wpListIn F N Try.prog ops Q (op :: rest) a w := by
 refine inL_val hF (by rw [ho]; intro c hc; cases hc) hw ?_ h
 have := run_loadVar_mid (P := Try.prog) w b o ty C.toList d hr hu hd (by simpa using hi)
 rw [Array.toArray_toList] at this
 unfold execOp
 simp [ho, hx, Instr.loadAt, Instr.sureAddr, this]
theorem inL_loadb (hw : Region.wanted op (yielded ops a.tmps) = true) (ty : TypeId) (x : Operand) (ho : op.op = .load ty x) (B : Nat) (hx : a.eval x = .pointer (some ⟨B, 0, none⟩)) (C : Array Value) (t : TypeId) (hB : Blk w B C t) (d : TypeDesc)
  (hu : Try.prog.underlying ty = some d) (hd : d.isRow = true) (hi : (Try.prog.info? ty).map (·.size) = some C.size) (h : wpListIn F N Try.prog ops Q rest (a.put op.dst (.agg C)) w) : wpListIn F N Try.prog ops Q (op :: rest) a w :=
 inL_loadm hF hw ty x ho B 0 hx C hB.range0 d hu hd hi h
theorem inL_loadc (hw : Region.wanted op (yielded ops a.tmps) = true) (ty : TypeId) (x : Operand) (ho : op.op = .load ty x) (b o : Nat) (hx : a.eval x = .pointer (some ⟨b, o, none⟩)) (v : Value) (hv : w.cell? ⟨b, o, none⟩ = some v) (hg : ∀ w, (isAgg ty).run Try.prog w = .ok false w) (h : wpListIn F N Try.prog ops Q rest (a.put op.dst v) w) : wpListIn F N Try.prog ops Q (op :: rest) a w := by
 refine inL_val hF (by rw [ho]; intro c hc; cases hc) hw ?_ h
 have : (loadVar ty ⟨b, o, none⟩).run Try.prog w = .ok v w := by simp [loadVar, hg, hv]
 unfold execOp
 simp [ho, hx, Instr.loadAt, Instr.sureAddr, this]
theorem inL_alloc (hw : Region.wanted op (yielded ops a.tmps) = true) (ty : TypeId) (ho : op.op = .alloc ty) (z : Array Value) (hz : ∀ w, (zeroValue ty).run Try.prog w = .ok (.agg z) w)
  (h : ∀ B W, Hid (w.heap.size = B ∧ W.heap.size = B + 1) → Blk W B z ty → Below w.heap.size w W → wpListIn F N Try.prog ops Q rest (a.put op.dst (.pointer (some ⟨B, 0, none⟩))) W) : wpListIn F N Try.prog ops Q (op :: rest) a w := by
 refine inL_val hF (by rw [ho]; intro c hc; cases hc) hw (w' := w.alloc (.cells z ty)) (v := .pointer (some ⟨w.heap.size, 0, none⟩)) ?_ (h _ _ ⟨rfl, by simp⟩ (Blk.new w z ty) ((Below.refl _ w).alloc (Nat.le_refl _) _))
 unfold execOp
 simp [ho, Instr.alloc, hz, newVar, newRow, newObj, Value.cells]
 rfl
theorem inL_box (hw : Region.wanted op (yielded ops a.tmps) = true) (ty : TypeId) (x : Operand) (ho : op.op = .box ty x) (C : Array Value) (hx : a.eval x = .agg C)
  (h : ∀ B W, Hid (w.heap.size = B ∧ W.heap.size = B + 1) → Blk W B C ty → Below w.heap.size w W → wpListIn F N Try.prog ops Q rest (a.put op.dst (.pointer (some ⟨B, 0, none⟩))) W) : wpListIn F N Try.prog ops Q (op :: rest) a w := by
 refine inL_val hF (by rw [ho]; intro c hc; cases hc) hw (w' := w.alloc (.cells C ty)) (v := .pointer (some ⟨w.heap.size, 0, none⟩)) ?_ (h _ _ ⟨rfl, by simp⟩ (Blk.new w C ty) ((Below.refl _ w).alloc (Nat.le_refl _) _))
 unfold execOp
 simp [ho, hx, Instr.box, newVar, newRow, newObj, Value.cells]
 rfl
theorem inL_store_blk (hw : Region.wanted op (yielded ops a.tmps) = true) (ty : TypeId) (x y : Operand) (ho : op.op = .store ty x y) (B : Nat) (hx : a.eval x = .pointer (some ⟨B, 0, none⟩)) (C : Array Value) (hy : a.eval y = .agg C) (old : Array Value) (hB : Blk w B old ty)
  (hi : (Try.prog.info? ty).map (·.size) = some C.size) (hs : old.size = C.size) (h1 : C.all (·.oneCell') = true)
  (h : ∀ W, Blk W B C ty → Oth B w W → wpListIn F N Try.prog ops Q rest (a.put op.dst undef) W) : wpListIn F N Try.prog ops Q (op :: rest) a w := by
 obtain ⟨W, hr, hb, ho'⟩ := run_store_blk hB hi hs h1
 refine inL_skip hF (by rw [ho]; intro c hc; cases hc) hw (w' := W) ?_ (h W hb ho')
 unfold execOp
 simp only [ho, hx, hy, Instr.storeAt, Instr.sureAddr, Sem.run_bind, Sem.run_pure, Result.andThen_ok, hr]
end
end Go.Proofs.Ytcmcakandbpjfaa
namespace Go.Proofs.Ytcmcakandbpjfaa
set_option maxRecDepth 100000
set_option maxHeartbeats 8000000
open Go.RowKit Go.Shelf
set_option linter.unusedVariables false
attribute [local go_sem] Oper.semAt_some

theorem qO_le {X : List Ob} (hq : ∀ x ∈ X, 0 ≤ x.quota ∧ x.quota ≤ 4096) (i : Int) : 0 ≤ qOf X i ∧ qOf X i ≤ 4096 := by
 unfold qOf
 cases hf : fnd X i with
 | none => exact ⟨by decide, by decide⟩
 | some x => exact hq x (List.mem_of_find?_eq_some (show X.find? _ = some x from hf))
end Go.Proofs.Ytcmcakandbpjfaa
namespace Go.Proofs.Ytcmcakandbpjfaa
set_option maxRecDepth 100000
set_option maxHeartbeats 8000000
open Go.RowKit Go.Shelf
set_option linter.unusedVariables false
attribute [local go_sem] Oper.semAt_some

def sngO (o : Ob) : Bool := decide (o.kind = 2) || decide (o.kind = 4)
end Go.Proofs.Ytcmcakandbpjfaa
namespace Go.Proofs.Ytcmcakandbpjfaa
set_option maxRecDepth 100000
set_option maxHeartbeats 8000000
open Go.RowKit Go.Shelf
set_option linter.unusedVariables false
attribute [local go_sem] Oper.semAt_some

def fO (X : List Ob) (i : Int) : Ob := (fnd X i).getD zOb
end Go.Proofs.Ytcmcakandbpjfaa
namespace Go.Proofs.Ytcmcakandbpjfaa
set_option maxRecDepth 100000
set_option maxHeartbeats 8000000
open Go.RowKit Go.Shelf
set_option linter.unusedVariables false
attribute [local go_sem] Oper.semAt_some

def plcB (D O : Lb) : Bool := leqB D (joinL (raiseL O) [])
end Go.Proofs.Ytcmcakandbpjfaa
