/-
 PROVED HERE: what the document's Fit returns when it is called (a contract over this translation); small facts for the laws. What is asked stands at each.
-/
import Derived.RangeFuncNested
import Derived.Test.YtnhjfjhbmekamaaGreatZ20
import Derived.Test.YtnhjfjhbmekamaaGreatZ22
namespace Go.Proofs.YtnhjfjhbmekamaaGreat
set_option maxRecDepth 100000
set_option maxHeartbeats 8000000
open Go.RowKit Go.Shelf
set_option linter.unusedVariables false
attribute [local go_sem] Oper.semAt_some

theorem ob_cell {S : World → Prop} {P : Program} {ty : TypeId} {b o j : Nat} {v : Value} {C : Array Value} (hr : ∀ w, S w → w.rangeAt b o C.toList) (hv : C[j]? = some v) (hg : ∀ w, (isAgg ty).run P w = .ok false w) : Obl.holds P S (.load ty b (o + j) v) := fun w hS => by
 have hc : w.cell? ⟨b, o + j, none⟩ = some v := hr w hS j v (by simpa using hv)
 simp [loadVar, hg, hc]
theorem rfit_w {w : World} {t ke ro : Int} {ao : Option Addr} {n cap : Nat} {X : List Ob} (h : Obs w ao n cap X) : Asks 12 #[.agg #[.int .i64 t, .int .u64 ke, .int .u64 ro, .slice ao n cap]] (fitW ⟨t, ke, ro, X⟩ = true) w := by
 have hmx : Tryz.prog.follows .mixedOrders = true := by kernel_rfl
 have hn : Hid (X.length = n) := h.1
 have hnc := h.2.1
 have hcm := h.2.2.1.1
 have ga1 := Tryz.isAgg22
 have ga2 := Tryz.isAgg3
 have ga3 := Tryz.isAgg23
 have c0 : (#[.int .i64 t, .int .u64 ke, .int .u64 ro, .slice ao n cap] : Array Value)[0]? = some (.int .i64 t) := rfl
 have c3 : (#[.int .i64 t, .int .u64 ke, .int .u64 ro, .slice ao n cap] : Array Value)[3]? = some (.slice ao n cap) := rfl
 obtain ⟨G, hG⟩ : ∃ G : Array Value, G = #[.int .i64 t, .int .u64 ke, .int .u64 ro, .slice ao n cap] := ⟨_, rfl⟩
 rw [← hG] at c0 c3
 rw [← hG]
 clear hG
 unfold Asks
 go_enter Tryz.func12, Tryz.ntmps12
 go_wp2_with (first
  | go_skip
  | (with_reducible refine wpList_box rfl _ _ rfl G rfl ?_; intro B W hB hb hk)
  | (with_reducible refine wpList_load1 (by kernel_rfl) _ _ rfl B _ rfl _ _ hb _ (by assumption) (by assumption) ?_)
  | ((with_reducible refine wpList_test (by kernel_rfl) .lss _ _ _ _ rfl _ _ rfl rfl (tlt_int _ _ _ _ _ _) ?_ ?_) <;> intro hq)
  | ((with_reducible refine wpList_test (by kernel_rfl) .gtr _ _ _ _ rfl _ _ rfl rfl (tgt_int _ _ _ _ _ _) ?_ ?_) <;> intro hq))
 all_goals (try (go_ret; first
  | (have hl : t < 0 := Hid.out (by assumption); refine ⟨false, rfl, ⟨fun e => absurd e Bool.false_ne_true, fun e => ?_⟩, hk⟩; exfalso; have := (fitW_iff.1 e).1; omega)
  | (have hl : 1099511627776 < t := Hid.out (by assumption); refine ⟨false, rfl, ⟨fun e => absurd e Bool.false_ne_true, fun e => ?_⟩, hk⟩; exfalso; have := (fitW_iff.1 e).2.1; omega)
  | (have hl : 1024 < (n : Int) := Hid.out (by assumption); refine ⟨false, rfl, ⟨fun e => absurd e Bool.false_ne_true, fun e => ?_⟩, hk⟩; exfalso; have := (fitW_iff.1 e).2.2.1; rw [hn.out] at this; omega)
  | fail))
 have a1 : 0 ≤ t := Hid.out (by assumption)
 have a2 : t ≤ 1099511627776 := Hid.out (by assumption)
 have a3 : (n : Int) ≤ 1024 := Hid.out (by assumption)
 have hes : Hid (0 ≤ t ∧ t ≤ 1099511627776 ∧ n ≤ 1024) := ⟨by omega, by omega, by omega⟩
 clear a1 a2 a3
 clear hB
 go_loopw [3] (fun i wr => ∃ k : Nat, k ≤ n ∧ i = .int .i64 k ∧ Hid (∀ j, j < k → soundB (oat X j) = true) ∧ Hid (∀ j, j + 1 < k → (oat X j).id < (oat X (j + 1)).id) ∧ Blk wr B G 25 ∧ Below w.heap.size w wr) (fun i _ => n - (intOf i).toNat)
 case atStart => exact ⟨0, Nat.zero_le _, rfl, fun j hj => absurd hj (by omega), fun j hj => absurd hj (by omega), hb, hk⟩
 case round =>
  clear hb hk
  obtain ⟨k, hk, rfl, hal, hri, hb, hbw⟩ := hrel
  have hbs := hbw.size
  by_cases hkn : k < n
  ·obtain ⟨j, hj0⟩ : ∃ j, Hid (j = k - 1) := ⟨_, rfl⟩
   have hjn : j < n := by have := hj0.out; omega
   obtain ⟨b, off, C, rfl, hbb, hC, hr⟩ := obs_at (obs_next h hbw) hkn
   obtain ⟨b', off', C', e', hbb', hC', hr'⟩ := obs_at (obs_next h hbw) hjn
   cases e'
   have hkn' : (k : Int) < n := by omega
   have hz := hC.size
   go_wp2_with (first
    | (with_reducible refine wpList_load1 (by kernel_rfl) _ _ rfl B _ rfl _ _ hb _ (by assumption) (by assumption) ?_))
   refine PgM.region_out (S := fun W => Blk W B G 25 ∧ W.rangeAt b (off + k * 51) C.toList ∧ W.rangeAt b (off + j * 51) C'.toList) hmx ⟨hb.next (Below.refl _ _).drew, range_block hr ((Below.refl _ wr).drew.block b hbb), range_block hr' ((Below.refl _ wr).drew.block b hbb)⟩ (fun hS => ?_)
   have hkd := (Below.refl wr.heap.size wr).drew
   have hC0 := hC.next hkd
   have hb1 := hbw.trans (hkd.mono hbs)
   have hbb1 : b < wr.drew.heap.size := Nat.lt_of_lt_of_le hbb hkd.size
   generalize wr.drew = W1 at hS hC0 hb1 hbb1 ⊢
   clear hkd
   refine wpAnyH_sym (by kernel_rfl) (fun _ _ _ _ _ h => h) hS [(0, none), (1, some (.slice (some ⟨b, off, none⟩) n cap)), (2, none), (3, some (.pointer (some ⟨b, off + k * 51, none⟩))), (4, some (.agg C))] (l' := #[true, true, true, true, true, false, false, false, false, false, false, false, false, false, false, false, false, false, false, false, false, false, false, false, false, false, false]) (a' := { tmps := #[.agg G, .pointer (some ⟨B, 0, none⟩), u2, .int .i64 k, .pointer (some ⟨B, 0, none⟩), .int .i64 t, .bool false, .bool false, .pointer (some ⟨B, 0, none⟩), .int .i64 t, .bool false, .bool false, .bool false, .pointer (some ⟨B, 3, none⟩), .slice (some ⟨b, off, none⟩) n cap, .int .i64 n, .bool false, .bool false, .int .i64 k, .pointer (some ⟨B, 3, none⟩), .slice (some ⟨b, off, none⟩) n cap, .int .i64 n, .bool true, u23, u24, .pointer (some ⟨B, 3, none⟩), .slice (some ⟨b, off, none⟩) n cap, .int .i64 k, .pointer (some ⟨b, off + k * 51, none⟩), .agg C, u30, u31, u32, u33, u34, u35, u36, u37, u38, u39, u40, u41, u42, u43, u44, u45, u46, u47, u48, u49, u50, u51], defers := [] }) (obs := [.load 23 B 3 (.slice (some ⟨b, off, none⟩) n cap), .ia 23 (.slice (some ⟨b, off, none⟩) n cap) (.int .i64 k) (.pointer (some ⟨b, off + k * 51, none⟩)), .load 43 b (off + k * 51) (.agg C)]) (n := 22) (by kernel_rfl) (by kernel_rfl) ⟨ob_load1 (fun _ h => h.1) c3 Tryz.isAgg23, ia_at hkn, ob_loadm (fun _ h => h.2.1) Tryz.underlying43 (by kernel_rfl) (size40C hz), trivial⟩ ?_
   refine wpAnyH_askL (i := 5) (fuel := 21) (f := 13) (vs := [.agg C]) (d := some 30) (by kernel_rfl) (by kernel_rfl) (by kernel_rfl) Tryz.call13 (rsound_any hC0) (fun W2 hk2 => (⟨hS.1.next hk2, range_block hS.2.1 (hk2.block b hbb1), range_block hS.2.2 (hk2.block b hbb1)⟩ : Blk W2 B G 25 ∧ W2.rangeAt b (off + k * 51) C.toList ∧ W2.rangeAt b (off + j * 51) C'.toList)) ?_ ?_
   ·intro W2 hq hk2 hS2
    have hb2 := hb1.trans (hk2.mono hb1.size)
    rcases Nat.eq_zero_or_pos k with h0 | h0
    ·have hk0 : Hid (¬ (0 : Int) < k) := by show ¬ _; omega
     have hup : Hid (∀ j, j + 1 < k + 1 → (oat X j).id < (oat X (j + 1)).id) := by
      refine (?_ : ∀ j, j + 1 < k + 1 → (oat X j).id < (oat X (j + 1)).id)
      intro i hi; omega
     refine wpAnyH_sym (by kernel_rfl) (fun _ _ _ _ _ h => h) hS2 [(6, none), (7, none), (8, none), (9, some (.bool false)), (10, none), (11, none), (12, none), (13, none), (14, none), (15, none), (16, none), (17, none), (18, none), (19, none), (20, none), (21, none), (22, none), (23, none), (24, none), (25, none), (26, none)] (l' := #[true, true, true, true, true, true, true, true, true, true, true, true, true, true, true, true, true, true, true, true, true, true, true, true, true, true, true]) (a' := { tmps := #[.agg G, .pointer (some ⟨B, 0, none⟩), u2, .int .i64 k, .pointer (some ⟨B, 0, none⟩), .int .i64 t, .bool false, .bool false, .pointer (some ⟨B, 0, none⟩), .int .i64 t, .bool false, .bool false, .bool false, .pointer (some ⟨B, 3, none⟩), .slice (some ⟨b, off, none⟩) n cap, .int .i64 n, .bool false, .bool false, .int .i64 k, .pointer (some ⟨B, 3, none⟩), .slice (some ⟨b, off, none⟩) n cap, .int .i64 n, .bool true, u23, u24, .pointer (some ⟨B, 3, none⟩), .slice (some ⟨b, off, none⟩) n cap, .int .i64 k, .pointer (some ⟨b, off + k * 51, none⟩), .agg C, .bool true, .bool false, .bool false, .int .i64 k, .bool false, .bool false, ud, ud, ud, ud, ud, ud, ud, ud, ud, ud, ud, ud, ud, undef, .bool false, .bool false], defers := [] }) (obs := [.test .gtr 3 (.tmp 33) (.const (.int .i64 0)) (.int .i64 k) (.int .i64 0) (.bool false)]) (n := 0) (by kernel_rfl) (by kernel_rfl) ⟨ob_no (fun _ => tgt_int _ _ _ _ _ _) hk0, trivial⟩ ?_
     refine wpAnyH_done (by kernel_rfl) ?_ _
     have hx1 := hS2.1
     clear hS hS2 hC0
     go_wp2
     go_roundw
     case rel => exact ⟨k + 1, by omega, by go_num, fn_succ hal.out hq.out, hup, hx1, hb2⟩
     case measure => simp [intOf]; omega
    ·have hk0 : Hid ((0 : Int) < k) := by show _ < _; omega
     have hj : Hid (k = j + 1) := by have := hj0.out; show _ = _; omega
     have hw : IntKind.i64.wrap ((k : Int) - 1) = (j : Int) := by have := hj.out; rw [IntKind.wrap_i64]; omega
     by_cases hxy : (oat X j).id < (oat X k).id
     ·have hup : Hid (∀ i, i + 1 < k + 1 → (oat X i).id < (oat X (i + 1)).id) := by
       refine (?_ : ∀ i, i + 1 < k + 1 → (oat X i).id < (oat X (i + 1)).id)
       intro i hi
       rcases Nat.lt_or_ge (i + 1) k with h | h
       ·exact hri.out i h
       ·have hij : i = j := by have := hj.out; omega
        rw [hij, ← hj.out]; exact hxy
      have hd : Hid (¬ (oat X k).id ≤ (oat X j).id) := by show ¬ _; omega
      refine wpAnyH_sym (by kernel_rfl) (fun _ _ _ _ _ h => h) hS2 [(6, none), (7, none), (8, none), (9, some (.bool true)), (10, none), (11, none), (12, some (.slice (some ⟨b, off, none⟩) n cap)), (13, none), (14, some (.int .i64 j)), (15, some (.pointer (some ⟨b, off + j * 51, none⟩))), (16, none), (17, some (.int .u64 (oat X j).id)), (18, none), (19, some (.slice (some ⟨b, off, none⟩) n cap)), (20, none), (21, some (.pointer (some ⟨b, off + k * 51, none⟩))), (22, none), (23, some (.int .u64 (oat X k).id)), (24, some (.bool false)), (25, none), (26, none)] (l' := #[true, true, true, true, true, true, true, true, true, true, true, true, true, true, true, true, true, true, true, true, true, true, true, true, true, true, true]) (a' := { tmps := #[.agg G, .pointer (some ⟨B, 0, none⟩), u2, .int .i64 k, .pointer (some ⟨B, 0, none⟩), .int .i64 t, .bool false, .bool false, .pointer (some ⟨B, 0, none⟩), .int .i64 t, .bool false, .bool false, .bool false, .pointer (some ⟨B, 3, none⟩), .slice (some ⟨b, off, none⟩) n cap, .int .i64 n, .bool false, .bool false, .int .i64 k, .pointer (some ⟨B, 3, none⟩), .slice (some ⟨b, off, none⟩) n cap, .int .i64 n, .bool true, u23, u24, .pointer (some ⟨B, 3, none⟩), .slice (some ⟨b, off, none⟩) n cap, .int .i64 k, .pointer (some ⟨b, off + k * 51, none⟩), .agg C, .bool true, .bool false, .bool false, .int .i64 k, .bool true, .bool true, .pointer (some ⟨B, 3, none⟩), .slice (some ⟨b, off, none⟩) n cap, .int .i64 k, .int .i64 j, .pointer (some ⟨b, off + j * 51, none⟩), .pointer (some ⟨b, off + j * 51 + 0, none⟩), .int .u64 (oat X j).id, .pointer (some ⟨B, 3, none⟩), .slice (some ⟨b, off, none⟩) n cap, .int .i64 k, .pointer (some ⟨b, off + k * 51, none⟩), .pointer (some ⟨b, off + k * 51 + 0, none⟩), .int .u64 (oat X k).id, .bool false, .bool false, .bool false], defers := [] }) (obs := [.test .gtr 3 (.tmp 33) (.const (.int .i64 0)) (.int .i64 k) (.int .i64 0) (.bool true), .load 23 B 3 (.slice (some ⟨b, off, none⟩) n cap), .test .sub 3 (.tmp 38) (.const (.int .i64 1)) (.int .i64 k) (.int .i64 1) (.int .i64 j), .ia 23 (.slice (some ⟨b, off, none⟩) n cap) (.int .i64 j) (.pointer (some ⟨b, off + j * 51, none⟩)), .load 22 b (off + j * 51 + 0) (.int .u64 (oat X j).id), .load 23 B 3 (.slice (some ⟨b, off, none⟩) n cap), .ia 23 (.slice (some ⟨b, off, none⟩) n cap) (.int .i64 k) (.pointer (some ⟨b, off + k * 51, none⟩)), .load 22 b (off + k * 51 + 0) (.int .u64 (oat X k).id), .test .geq 22 (.tmp 42) (.tmp 48) (.int .u64 (oat X j).id) (.int .u64 (oat X k).id) (.bool false)]) (n := 0) (by kernel_rfl) (by kernel_rfl) ⟨ob_yes (fun _ => tgt_int _ _ _ _ _ _) hk0, ob_load1 (fun _ h => h.1) c3 Tryz.isAgg23, sub_at hj hw, ia_at hjn, ob_cell (j := 0) (fun _ h => h.2.2) hC'.id Tryz.isAgg22, ob_load1 (fun _ h => h.1) c3 Tryz.isAgg23, ia_at hkn, ob_cell (j := 0) (fun _ h => h.2.1) hC.id Tryz.isAgg22, ob_no (fun _ => tge_int _ _ _ _ _ _) hd, trivial⟩ ?_
      refine wpAnyH_done (by kernel_rfl) ?_ _
      have hx1 := hS2.1
      clear hS hS2 hC0
      go_wp2
      go_roundw
      case rel => exact ⟨k + 1, by omega, by go_num, fn_succ hal.out hq.out, hup, hx1, hb2⟩
      case measure => simp [intOf]; omega
     ·have hd : Hid ((oat X k).id ≤ (oat X j).id) := by show _ ≤ _; omega
      have hno : Hid (¬ idsB X = true) := by
       refine (?_ : ¬ idsB X = true)
       intro e
       have := ids_iff.1 e j (by rw [hn.out, ← hj.out]; exact hkn)
       rw [← hj.out] at this
       exact hxy this
      refine wpAnyH_sym (by kernel_rfl) (fun _ _ _ _ _ h => h) hS2 [(6, none), (7, none), (8, none), (9, some (.bool true)), (10, none), (11, none), (12, some (.slice (some ⟨b, off, none⟩) n cap)), (13, none), (14, some (.int .i64 j)), (15, some (.pointer (some ⟨b, off + j * 51, none⟩))), (16, none), (17, some (.int .u64 (oat X j).id)), (18, none), (19, some (.slice (some ⟨b, off, none⟩) n cap)), (20, none), (21, some (.pointer (some ⟨b, off + k * 51, none⟩))), (22, none), (23, some (.int .u64 (oat X k).id)), (24, some (.bool true)), (25, none), (26, none)] (l' := #[true, true, true, true, true, true, true, true, true, true, true, true, true, true, true, true, true, true, true, true, true, true, true, true, true, true, true]) (a' := { tmps := #[.agg G, .pointer (some ⟨B, 0, none⟩), u2, .int .i64 k, .pointer (some ⟨B, 0, none⟩), .int .i64 t, .bool false, .bool false, .pointer (some ⟨B, 0, none⟩), .int .i64 t, .bool false, .bool false, .bool false, .pointer (some ⟨B, 3, none⟩), .slice (some ⟨b, off, none⟩) n cap, .int .i64 n, .bool false, .bool false, .int .i64 k, .pointer (some ⟨B, 3, none⟩), .slice (some ⟨b, off, none⟩) n cap, .int .i64 n, .bool true, u23, u24, .pointer (some ⟨B, 3, none⟩), .slice (some ⟨b, off, none⟩) n cap, .int .i64 k, .pointer (some ⟨b, off + k * 51, none⟩), .agg C, .bool true, .bool false, .bool false, .int .i64 k, .bool true, .bool true, .pointer (some ⟨B, 3, none⟩), .slice (some ⟨b, off, none⟩) n cap, .int .i64 k, .int .i64 j, .pointer (some ⟨b, off + j * 51, none⟩), .pointer (some ⟨b, off + j * 51 + 0, none⟩), .int .u64 (oat X j).id, .pointer (some ⟨B, 3, none⟩), .slice (some ⟨b, off, none⟩) n cap, .int .i64 k, .pointer (some ⟨b, off + k * 51, none⟩), .pointer (some ⟨b, off + k * 51 + 0, none⟩), .int .u64 (oat X k).id, .bool true, .bool true, .bool true], defers := [] }) (obs := [.test .gtr 3 (.tmp 33) (.const (.int .i64 0)) (.int .i64 k) (.int .i64 0) (.bool true), .load 23 B 3 (.slice (some ⟨b, off, none⟩) n cap), .test .sub 3 (.tmp 38) (.const (.int .i64 1)) (.int .i64 k) (.int .i64 1) (.int .i64 j), .ia 23 (.slice (some ⟨b, off, none⟩) n cap) (.int .i64 j) (.pointer (some ⟨b, off + j * 51, none⟩)), .load 22 b (off + j * 51 + 0) (.int .u64 (oat X j).id), .load 23 B 3 (.slice (some ⟨b, off, none⟩) n cap), .ia 23 (.slice (some ⟨b, off, none⟩) n cap) (.int .i64 k) (.pointer (some ⟨b, off + k * 51, none⟩)), .load 22 b (off + k * 51 + 0) (.int .u64 (oat X k).id), .test .geq 22 (.tmp 42) (.tmp 48) (.int .u64 (oat X j).id) (.int .u64 (oat X k).id) (.bool true)]) (n := 0) (by kernel_rfl) (by kernel_rfl) ⟨ob_yes (fun _ => tgt_int _ _ _ _ _ _) hk0, ob_load1 (fun _ h => h.1) c3 Tryz.isAgg23, sub_at hj hw, ia_at hjn, ob_cell (j := 0) (fun _ h => h.2.2) hC'.id Tryz.isAgg22, ob_load1 (fun _ h => h.1) c3 Tryz.isAgg23, ia_at hkn, ob_cell (j := 0) (fun _ h => h.2.1) hC.id Tryz.isAgg22, ob_yes (fun _ => tge_int _ _ _ _ _ _) hd, trivial⟩ ?_
      refine wpAnyH_done (by kernel_rfl) ?_ _
      have hx1 := hS2.1
      clear hS hS2 hC0
      go_wp2
      go_ret
      exact askP_no hno hb2 (fun e => (fitW_iff.1 e).2.2.2.1)
   ·intro W2 hq hk2 hS2
    have hb2 := hb1.trans (hk2.mono hb1.size)
    refine wpAnyH_sym (by kernel_rfl) (fun _ _ _ _ _ h => h) hS2 [(6, none), (7, none), (8, none), (9, none), (10, none), (11, none), (12, none), (13, none), (14, none), (15, none), (16, none), (17, none), (18, none), (19, none), (20, none), (21, none), (22, none), (23, none), (24, none), (25, none), (26, none)] (l' := #[true, true, true, true, true, true, true, true, true, true, true, true, true, true, true, true, true, true, true, true, true, true, true, true, true, true, true]) (a' := { tmps := #[.agg G, .pointer (some ⟨B, 0, none⟩), u2, .int .i64 k, .pointer (some ⟨B, 0, none⟩), .int .i64 t, .bool false, .bool false, .pointer (some ⟨B, 0, none⟩), .int .i64 t, .bool false, .bool false, .bool false, .pointer (some ⟨B, 3, none⟩), .slice (some ⟨b, off, none⟩) n cap, .int .i64 n, .bool false, .bool false, .int .i64 k, .pointer (some ⟨B, 3, none⟩), .slice (some ⟨b, off, none⟩) n cap, .int .i64 n, .bool true, u23, u24, .pointer (some ⟨B, 3, none⟩), .slice (some ⟨b, off, none⟩) n cap, .int .i64 k, .pointer (some ⟨b, off + k * 51, none⟩), .agg C, .bool false, .bool true, .bool true, ud, ud, ud, ud, ud, ud, ud, ud, ud, ud, ud, ud, ud, ud, ud, ud, ud, undef, .bool true], defers := [] }) (obs := []) (n := 0) (by kernel_rfl) (by kernel_rfl) trivial ?_
    refine wpAnyH_done (by kernel_rfl) ?_ _
    have hx1 := hS2.1
    clear hS hS2 hC0
    go_wp2
    go_ret
    exact askP_no hq hb2 (fun e => (fitW_iff.1 e).2.2.2.2 k (by rw [hn.out]; exact hkn))
  ·obtain rfl : k = n := by omega
   go_wp2_with (first
    | (with_reducible refine wpList_load1 (by kernel_rfl) _ _ rfl B _ rfl _ _ hb _ (by assumption) (by assumption) ?_))
   go_ret
   exact askP_yes (fitW_iff.2 ⟨hes.out.1, hes.out.2.1, by rw [hn.out]; exact hes.out.2.2, ids_iff.2 fun i hi => hri.out i (by rw [hn.out] at hi; exact hi), fun i hi => hal.out i (by rw [hn.out] at hi; exact hi)⟩) hbw
end Go.Proofs.YtnhjfjhbmekamaaGreat
namespace Go.Proofs.YtnhjfjhbmekamaaGreat
set_option maxRecDepth 100000
set_option maxHeartbeats 8000000
open Go.RowKit Go.Shelf
set_option linter.unusedVariables false
attribute [local go_sem] Oper.semAt_some

theorem smalls_put {X : List Ob} {x : Ob} (h : Smalls X) (k : Small x) : Smalls (puR X x) := fun y hy => by
 rcases mem_puR.1 hy with rfl | ⟨q, _⟩
 ·exact k
 ·exact h y q
end Go.Proofs.YtnhjfjhbmekamaaGreat
namespace Go.Proofs.YtnhjfjhbmekamaaGreat
set_option maxRecDepth 100000
set_option maxHeartbeats 8000000
open Go.RowKit Go.Shelf
set_option linter.unusedVariables false
attribute [local go_sem] Oper.semAt_some

section
variable {F : Fence} (hF : ∀ f, F.fn f) {N : Nat} {ops : Array Oper} {rest : List Oper} {op : Oper} {a : Act} {Q : Exit → Act → World → Prop} {w w' : World}
include hF
theorem inL_val {v : Value} (hd : ∀ c, op.op ≠ .defer c) (hw : Region.wanted op (yielded ops a.tmps) = true) (hr : (execOp a.eval op).run Tryz.prog w = .ok (.value v) w') (h : wpListIn F N Tryz.prog ops Q rest (a.put op.dst v) w') : wpListIn F N Tryz.prog ops Q (op :: rest) a w := by
 simp only [wpListIn, hw, if_true]
 refine ⟨fun f _ => hF f, ?_⟩
 rw [Oper.semAt_plain F _ _ hd, hr, Oper.uponIn_value]
 exact h
theorem inL_skip (hd : ∀ c, op.op ≠ .defer c) (hw : Region.wanted op (yielded ops a.tmps) = true) (hr : (execOp a.eval op).run Tryz.prog w = .ok .skip w') (h : wpListIn F N Tryz.prog ops Q rest (a.put op.dst undef) w') : wpListIn F N Tryz.prog ops Q (op :: rest) a w := by
 simp only [wpListIn, hw, if_true]
 refine ⟨fun f _ => hF f, ?_⟩
 rw [Oper.semAt_plain F _ _ hd, hr, Oper.uponIn_skip]
 exact h
theorem inL_loadm (hw : Region.wanted op (yielded ops a.tmps) = true) (ty : TypeId) (x : Operand) (ho : op.op = .load ty x) (b o : Nat) (hx : a.eval x = .pointer (some ⟨b, o, none⟩)) (C : Array Value) (hr : w.rangeAt b o C.toList) (d : TypeDesc)
  (hu : Tryz.prog.underlying ty = some d) (hd : d.isRow = true) (hi : (Tryz.prog.info? ty).map (·.size) = some C.size) (h : wpListIn F N Tryz.prog ops Q rest (a.put op.dst (.agg C)) w) : wpListIn F N Tryz.prog ops Q (op :: rest) a w := by
 refine inL_val hF (by rw [ho]; intro c hc; cases hc) hw ?_ h
 have := run_loadVar_mid (P := Tryz.prog) w b o ty C.toList d hr hu hd (by simpa using hi)
 rw [Array.toArray_toList] at this
 unfold execOp
 simp [ho, hx, Instr.loadAt, Instr.sureAddr, this]
theorem inL_loadb (hw : Region.wanted op (yielded ops a.tmps) = true) (ty : TypeId) (x : Operand) (ho : op.op = .load ty x) (B : Nat) (hx : a.eval x = .pointer (some ⟨B, 0, none⟩)) (C : Array Value) (t : TypeId) (hB : Blk w B C t) (d : TypeDesc)
  (hu : Tryz.prog.underlying ty = some d) (hd : d.isRow = true) (hi : (Tryz.prog.info? ty).map (·.size) = some C.size) (h : wpListIn F N Tryz.prog ops Q rest (a.put op.dst (.agg C)) w) : wpListIn F N Tryz.prog ops Q (op :: rest) a w :=
 inL_loadm hF hw ty x ho B 0 hx C hB.range0 d hu hd hi h
theorem inL_alloc (hw : Region.wanted op (yielded ops a.tmps) = true) (ty : TypeId) (ho : op.op = .alloc ty) (z : Array Value) (hz : ∀ w, (zeroValue ty).run Tryz.prog w = .ok (.agg z) w)
  (h : ∀ B W, Hid (w.heap.size = B ∧ W.heap.size = B + 1) → Blk W B z ty → Below w.heap.size w W → wpListIn F N Tryz.prog ops Q rest (a.put op.dst (.pointer (some ⟨B, 0, none⟩))) W) : wpListIn F N Tryz.prog ops Q (op :: rest) a w := by
 refine inL_val hF (by rw [ho]; intro c hc; cases hc) hw (w' := w.alloc (.cells z ty)) (v := .pointer (some ⟨w.heap.size, 0, none⟩)) ?_ (h _ _ ⟨rfl, by simp⟩ (Blk.new w z ty) ((Below.refl _ w).alloc (Nat.le_refl _) _))
 unfold execOp
 simp [ho, Instr.alloc, hz, newVar, newRow, newObj, Value.cells]
 rfl
theorem inL_box (hw : Region.wanted op (yielded ops a.tmps) = true) (ty : TypeId) (x : Operand) (ho : op.op = .box ty x) (C : Array Value) (hx : a.eval x = .agg C)
  (h : ∀ B W, Hid (w.heap.size = B ∧ W.heap.size = B + 1) → Blk W B C ty → Below w.heap.size w W → wpListIn F N Tryz.prog ops Q rest (a.put op.dst (.pointer (some ⟨B, 0, none⟩))) W) : wpListIn F N Tryz.prog ops Q (op :: rest) a w := by
 refine inL_val hF (by rw [ho]; intro c hc; cases hc) hw (w' := w.alloc (.cells C ty)) (v := .pointer (some ⟨w.heap.size, 0, none⟩)) ?_ (h _ _ ⟨rfl, by simp⟩ (Blk.new w C ty) ((Below.refl _ w).alloc (Nat.le_refl _) _))
 unfold execOp
 simp [ho, hx, Instr.box, newVar, newRow, newObj, Value.cells]
 rfl
theorem inL_store_blk (hw : Region.wanted op (yielded ops a.tmps) = true) (ty : TypeId) (x y : Operand) (ho : op.op = .store ty x y) (B : Nat) (hx : a.eval x = .pointer (some ⟨B, 0, none⟩)) (C : Array Value) (hy : a.eval y = .agg C) (old : Array Value) (hB : Blk w B old ty)
  (hi : (Tryz.prog.info? ty).map (·.size) = some C.size) (hs : old.size = C.size) (h1 : C.all (·.oneCell') = true)
  (h : ∀ W, Blk W B C ty → Oth B w W → wpListIn F N Tryz.prog ops Q rest (a.put op.dst undef) W) : wpListIn F N Tryz.prog ops Q (op :: rest) a w := by
 obtain ⟨W, hr, hb, ho'⟩ := run_store_blk hB hi hs h1
 refine inL_skip hF (by rw [ho]; intro c hc; cases hc) hw (w' := W) ?_ (h W hb ho')
 unfold execOp
 simp only [ho, hx, hy, Instr.storeAt, Instr.sureAddr, Sem.run_bind, Sem.run_pure, Result.andThen_ok, hr]
end
end Go.Proofs.YtnhjfjhbmekamaaGreat
namespace Go.Proofs.YtnhjfjhbmekamaaGreat
set_option maxRecDepth 100000
set_option maxHeartbeats 8000000
open Go.RowKit Go.Shelf
set_option linter.unusedVariables false
attribute [local go_sem] Oper.semAt_some

abbrev Hl := List (Int × (Int × Int))
def hv (p : Int × Int) : Value := .agg #[.int .i64 p.1, .int .u64 p.2]
def lkH (k : Int) : Hl → Int × Int
 | [] => (0, 0)
 | p :: l => if p.1 = k then p.2 else lkH k l
def updH (k : Int) (v : Int × Int) : Hl → Hl
 | [] => [(k, v)]
 | p :: l => if p.1 = k then (k, v) :: l else p :: updH k v l
theorem lk_upd (k : Int) (v : Int × Int) (j : Int) : ∀ l : Hl, lkH j (updH k v l) = if j = k then v else lkH j l
 | [] => by unfold updH lkH; by_cases q : k = j <;> simp [q, lkH]; intro e; exact absurd e.symm q
 | p :: l => by
  have ih := lk_upd k v j l
  unfold updH
  by_cases q : p.1 = k
  ·rw [if_pos q]
   by_cases r : j = k
   ·subst r; simp [lkH]
   ·have r' : ¬k = j := fun e => r e.symm
    have r2 : ¬p.1 = j := fun e => r (e.symm.trans q)
    simp [lkH, r, r', r2]
  ·rw [if_neg q]
   by_cases r : p.1 = j
   ·have : ¬j = k := fun e => q (r.trans e)
    simp [lkH, r, this]
   ·simp only [lkH, if_neg r]; exact ih
def fndI (k : Int) : Hl → Nat → Option (Nat × Value)
 | [], _ => none
 | p :: l, i => if p.1 = k then some (i, hv p.2) else fndI k l (i + 1)
def kv (e : MapEntry) : Value × Value := (e.key, e.val)
def ekv (p : Int × (Int × Int)) : Value × Value := (.int .u64 p.1, hv p.2)
theorem find_h (k : Int) (kd : IntKind) : ∀ (es : List MapEntry) (l : Hl) (i : Nat), es.map kv = l.map ekv → Instr.findNow (.int kd) (.int .u64 k) es i = some (fndI k l i)
 | [], [], i, _ => rfl
 | [], _ :: _, i, h => by cases h
 | _ :: _, [], i, h => by cases h
 | e :: es, p :: l, i, h => by
  simp only [List.map_cons, List.cons.injEq] at h
  obtain ⟨h1, h2⟩ := h
  have hk : e.key = .int .u64 p.1 := congrArg Prod.fst h1
  have hvl : e.val = hv p.2 := congrArg Prod.snd h1
  unfold Instr.findNow fndI
  rw [hk, hvl]
  by_cases q : p.1 = k
  ·subst q; simp [Instr.sameNow]
  ·have q' : ¬k = p.1 := fun e => q e.symm
   rw [if_neg q, ← find_h k kd es l (i + 1) h2]
   have q2 : (k == p.1) = false := by simpa using q'
   simp only [Instr.sameNow, q2, if_true]
theorem fnd_lk (k : Int) : ∀ (l : Hl) (i : Nat), (∀ j v, fndI k l i = some (j, v) → v = hv (lkH k l)) ∧ (fndI k l i = none → lkH k l = (0, 0))
 | [], i => ⟨fun j v h => (by cases h), fun _ => rfl⟩
 | p :: l, i => by
  obtain ⟨h1, h2⟩ := fnd_lk k l (i + 1)
  unfold fndI lkH
  by_cases q : p.1 = k
  ·rw [if_pos q, if_pos q]
   exact ⟨fun j v e => (by cases e; rfl), fun e => (by cases e)⟩
  ·rw [if_neg q, if_neg q]
   exact ⟨h1, h2⟩
theorem fnd_upd (k : Int) (v : Int × Int) : ∀ (es : List MapEntry) (l : Hl) (i : Nat), es.map kv = l.map ekv →
  (∀ j u, fndI k l i = some (j, u) → ∃ m, j = i + m ∧ (∃ e, es[m]? = some e ∧ e.key = .int .u64 k) ∧ (es.modify m fun (e : MapEntry) => { e with key := .int .u64 k, val := hv v }).map kv = (updH k v l).map ekv) ∧
  (fndI k l i = none → ∀ b, (es ++ [({ key := .int .u64 k, val := hv v, born := b } : MapEntry)]).map kv = (updH k v l).map ekv)
 | [], [], i, _ => ⟨fun j u h => (by cases h), fun _ b => rfl⟩
 | [], _ :: _, i, h => by cases h
 | _ :: _, [], i, h => by cases h
 | e :: es, p :: l, i, h => by
  simp only [List.map_cons, List.cons.injEq] at h
  obtain ⟨h1, h2⟩ := h
  have hk : e.key = .int .u64 p.1 := congrArg Prod.fst h1
  obtain ⟨g1, g2⟩ := fnd_upd k v es l (i + 1) h2
  unfold fndI updH
  by_cases q : p.1 = k
  ·rw [if_pos q, if_pos q]
   refine ⟨fun j u e' => ?_, fun e' => (by cases e')⟩
   cases e'
   refine ⟨0, rfl, ⟨e, rfl, by rw [hk, q]⟩, ?_⟩
   simp only [List.modify_zero_cons, List.map_cons, h2]
   rfl
  ·rw [if_neg q, if_neg q]
   refine ⟨fun j u e' => ?_, fun e' b => ?_⟩
   ·obtain ⟨m, hm, he, hq⟩ := g1 j u e'
    refine ⟨m + 1, by omega, by simpa using he, ?_⟩
    simp only [List.modify_succ_cons, List.map_cons, hq, h1]
   ·simp only [List.cons_append, List.map_cons, g2 e' b, h1]
def MapF (W : World) (M : Nat) (f : Int → Int × Int) : Prop := ∃ (es : Array MapEntry) (c : Nat) (l : Hl), W.heap[M]? = some (.map es c) ∧ es.toList.map kv = l.map ekv ∧ ∀ k, lkH k l = f k
theorem MapF.lt {W : World} {M : Nat} {f : Int → Int × Int} (h : MapF W M f) : M < W.heap.size := by
 obtain ⟨es, c, l, h1, _⟩ := h
 exact (Array.getElem?_eq_some_iff.1 h1).1
theorem MapF.block {W W' : World} {M : Nat} {f : Int → Int × Int} (h : MapF W M f) (k : W'.heap[M]? = W.heap[M]?) : MapF W' M f := by
 obtain ⟨es, c, l, h1, h2⟩ := h
 exact ⟨es, c, l, k.trans h1, h2⟩
theorem MapF.next {W W' : World} {M : Nat} {f : Int → Int × Int} (h : MapF W M f) (k : Below W.heap.size W W') : MapF W' M f := h.block (k.block M h.lt)
theorem u64_ok (e : Bool) (k : Int) (W : World) : (Instr.checkKey e 10000 22 (.int .u64 k)).run Tryz.prog W = .ok () W := by
 show (Instr.checkKey e (9999 + 1) 22 (.int .u64 k)).run Tryz.prog W = .ok () W
 generalize 9999 = n
 unfold Instr.checkKey
 simp [run_underlying Tryz.underlying22, Result.andThen]
theorem map_get {W : World} {M : Nat} {f : Int → Int × Int} (h : MapF W M f) (k : Int) : (Instr.lookup 71 (.map (some M)) (.int .u64 k) false).run Tryz.prog W = .ok (hv (f k)) W := by
 obtain ⟨es, c, l, h1, h2, h3⟩ := h
 have ho : (getObj M).run Tryz.prog W = .ok (.map es c) W := by simp [getObj, Sem.run, h1]
 obtain ⟨g1, g2⟩ := fnd_lk k l 0
 have hf : (Instr.findKey 22 (.int .u64 k) es.toList).run Tryz.prog W = .ok (fndI k l 0) W := by
  simp [Instr.findKey, run_underlying Tryz.underlying22, Result.andThen, find_h k _ es.toList l 0 h2]
 rw [← h3 k]
 unfold Instr.lookup
 cases hc : fndI k l 0 with
 | none =>
  rw [hc] at hf
  simp [run_underlying Tryz.underlying71, Result.andThen, ho, u64_ok, hf, g2 hc]
  rfl
 | some q =>
  obtain ⟨j, v⟩ := q
  rw [hc] at hf
  simp [run_underlying Tryz.underlying71, Result.andThen, ho, u64_ok, hf, g1 j v hc]
theorem map_put {W : World} {M : Nat} {f : Int → Int × Int} (h : MapF W M f) (k : Int) (v : Int × Int) : ∃ o, (Instr.mapUpdate 71 (.map (some M)) (.int .u64 k) (hv v)).run Tryz.prog W = .ok () (W.putObj M o) ∧ MapF (W.putObj M o) M fun j => if j = k then v else f j := by
 have hl := h.lt
 obtain ⟨es, c, l, h1, h2, h3⟩ := h
 have ho : (getObj M).run Tryz.prog W = .ok (.map es c) W := by simp [getObj, Sem.run, h1]
 have hs : ∀ o, (setObj M o).run Tryz.prog W = .ok () (W.putObj M o) := fun o => by simp [setObj, Sem.run, h1, World.putObj]
 obtain ⟨g1, g2⟩ := fnd_upd k v es.toList l 0 h2
 have hf : (Instr.findKey 22 (.int .u64 k) es.toList).run Tryz.prog W = .ok (fndI k l 0) W := by
  simp [Instr.findKey, run_underlying Tryz.underlying22, Result.andThen, find_h k _ es.toList l 0 h2]
 have h4 : ∀ j, lkH j (updH k v l) = if j = k then v else f j := fun j => by rw [lk_upd, h3]
 unfold Instr.mapUpdate
 cases hc : fndI k l 0 with
 | none =>
  rw [hc] at hf
  refine ⟨.map (es.push { key := .int .u64 k, val := hv v, born := c }) (c + 1), ?_, _, _, updH k v l, World.putObj_heap_same hl, ?_, h4⟩
  ·simp [run_underlying Tryz.underlying71, Result.andThen, ho, u64_ok, hf, hs]
  ·rw [Array.toList_push]; exact g2 hc c
 | some q =>
  obtain ⟨j, u⟩ := q
  rw [hc] at hf
  obtain ⟨m, hm, ⟨e, he, hek⟩, hq⟩ := g1 j u hc
  obtain rfl : j = m := by omega
  have he' : es[j]? = some e := by simpa using he
  have hst : (Instr.keyThatStays (.int .u64 k) (.int .u64 k)).run Tryz.prog W = .ok (.int .u64 k) W := by
   have : Instr.sameBits 10000 (.int .u64 k) (.int .u64 k) = true := by unfold Instr.sameBits; simp
   simp [Instr.keyThatStays, this]
  refine ⟨.map (es.modify j fun (e : MapEntry) => { e with key := .int .u64 k, val := hv v }) c, ?_, _, _, updH k v l, World.putObj_heap_same hl, ?_, h4⟩
  ·simp [run_underlying Tryz.underlying71, Result.andThen, ho, u64_ok, hf, hs, he', hek, hst]
  ·rw [Array.toList_modify]; exact hq
end Go.Proofs.YtnhjfjhbmekamaaGreat
