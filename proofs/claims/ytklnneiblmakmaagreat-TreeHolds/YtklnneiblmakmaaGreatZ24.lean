/-
 PROVED HERE: what the document's Fit returns when it is called (a contract over this translation); small facts for the laws. What is asked stands at each.
-/
import Derived.Test.YtklnneiblmakmaaGreatZ22
import Derived.Test.YtklnneiblmakmaaGreatZ23
namespace Go.Proofs.YtklnneiblmakmaaGreat
set_option maxRecDepth 100000
set_option maxHeartbeats 8000000
set_option linter.unusedVariables false
open Go.Proofs.Tryz
section
open Go.RowKit Go.Shelf
attribute [local go_sem] Oper.semAt_some
theorem k9z {S : World → Prop} {P : Program} {ty : TypeId} {b o j : Nat} {v : Value} {C : Array Value} (hr : ∀ w, S w → w.rangeAt b o C.toList) (hv : C[j]? = some v) (hg : ∀ w, (isAgg ty).run P w = .ok false w) : Obl.holds P S (.load ty b (o + j) v) := fun w hS => by
 have hc : w.cell? ⟨b, o + j, none⟩ = some v := hr w hS j v (by simpa using hv)
 simp [loadVar, hg, hc]
theorem rfit_w {w : World} {t ke ro : Int} {ao : Option Addr} {n cap : Nat} {X : List Ob} (h : Obs w ao n cap X) : Asks 23 #[.agg #[.int .i64 t, .int .u64 ke, .int .u64 ro, .slice ao n cap]] (fitW ⟨t, ke, ro, X⟩ = true) w := by
 have hmx : prog.follows .mixedOrders = true := by kernel_rfl
 have hn : Hid (X.length = n) := h.1
 have hnc := h.2.1
 have hcm := h.2.2.1.1
 have ga1 := isAgg22
 have ga2 := isAgg3
 have ga3 := isAgg23
 have c0 : (#[.int .i64 t, .int .u64 ke, .int .u64 ro, .slice ao n cap] : Array Value)[0]? = some (.int .i64 t) := rfl
 have c3 : (#[.int .i64 t, .int .u64 ke, .int .u64 ro, .slice ao n cap] : Array Value)[3]? = some (.slice ao n cap) := rfl
 obtain ⟨G, hG⟩ : ∃ G : Array Value, G = #[.int .i64 t, .int .u64 ke, .int .u64 ro, .slice ao n cap] := ⟨_, rfl⟩
 rw [← hG] at c0 c3
 rw [← hG]
 clear hG
 unfold Asks
 go_enter func23, ntmps23
 go_wp2_with (first
  | go_skip
  | (with_reducible refine qdz rfl _ _ rfl G rfl ?_; intro B W hB hb hk)
  | (with_reducible refine qbz (by kernel_rfl) _ _ rfl B _ rfl _ _ hb _ (by assumption) (by assumption) ?_)
  | ((with_reducible refine qgz (by kernel_rfl) .lss _ _ _ _ rfl _ _ rfl rfl (qWz _ _ _ _ _ _) ?_ ?_) <;> intro hq)
  | ((with_reducible refine qgz (by kernel_rfl) .gtr _ _ _ _ rfl _ _ rfl rfl (qAz _ _ _ _ _ _) ?_ ?_) <;> intro hq))
 all_goals (try (go_ret; first
  | (have hl : t < 0 := Hid.out (by assumption); refine ⟨false, rfl, ⟨fun e => absurd e Bool.false_ne_true, fun e => ?_⟩, hk⟩; exfalso; have := (waz.1 e).1; omega)
  | (have hl : 1099511627776 < t := Hid.out (by assumption); refine ⟨false, rfl, ⟨fun e => absurd e Bool.false_ne_true, fun e => ?_⟩, hk⟩; exfalso; have := (waz.1 e).2.1; omega)
  | (have hl : 1024 < (n : Int) := Hid.out (by assumption); refine ⟨false, rfl, ⟨fun e => absurd e Bool.false_ne_true, fun e => ?_⟩, hk⟩; exfalso; have := (waz.1 e).2.2.1; rw [hn.out] at this; omega)
  | fail))
 have a1 : 0 ≤ t := Hid.out (by assumption)
 have a2 : t ≤ 1099511627776 := Hid.out (by assumption)
 have a3 : (n : Int) ≤ 1024 := Hid.out (by assumption)
 have hes : Hid (0 ≤ t ∧ t ≤ 1099511627776 ∧ n ≤ 1024) := ⟨by omega, by omega, by omega⟩
 clear a1 a2 a3
 clear hB
 go_loopw [3] (fun i wr => ∃ k : Nat, k ≤ n ∧ i = .int .i64 k ∧ Hid (∀ j, j < k → q3z (oat X j) = true) ∧ Hid (∀ j, j + 1 < k → (oat X j).id < (oat X (j + 1)).id) ∧ Blk wr B G 25 ∧ Below w.heap.size w wr) (fun i _ => n - (intOf i).toNat)
 case atStart => exact ⟨0, Nat.zero_le _, rfl, fun j hj => absurd hj (by omega), fun j hj => absurd hj (by omega), hb, hk⟩
 case round =>
  clear hb hk
  obtain ⟨k, hk, rfl, hal, hri, hb, hbw⟩ := hrel
  have hbs := hbw.size
  by_cases hkn : k < n
  ·obtain ⟨j, hj0⟩ : ∃ j, Hid (j = k - 1) := ⟨_, rfl⟩
   have hjn : j < n := by have := hj0.out; omega
   obtain ⟨b, off, C, rfl, hbb, hC, hr⟩ := wrz (qzz h hbw) hkn
   obtain ⟨b', off', C', e', hbb', hC', hr'⟩ := wrz (qzz h hbw) hjn
   cases e'
   have hkn' : (k : Int) < n := by omega
   have hz := hC.size
   go_wp2_with (first
    | (with_reducible refine qbz (by kernel_rfl) _ _ rfl B _ rfl _ _ hb _ (by assumption) (by assumption) ?_))
   refine PgM.region_out (S := fun W => Blk W B G 25 ∧ W.rangeAt b (off + k * 51) C.toList ∧ W.rangeAt b (off + j * 51) C'.toList) hmx ⟨hb.next (Below.refl _ _).drew, qtz hr ((Below.refl _ wr).drew.block b hbb), qtz hr' ((Below.refl _ wr).drew.block b hbb)⟩ (fun hS => ?_)
   have hkd := (Below.refl wr.heap.size wr).drew
   have hC0 := hC.next hkd
   have hb1 := hbw.trans (hkd.mono hbs)
   have hbb1 : b < wr.drew.heap.size := Nat.lt_of_lt_of_le hbb hkd.size
   generalize wr.drew = W1 at hS hC0 hb1 hbb1 ⊢
   clear hkd
   refine qiz (by kernel_rfl) (fun _ _ _ _ _ h => h) hS [(0, none), (1, some (.slice (some ⟨b, off, none⟩) n cap)), (2, none), (3, some (.pointer (some ⟨b, off + k * 51, none⟩))), (4, some (.agg C))] (l' := #[tt, tt, tt, tt, tt, ff, ff, ff, ff, ff, ff, ff, ff, ff, ff, ff, ff, ff, ff, ff, ff, ff, ff, ff, ff, ff, ff]) (a' := { tmps := #[.agg G, .pointer (some ⟨B, 0, none⟩), u2, .int .i64 k, .pointer (some ⟨B, 0, none⟩), .int .i64 t, .bool false, .bool false, .pointer (some ⟨B, 0, none⟩), .int .i64 t, .bool false, .bool false, .bool false, .pointer (some ⟨B, 3, none⟩), .slice (some ⟨b, off, none⟩) n cap, .int .i64 n, .bool false, .bool false, .int .i64 k, .pointer (some ⟨B, 3, none⟩), .slice (some ⟨b, off, none⟩) n cap, .int .i64 n, .bool true, u23, u24, .pointer (some ⟨B, 3, none⟩), .slice (some ⟨b, off, none⟩) n cap, .int .i64 k, .pointer (some ⟨b, off + k * 51, none⟩), .agg C, u30, u31, u32, u33, u34, u35, u36, u37, u38, u39, u40, u41, u42, u43, u44, u45, u46, u47, u48, u49, u50, u51], defers := [] }) (obs := [.load 23 B 3 (.slice (some ⟨b, off, none⟩) n cap), .ia 23 (.slice (some ⟨b, off, none⟩) n cap) (.int .i64 k) (.pointer (some ⟨b, off + k * 51, none⟩)), .load 43 b (off + k * 51) (.agg C)]) (n := 22) (by kernel_rfl) (by kernel_rfl) ⟨qhz (fun _ h => h.1) c3 isAgg23, xfz hkn, wiz (fun _ h => h.2.1) underlying43 (by kernel_rfl) (qfz hz), trivial⟩ ?_
   refine wLz (i := 5) (fuel := 21) (f := 8) (vs := [.agg C]) (d := some 30) (by kernel_rfl) (by kernel_rfl) (by kernel_rfl) call8 (kJz hC0) (fun W2 hk2 => (⟨hS.1.next hk2, qtz hS.2.1 (hk2.block b hbb1), qtz hS.2.2 (hk2.block b hbb1)⟩ : Blk W2 B G 25 ∧ W2.rangeAt b (off + k * 51) C.toList ∧ W2.rangeAt b (off + j * 51) C'.toList)) ?_ ?_
   ·intro W2 hq hk2 hS2
    have hb2 := btz hb1 hk2
    rcases Nat.eq_zero_or_pos k with h0 | h0
    ·have hk0 : Hid (¬ (0 : Int) < k) := by show ¬ _; omega
     have hup : Hid (∀ j, j + 1 < k + 1 → (oat X j).id < (oat X (j + 1)).id) := by
      refine (?_ : ∀ j, j + 1 < k + 1 → (oat X j).id < (oat X (j + 1)).id)
      intro i hi; omega
     refine qiz (by kernel_rfl) (fun _ _ _ _ _ h => h) hS2 [(6, none), (7, none), (8, none), (9, some (.bool false)), (10, none), (11, none), (12, none), (13, none), (14, none), (15, none), (16, none), (17, none), (18, none), (19, none), (20, none), (21, none), (22, none), (23, none), (24, none), (25, none), (26, none)] (l' := #[tt, tt, tt, tt, tt, tt, tt, tt, tt, tt, tt, tt, tt, tt, tt, tt, tt, tt, tt, tt, tt, tt, tt, tt, tt, tt, tt]) (a' := { tmps := #[.agg G, .pointer (some ⟨B, 0, none⟩), u2, .int .i64 k, .pointer (some ⟨B, 0, none⟩), .int .i64 t, .bool false, .bool false, .pointer (some ⟨B, 0, none⟩), .int .i64 t, .bool false, .bool false, .bool false, .pointer (some ⟨B, 3, none⟩), .slice (some ⟨b, off, none⟩) n cap, .int .i64 n, .bool false, .bool false, .int .i64 k, .pointer (some ⟨B, 3, none⟩), .slice (some ⟨b, off, none⟩) n cap, .int .i64 n, .bool true, u23, u24, .pointer (some ⟨B, 3, none⟩), .slice (some ⟨b, off, none⟩) n cap, .int .i64 k, .pointer (some ⟨b, off + k * 51, none⟩), .agg C, .bool true, .bool false, .bool false, .int .i64 k, .bool false, .bool false, ud, ud, ud, ud, ud, ud, ud, ud, ud, ud, ud, ud, ud, undef, .bool false, .bool false], defers := [] }) (obs := [.test .gtr 3 (.tmp 33) (.const (.int .i64 0)) (.int .i64 k) (.int .i64 0) (.bool false)]) (n := 0) (by kernel_rfl) (by kernel_rfl) ⟨qRz (fun _ => qAz _ _ _ _ _ _) hk0, trivial⟩ ?_
     refine wpAnyH_done (by kernel_rfl) ?_ _
     have hx1 := hS2.1
     clear hS hS2 hC0
     go_wp2
     go_roundw
     case rel => exact ⟨k + 1, by omega, by go_num, wqz hal.out hq.out, hup, hx1, hb2⟩
     case measure => simp [intOf]; omega
    ·have hk0 : Hid ((0 : Int) < k) := by show _ < _; omega
     have hj : Hid (k = j + 1) := by have := hj0.out; show _ = _; omega
     have hw : IntKind.i64.wrap ((k : Int) - 1) = (j : Int) := by have := hj.out; rw [IntKind.wrap_i64]; omega
     by_cases hxy : (oat X j).id < (oat X k).id
     ·have hup : Hid (∀ i, i + 1 < k + 1 → (oat X i).id < (oat X (i + 1)).id) := by
       refine (?_ : ∀ i, i + 1 < k + 1 → (oat X i).id < (oat X (i + 1)).id)
       intro i hi
       rcases Nat.lt_or_ge (i + 1) k with h | h
       ·exact hri.out i h
       ·have hij : i = j := by have := hj.out; omega
        rw [hij, ← hj.out]; exact hxy
      have hd : Hid (¬ (oat X k).id ≤ (oat X j).id) := by show ¬ _; omega
      refine qiz (by kernel_rfl) (fun _ _ _ _ _ h => h) hS2 [(6, none), (7, none), (8, none), (9, some (.bool true)), (10, none), (11, none), (12, some (.slice (some ⟨b, off, none⟩) n cap)), (13, none), (14, some (.int .i64 j)), (15, some (.pointer (some ⟨b, off + j * 51, none⟩))), (16, none), (17, some (.int .u64 (oat X j).id)), (18, none), (19, some (.slice (some ⟨b, off, none⟩) n cap)), (20, none), (21, some (.pointer (some ⟨b, off + k * 51, none⟩))), (22, none), (23, some (.int .u64 (oat X k).id)), (24, some (.bool false)), (25, none), (26, none)] (l' := #[tt, tt, tt, tt, tt, tt, tt, tt, tt, tt, tt, tt, tt, tt, tt, tt, tt, tt, tt, tt, tt, tt, tt, tt, tt, tt, tt]) (a' := { tmps := #[.agg G, .pointer (some ⟨B, 0, none⟩), u2, .int .i64 k, .pointer (some ⟨B, 0, none⟩), .int .i64 t, .bool false, .bool false, .pointer (some ⟨B, 0, none⟩), .int .i64 t, .bool false, .bool false, .bool false, .pointer (some ⟨B, 3, none⟩), .slice (some ⟨b, off, none⟩) n cap, .int .i64 n, .bool false, .bool false, .int .i64 k, .pointer (some ⟨B, 3, none⟩), .slice (some ⟨b, off, none⟩) n cap, .int .i64 n, .bool true, u23, u24, .pointer (some ⟨B, 3, none⟩), .slice (some ⟨b, off, none⟩) n cap, .int .i64 k, .pointer (some ⟨b, off + k * 51, none⟩), .agg C, .bool true, .bool false, .bool false, .int .i64 k, .bool true, .bool true, .pointer (some ⟨B, 3, none⟩), .slice (some ⟨b, off, none⟩) n cap, .int .i64 k, .int .i64 j, .pointer (some ⟨b, off + j * 51, none⟩), .pointer (some ⟨b, off + j * 51 + 0, none⟩), .int .u64 (oat X j).id, .pointer (some ⟨B, 3, none⟩), .slice (some ⟨b, off, none⟩) n cap, .int .i64 k, .pointer (some ⟨b, off + k * 51, none⟩), .pointer (some ⟨b, off + k * 51 + 0, none⟩), .int .u64 (oat X k).id, .bool false, .bool false, .bool false], defers := [] }) (obs := [.test .gtr 3 (.tmp 33) (.const (.int .i64 0)) (.int .i64 k) (.int .i64 0) (.bool true), .load 23 B 3 (.slice (some ⟨b, off, none⟩) n cap), .test .sub 3 (.tmp 38) (.const (.int .i64 1)) (.int .i64 k) (.int .i64 1) (.int .i64 j), .ia 23 (.slice (some ⟨b, off, none⟩) n cap) (.int .i64 j) (.pointer (some ⟨b, off + j * 51, none⟩)), .load 22 b (off + j * 51 + 0) (.int .u64 (oat X j).id), .load 23 B 3 (.slice (some ⟨b, off, none⟩) n cap), .ia 23 (.slice (some ⟨b, off, none⟩) n cap) (.int .i64 k) (.pointer (some ⟨b, off + k * 51, none⟩)), .load 22 b (off + k * 51 + 0) (.int .u64 (oat X k).id), .test .geq 22 (.tmp 42) (.tmp 48) (.int .u64 (oat X j).id) (.int .u64 (oat X k).id) (.bool false)]) (n := 0) (by kernel_rfl) (by kernel_rfl) ⟨qFz (fun _ => qAz _ _ _ _ _ _) hk0, qhz (fun _ h => h.1) c3 isAgg23, xKz hj hw, xfz hjn, k9z (j := 0) (fun _ h => h.2.2) hC'.id isAgg22, qhz (fun _ h => h.1) c3 isAgg23, xfz hkn, k9z (j := 0) (fun _ h => h.2.1) hC.id isAgg22, qRz (fun _ => wxz _ _ _ _ _ _) hd, trivial⟩ ?_
      refine wpAnyH_done (by kernel_rfl) ?_ _
      have hx1 := hS2.1
      clear hS hS2 hC0
      go_wp2
      go_roundw
      case rel => exact ⟨k + 1, by omega, by go_num, wqz hal.out hq.out, hup, hx1, hb2⟩
      case measure => simp [intOf]; omega
     ·have hd : Hid ((oat X k).id ≤ (oat X j).id) := by show _ ≤ _; omega
      have hno : Hid (¬ idsB X = true) := by
       refine (?_ : ¬ idsB X = true)
       intro e
       have := jhz.1 e j (by rw [hn.out, ← hj.out]; exact hkn)
       rw [← hj.out] at this
       exact hxy this
      refine qiz (by kernel_rfl) (fun _ _ _ _ _ h => h) hS2 [(6, none), (7, none), (8, none), (9, some (.bool true)), (10, none), (11, none), (12, some (.slice (some ⟨b, off, none⟩) n cap)), (13, none), (14, some (.int .i64 j)), (15, some (.pointer (some ⟨b, off + j * 51, none⟩))), (16, none), (17, some (.int .u64 (oat X j).id)), (18, none), (19, some (.slice (some ⟨b, off, none⟩) n cap)), (20, none), (21, some (.pointer (some ⟨b, off + k * 51, none⟩))), (22, none), (23, some (.int .u64 (oat X k).id)), (24, some (.bool true)), (25, none), (26, none)] (l' := #[tt, tt, tt, tt, tt, tt, tt, tt, tt, tt, tt, tt, tt, tt, tt, tt, tt, tt, tt, tt, tt, tt, tt, tt, tt, tt, tt]) (a' := { tmps := #[.agg G, .pointer (some ⟨B, 0, none⟩), u2, .int .i64 k, .pointer (some ⟨B, 0, none⟩), .int .i64 t, .bool false, .bool false, .pointer (some ⟨B, 0, none⟩), .int .i64 t, .bool false, .bool false, .bool false, .pointer (some ⟨B, 3, none⟩), .slice (some ⟨b, off, none⟩) n cap, .int .i64 n, .bool false, .bool false, .int .i64 k, .pointer (some ⟨B, 3, none⟩), .slice (some ⟨b, off, none⟩) n cap, .int .i64 n, .bool true, u23, u24, .pointer (some ⟨B, 3, none⟩), .slice (some ⟨b, off, none⟩) n cap, .int .i64 k, .pointer (some ⟨b, off + k * 51, none⟩), .agg C, .bool true, .bool false, .bool false, .int .i64 k, .bool true, .bool true, .pointer (some ⟨B, 3, none⟩), .slice (some ⟨b, off, none⟩) n cap, .int .i64 k, .int .i64 j, .pointer (some ⟨b, off + j * 51, none⟩), .pointer (some ⟨b, off + j * 51 + 0, none⟩), .int .u64 (oat X j).id, .pointer (some ⟨B, 3, none⟩), .slice (some ⟨b, off, none⟩) n cap, .int .i64 k, .pointer (some ⟨b, off + k * 51, none⟩), .pointer (some ⟨b, off + k * 51 + 0, none⟩), .int .u64 (oat X k).id, .bool true, .bool true, .bool true], defers := [] }) (obs := [.test .gtr 3 (.tmp 33) (.const (.int .i64 0)) (.int .i64 k) (.int .i64 0) (.bool true), .load 23 B 3 (.slice (some ⟨b, off, none⟩) n cap), .test .sub 3 (.tmp 38) (.const (.int .i64 1)) (.int .i64 k) (.int .i64 1) (.int .i64 j), .ia 23 (.slice (some ⟨b, off, none⟩) n cap) (.int .i64 j) (.pointer (some ⟨b, off + j * 51, none⟩)), .load 22 b (off + j * 51 + 0) (.int .u64 (oat X j).id), .load 23 B 3 (.slice (some ⟨b, off, none⟩) n cap), .ia 23 (.slice (some ⟨b, off, none⟩) n cap) (.int .i64 k) (.pointer (some ⟨b, off + k * 51, none⟩)), .load 22 b (off + k * 51 + 0) (.int .u64 (oat X k).id), .test .geq 22 (.tmp 42) (.tmp 48) (.int .u64 (oat X j).id) (.int .u64 (oat X k).id) (.bool true)]) (n := 0) (by kernel_rfl) (by kernel_rfl) ⟨qFz (fun _ => qAz _ _ _ _ _ _) hk0, qhz (fun _ h => h.1) c3 isAgg23, xKz hj hw, xfz hjn, k9z (j := 0) (fun _ h => h.2.2) hC'.id isAgg22, qhz (fun _ h => h.1) c3 isAgg23, xfz hkn, k9z (j := 0) (fun _ h => h.2.1) hC.id isAgg22, qFz (fun _ => wxz _ _ _ _ _ _) hd, trivial⟩ ?_
      refine wpAnyH_done (by kernel_rfl) ?_ _
      have hx1 := hS2.1
      clear hS hS2 hC0
      go_wp2
      go_ret
      exact qkz hno hb2 (fun e => (waz.1 e).2.2.2.1)
   ·intro W2 hq hk2 hS2
    have hb2 := btz hb1 hk2
    refine qiz (by kernel_rfl) (fun _ _ _ _ _ h => h) hS2 [(6, none), (7, none), (8, none), (9, none), (10, none), (11, none), (12, none), (13, none), (14, none), (15, none), (16, none), (17, none), (18, none), (19, none), (20, none), (21, none), (22, none), (23, none), (24, none), (25, none), (26, none)] (l' := #[tt, tt, tt, tt, tt, tt, tt, tt, tt, tt, tt, tt, tt, tt, tt, tt, tt, tt, tt, tt, tt, tt, tt, tt, tt, tt, tt]) (a' := { tmps := #[.agg G, .pointer (some ⟨B, 0, none⟩), u2, .int .i64 k, .pointer (some ⟨B, 0, none⟩), .int .i64 t, .bool false, .bool false, .pointer (some ⟨B, 0, none⟩), .int .i64 t, .bool false, .bool false, .bool false, .pointer (some ⟨B, 3, none⟩), .slice (some ⟨b, off, none⟩) n cap, .int .i64 n, .bool false, .bool false, .int .i64 k, .pointer (some ⟨B, 3, none⟩), .slice (some ⟨b, off, none⟩) n cap, .int .i64 n, .bool true, u23, u24, .pointer (some ⟨B, 3, none⟩), .slice (some ⟨b, off, none⟩) n cap, .int .i64 k, .pointer (some ⟨b, off + k * 51, none⟩), .agg C, .bool false, .bool true, .bool true, ud, ud, ud, ud, ud, ud, ud, ud, ud, ud, ud, ud, ud, ud, ud, ud, ud, undef, .bool true], defers := [] }) (obs := []) (n := 0) (by kernel_rfl) (by kernel_rfl) trivial ?_
    refine wpAnyH_done (by kernel_rfl) ?_ _
    have hx1 := hS2.1
    clear hS hS2 hC0
    go_wp2
    go_ret
    exact qkz hq hb2 (fun e => (waz.1 e).2.2.2.2 k (by rw [hn.out]; exact hkn))
  ·obtain rfl : k = n := by omega
   go_wp2_with (first
    | (with_reducible refine qbz (by kernel_rfl) _ _ rfl B _ rfl _ _ hb _ (by assumption) (by assumption) ?_))
   go_ret
   exact qsz (waz.2 ⟨hes.out.1, hes.out.2.1, by rw [hn.out]; exact hes.out.2.2, jhz.2 fun i hi => hri.out i (by rw [hn.out] at hi; exact hi), fun i hi => hal.out i (by rw [hn.out] at hi; exact hi)⟩) hbw
end
section
open Go.RowKit Go.Shelf
attribute [local go_sem] Oper.semAt_some
theorem Asks.val {f : FuncId} {args : Array Value} {X : Prop} {W : World} {b : Bool} (h : Asks f args X W) (hb : Hid (b = true ↔ X)) : Calls prog f args W fun e w' => e = .returned (.bool b) ∧ Below W.heap.size W w' := by
 refine h.mono ?_
 rintro e w' ⟨b', rfl, h', k⟩
 refine ⟨?_, k⟩
 have := hb.out
 have := h'.out
 cases b <;> cases b' <;> simp_all
theorem yvz {X : List Ob} {x : Ob} (h : wbz X) (k : Small x) : wbz (puR X x) := fun y hy => by
 rcases wPz.1 hy with rfl | ⟨q, _⟩
 ·exact k
 ·exact h y q
end
section
open Go.RowKit Go.Shelf
theorem uRz {W W' : World} {ao : Option Addr} {n cap : Nat} {l : List Ob} (h : ObsD (New W W') (fun b => LtN W b ∨ New W W' b) W' ao n cap l) (k : Below W.heap.size W W') : Obs W' ao n cap l :=
 h.wide (fun b hb => by rcases hb with q | q; exact Nat.lt_of_lt_of_le q k.size; exact q.2) (fun b hb => hb.2)
end
section
def qOf (X : List Ob) (i : Int) : Int := match fnd X i with
 | some x => x.quota
 | none => 0
def vjz (X : List Ob) (o : Ob) : Int := pagN o + (o.links.map (qOf X)).sum
def holL (X : List Ob) (i : Int) : List Int := (X.filter fun d => decide (i ∈ d.links)).map Ob.id
def abvL (X : List Ob) : Nat → Int → List Int
 | 0, _ => []
 | f + 1, i => match holL X i with
  | [] => []
  | h :: _ => h :: abvL X f h
def rabv (X : List Ob) (i : Int) : List Int := if (abvL X (X.length + 1) i).length ≤ X.length then abvL X (X.length + 1) i else []
theorem sum_le {l : List Int} {f : Int → Int} {k : Int} (h : ∀ i ∈ l, 0 ≤ f i ∧ f i ≤ k) : 0 ≤ (l.map f).sum ∧ (l.map f).sum ≤ k * l.length := by
 induction l with
 | nil => simp
 | cons a r ih =>
  have h1 := h a (List.mem_cons_self ..)
  have h2 := ih fun i hi => h i (List.mem_cons_of_mem _ hi)
  rw [List.map_cons, List.sum_cons, List.length_cons]
  have e : k * ((r.length + 1 : Nat) : Int) = k * (r.length : Int) + k := by rw [Int.natCast_add, Int.mul_add]; simp
  rw [e]
  omega
end
section
open Go.RowKit Go.Shelf
attribute [local go_sem] Oper.semAt_some
theorem jpz {D : Nat → Prop} {w : World} {ao : Option Addr} {n cap : Nat} {L : List Int} (h : CtD D w ao n cap L) {i : Nat} (hi : i < n) : ∃ b off, ao = some ⟨b, off, none⟩ ∧ D b ∧ w.cell? ⟨b, off + i, none⟩ = some (.int .u64 (L.getD i 0)) := by
 obtain ⟨b, off, e, hb, hc⟩ := h.2.2.2 (by omega)
 exact ⟨b, off, e, hb, hc i hi⟩
theorem jiz {L : List Int} {i : Nat} (h : i < L.length) : L.getD i 0 ∈ L := by
 rw [List.getD_eq_getElem?_getD, List.getElem?_eq_getElem h]; exact List.getElem_mem h
def cmpI (a b : Int) : Int := if a < b then -1 else if b < a then 1 else 0
theorem gvz {a b : Int} : cmpI a b < 0 ↔ a < b := by unfold cmpI; split <;> (try split) <;> omega
theorem gwz {a b : Int} : cmpI a b = 0 ↔ a = b := by unfold cmpI; split <;> (try split) <;> omega
theorem w0z {w : World} {a : Int} : Calls prog 125 #[.int .u64 a] w fun e w' => e = .returned (.bool false) ∧ w' = w := by
 go_enter func125, ntmps125
 go_wp2
 go_ret
 exact ⟨rfl, rfl⟩
theorem cmp_any {w : World} {a b : Int} : Calls prog 100 #[.int .u64 a, .int .u64 b] w fun e w' => e = .returned (.int .i64 (cmpI a b)) ∧ w' = w := by
 by_cases h1 : a < b
 ·have e1 : cmpI a b = -1 := by unfold cmpI; rw [if_pos h1]
  rw [e1]
  go_enter func100, ntmps100
  go_wp2_with (go_at_call 125; refine w0z.mono ?_; rintro e w1 ⟨rfl, rfl⟩)
  go_ret
  exact ⟨rfl, rfl⟩
 ·by_cases h2 : b < a
  ·have e1 : cmpI a b = 1 := by unfold cmpI; rw [if_neg h1, if_pos h2]
   rw [e1]
   go_enter func100, ntmps100
   go_wp2_with (go_at_call 125; refine w0z.mono ?_; rintro e w1 ⟨rfl, rfl⟩)
   go_ret
   exact ⟨rfl, rfl⟩
  ·have e1 : cmpI a b = 0 := by unfold cmpI; rw [if_neg h1, if_neg h2]
   rw [e1]
   go_enter func100, ntmps100
   go_wp2_with (go_at_call 125; refine w0z.mono ?_; rintro e w1 ⟨rfl, rfl⟩)
   go_ret
   exact ⟨rfl, rfl⟩
theorem jrz {w : World} {C : Array Value} {x : Ob} {i : Int} (h : ObD (LtN w) w C x) : Calls prog 70 #[.agg C, .int .u64 i] w fun e w' => e = .returned (.int .i64 (cmpI x.id i)) ∧ Below w.heap.size w w' := by
 have c0 := h.id
 have ga1 := isAgg22
 go_enter func70, ntmps70
 go_wp2_with (first
  | (with_reducible refine qdz rfl _ _ rfl C rfl ?_; intro B W hB hb hk)
  | (with_reducible refine qbz (by kernel_rfl) _ _ rfl B _ rfl _ _ hb _ (by assumption) (by assumption) ?_)
  | (go_at_call 100; (with_reducible refine cmp_any.mono ?_); rintro e w1 ⟨rfl, rfl⟩))
 go_ret
 exact ⟨rfl, hk⟩
theorem vrz (w : World) (t : TypeId) (x y : Operand) {v r : Int} (hr : v / 2 = r) : (do eqGuard .shr t x y (.int .u64 v) (.int .u64 1); binOp .shr t (.int .u64 v) (.int .u64 1)).run prog w = .ok (.int .u64 r) w := by
 subst hr
 have e : Op.shift .shr .u64 v .u64 1 = pure (.int .u64 (v / 2)) := shift_shr .u64 .u64 v 1 (by decide) (by decide)
 simp [eqGuard_shr, binOp_shr, e]
theorem vGz (w : World) {m : Nat} (h : m ≤ 4096) : (convert 129 3 (.int .u64 (m : Int))).run prog w = Result.ok (.int .i64 (m : Int)) w := by
 have hw : IntKind.i64.wrap (m : Int) = m := by rw [IntKind.wrap_i64]; omega
 simp [go_sem, convert, run_underlying underlying129, run_underlying underlying3, hw]
section
variable {ops : Array Oper} {rest : List Oper} {op : Oper} {a : Act} {Q : Exit → Act → World → Prop} {w : World}
theorem xhz (hw : Region.wanted op (yielded ops a.tmps) = true) (t d : TypeId) (x : Operand) (ho : op.op = .convert t d x) (u : Value) (hx : a.eval x = u) {r : Value} (hr : (convert t d u).run prog w = .ok r w) (h : wpList prog ops Q rest (a.put op.dst r) w) : wpList prog ops Q (op :: rest) a w := by
 refine qZz hw ?_ h
 subst hx
 unfold execOp
 simp only [ho]
 rw [Sem.run_bind, hr]
 rfl
theorem xwz (hw : Region.wanted op (yielded ops a.tmps) = true) (f : BinOp) (t : TypeId) (x y : Operand) (t' : TypeId) (ho : op.op = .binOp f t x y t') (u v : Value) (hx : a.eval x = u) (hy : a.eval y = v) {r : Value} (hr : (do eqGuard f t x y u v; binOp f t u v).run prog w = .ok r w) (h : wpList prog ops Q rest (a.put op.dst r) w) : wpList prog ops Q (op :: rest) a w := by
 refine qZz hw ?_ h
 subst hx hy
 unfold execOp
 simp only [ho]
 rw [Sem.run_bind, hr]
 rfl
end
theorem bsf_any {w : World} {ao : Option Addr} {n cap : Nat} {X : List Ob} {i : Int} (h : Obs w ao n cap X) (hs : Srt X) (hn16 : n ≤ 4096) : Calls prog 69 #[.slice ao n cap, .int .u64 i, .func (.func 70) #[] #[]] w fun e w' => e = .returned (.tuple #[.int .i64 (ahd X i : Nat), .bool (fnd X i).isSome]) ∧ Below w.heap.size w w' := by
 have hn : Hid (X.length = n) := h.1
 have hnc := h.2.1
 have hcm := h.2.2.1.1
 have hsH : Hid (Srt X) := hs
 clear hs
 go_enter func69, ntmps69
 go_wp2
 go_loopw [9, 10] (fun vl vh wr => ∃ lo hi : Nat, lo ≤ hi ∧ hi ≤ n ∧ vl = .int .i64 lo ∧ vh = .int .i64 hi ∧ Hid (∀ j, j < lo → (oat X j).id < i) ∧ Hid (∀ j, hi ≤ j → j < n → i ≤ (oat X j).id) ∧ Below w.heap.size w wr) (fun vl vh _ => (intOf vh).toNat - (intOf vl).toNat)
 case atStart => exact ⟨0, n, Nat.zero_le _, Nat.le_refl _, rfl, rfl, fun j hj => absurd hj (by omega), fun j h1 h2 => absurd h2 (by omega), Below.refl _ _⟩
 case round =>
  obtain ⟨lo, hi, hlh, hhn, rfl, rfl, hlo, hhi, hb⟩ := hrel
  have hbs := hb.size
  by_cases hlt : lo < hi
  ·obtain ⟨m, hm⟩ : ∃ m : Nat, m = (lo + hi) / 2 := ⟨_, rfl⟩
   have hmi : ((lo : Int) + hi) / 2 = m := by omega
   have hmn : m < n := by omega
   have hm1 : lo ≤ m := by omega
   have hm2 : m < hi := by omega
   have hmn' : (m : Int) < n := by omega
   have hm96 : m ≤ 4096 := by omega
   obtain ⟨b, off, C, rfl, hbb, hC, hr⟩ := wrz (qzz h hb) hmn
   have hz := hC.size
   clear hm
   go_wp2_with (first
    | (with_reducible refine xwz (by kernel_rfl) .shr _ _ _ _ rfl _ _ rfl rfl (vrz _ _ _ _ hmi) ?_)
    | (with_reducible refine xhz (by kernel_rfl) 129 3 _ rfl (.int .u64 (m : Int)) rfl (vGz _ hm96) ?_)
    | (with_reducible refine qBz (by kernel_rfl) 43 _ rfl b _ rfl C hr _ underlying43 (by kernel_rfl) (qfz hz) ?_)
    | (go_at_call 70; (with_reducible refine (jrz hC).mono ?_); rintro e w1 ⟨rfl, hb1⟩))
   ·rename_i hcmp
    have hxi := gvz.1 hcmp
    have hlo2 : Hid (∀ j, j < m + 1 → (oat X j).id < i) := by
     refine (?_ : ∀ j, j < m + 1 → (oat X j).id < i)
     intro j hj
     rcases Nat.lt_or_ge j m with q | q
     ·have hl := hn.out
      have := List.pairwise_iff_getElem.1 hsH.out j m (by omega) (by omega) q
      rw [← qGz (by omega), ← qGz (by omega)] at this
      omega
     ·obtain rfl : j = m := by omega
      exact hxi
    go_roundw
    case rel => exact ⟨m + 1, hi, by omega, hhn, by go_num, rfl, hlo2, hhi, hb.trans (hb1.mono hbs)⟩
    case measure => simp [intOf]; omega
   ·rename_i hcmp
    have hxi : ¬ (oat X m).id < i := fun q => by have := gvz.2 q; omega
    have hhi2 : Hid (∀ j, m ≤ j → j < n → i ≤ (oat X j).id) := by
     refine (?_ : ∀ j, m ≤ j → j < n → i ≤ (oat X j).id)
     intro j hj hjn
     rcases Nat.lt_or_ge m j with q | q
     ·have hl := hn.out
      have := List.pairwise_iff_getElem.1 hsH.out m j (by omega) (by omega) q
      rw [← qGz (by omega), ← qGz (by omega)] at this
      omega
     ·obtain rfl : j = m := by omega
      omega
    go_roundw
    case rel => exact ⟨lo, m, by omega, by omega, rfl, rfl, hlo, hhi2, hb.trans (hb1.mono hbs)⟩
    case measure => simp [intOf]; omega
  ·obtain rfl : lo = hi := by omega
   have hke : Hid (ahd X i = lo) := ahd_of (by rw [hn.out]; exact hhn) hlo.out (fun j h1 h2 => hhi.out j h1 (by rw [← hn.out]; exact h2))
   by_cases hln : lo < n
   ·obtain ⟨b, off, C, rfl, hbb, hC, hr⟩ := wrz (qzz h hb) hln
    have hz := hC.size
    have hln' : (lo : Int) < n := by omega
    by_cases hxi : (oat X lo).id = i
    ·have hf : Hid ((fnd X i).isSome = true) := by show _ = _; rw [j5z hsH.out (by rw [hke.out, hn.out]; exact hln) (by rw [hke.out]; exact hxi)]; rfl
     have hc0 : cmpI (oat X lo).id i = 0 := gwz.2 hxi
     have hby := jrz (i := i) hC
     rw [hc0] at hby
     clear hc0 hxi
     go_wp2_with (first
      | (with_reducible refine qBz (by kernel_rfl) 43 _ rfl b _ rfl C hr _ underlying43 (by kernel_rfl) (qfz hz) ?_)
      | (go_at_call 70; (with_reducible refine hby.mono ?_); rintro e w1 ⟨rfl, hb1⟩))
     go_ret2
     refine ⟨?_, hb.trans (hb1.mono hbs)⟩
     rw [hf.out, hke.out]; rfl
    ·have hf : Hid ((fnd X i).isSome = false) := by show _ = _; rw [wRz hsH.out (by rw [hke.out]; exact fun q => hxi q.2)]; rfl
     have hc0 : (cmpI (oat X lo).id i == 0) = false := by rw [beq_eq_false_iff_ne]; exact fun q => hxi (gwz.1 q)
     clear hxi
     go_wp2_with (first
      | (with_reducible refine qBz (by kernel_rfl) 43 _ rfl b _ rfl C hr _ underlying43 (by kernel_rfl) (qfz hz) ?_)
      | (go_at_call 70; (with_reducible refine (jrz hC).mono ?_); rintro e w1 ⟨rfl, hb1⟩))
     go_ret2
     refine ⟨?_, hb.trans (hb1.mono hbs)⟩
     rw [hf.out, hke.out]; rfl
   ·have hf : Hid ((fnd X i).isSome = false) := by show _ = _; rw [wRz hsH.out (by rw [hke.out, hn.out]; exact fun q => hln q.1)]; rfl
    have hln' : ¬ (lo : Int) < n := by omega
    go_wp2
    go_ret2
    refine ⟨?_, hb⟩
    rw [hf.out, hke.out]; rfl
def ObsF (E D : Nat → Prop) (w : World) (ao : Option Addr) (n cap : Nat) (X : List Ob) (Cf : Nat → Array Value) : Prop :=
 X.length = n ∧ n ≤ cap ∧ (cap ≤ 9223372036854775807 ∧ (ao = none → cap = 0)) ∧
 (0 < n → ∃ b off, ao = some ⟨b, off, none⟩ ∧ E b ∧ ∀ i, i < n → w.rangeAt b (off + i * 51) (Cf i).toList) ∧ ∀ i, i < n → ObD D w (Cf i) (oat X i)
section
variable {E E' D D' : Nat → Prop} {w w' : World} {ao : Option Addr} {n cap : Nat} {X : List Ob} {Cf : Nat → Array Value}
theorem ObsD.fam (h : ObsD E D w ao n cap X) : ∃ Cf, ObsF E D w ao n cap X Cf := by
 obtain ⟨h1, h2, h3, h4⟩ := h
 rcases Nat.eq_zero_or_pos n with h0 | h0
 ·exact ⟨fun _ => #[], h1, h2, h3, fun q => absurd q (by omega), fun i hi => absurd hi (by omega)⟩
 ·obtain ⟨b, off, e, hb, hc⟩ := h4 h0
  have key : ∀ i, ∃ C, i < n → ObD D w C (oat X i) ∧ w.rangeAt b (off + i * 51) C.toList := fun i => by
   by_cases hi : i < n
   ·obtain ⟨C, hC⟩ := hc i hi; exact ⟨C, fun _ => hC⟩
   ·exact ⟨#[], fun q => absurd q hi⟩
  exact ⟨fun i => Classical.choose (key i), h1, h2, h3, fun _ => ⟨b, off, e, hb, fun i hi => (Classical.choose_spec (key i) hi).2⟩, fun i hi => (Classical.choose_spec (key i) hi).1⟩
theorem ObsF.obs (h : ObsF E D w ao n cap X Cf) : ObsD E D w ao n cap X := by
 obtain ⟨h1, h2, h3, h4, h5⟩ := h
 refine ⟨h1, h2, h3, fun h0 => ?_⟩
 obtain ⟨b, off, e, hb, hc⟩ := h4 h0
 exact ⟨b, off, e, hb, fun i hi => ⟨Cf i, h5 i hi, hc i hi⟩⟩
theorem ObsF.laterK (h : ObsF E D w ao n cap X Cf) (k : ∀ b, D b → w'.heap[b]? = w.heap[b]?) (k' : ∀ b, E b → w'.heap[b]? = w.heap[b]?) : ObsF E D w' ao n cap X Cf := by
 obtain ⟨h1, h2, h3, h4, h5⟩ := h
 refine ⟨h1, h2, h3, fun h0 => ?_, fun i hi => (h5 i hi).laterK k⟩
 obtain ⟨b, off, e, hb, hc⟩ := h4 h0
 exact ⟨b, off, e, hb, fun i hi => qtz (hc i hi) (k' b hb)⟩
theorem ObsF.wide (h : ObsF E D w ao n cap X Cf) (k : ∀ b, D b → D' b) (k' : ∀ b, E b → E' b) : ObsF E' D' w ao n cap X Cf := by
 obtain ⟨h1, h2, h3, h4, h5⟩ := h
 refine ⟨h1, h2, h3, fun h0 => ?_, fun i hi => (h5 i hi).wide k⟩
 obtain ⟨b, off, e, hb, hc⟩ := h4 h0
 exact ⟨b, off, e, k' b hb, hc⟩
theorem ObsF.next (h : ObsF (LtN w) (LtN w) w ao n cap X Cf) (k : Below w.heap.size w w') : ObsF (LtN w') (LtN w') w' ao n cap X Cf :=
 (h.laterK (fun b hb => k.block b hb) (fun b hb => k.block b hb)).wide (fun b hb => Nat.lt_of_lt_of_le hb k.size) (fun b hb => Nat.lt_of_lt_of_le hb k.size)
end
def fC (X : List Ob) (Cf : Nat → Array Value) (i : Int) : Array Value := if (fnd X i).isSome = true then Cf (ahd X i) else zC
theorem xtz {w : World} {t ke ro : Int} {ao : Option Addr} {n cap : Nat} {X : List Ob} {Cf : Nat → Array Value} {i : Int} (h : ObsF (LtN w) (LtN w) w ao n cap X Cf) (hs : Srt X) (hn16 : n ≤ 4096) : Calls prog 37 #[.agg #[.int .i64 t, .int .u64 ke, .int .u64 ro, .slice ao n cap], .int .u64 i] w fun e w' => e = .returned (.tuple #[.agg (fC X Cf i), .bool (fnd X i).isSome]) ∧ Below w.heap.size w w' := by
 have hn : Hid (X.length = n) := h.1
 have hsH : Hid (Srt X) := hs
 have hle : ahd X i ≤ n := by rw [← hn.out]; exact kWz X i
 have ga3 := isAgg23
 have hbs := fun (W : World) (hk : Below w.heap.size w W) => bsf_any (i := i) (ObsF.obs (h.next hk)) hs hn16
 have c3 : (#[.int .i64 t, .int .u64 ke, .int .u64 ro, .slice ao n cap] : Array Value)[3]? = some (.slice ao n cap) := rfl
 obtain ⟨G, hG⟩ : ∃ G : Array Value, G = #[.int .i64 t, .int .u64 ke, .int .u64 ro, .slice ao n cap] := ⟨_, rfl⟩
 rw [← hG] at c3
 rw [← hG]
 clear hG
 obtain ⟨k, hke⟩ : ∃ k, Hid (ahd X i = k) := ⟨_, rfl⟩
 rw [hke.out] at hbs hle
 clear hs
 by_cases hf : (fnd X i).isSome = true
 ·obtain ⟨x, hx⟩ := Option.isSome_iff_exists.1 hf
  have hq : ahd X i < X.length ∧ (oat X (ahd X i)).id = i := Classical.byContradiction fun q => by rw [wRz hsH.out q] at hx; cases hx
  have hkn : k < n := by have := hq.1; rw [hke.out, hn.out] at this; exact this
  have hfC : Hid (fC X Cf i = Cf k) := by show _ = _; unfold fC; rw [if_pos hf, hke.out]
  rw [hf] at hbs ⊢
  rw [hfC.out]
  obtain ⟨b, off, rfl, hbb, hrr⟩ := h.2.2.2.1 (by omega)
  have hr := hrr k hkn
  have hz := (h.2.2.2.2 k hkn).size
  have h1c := (h.2.2.2.2 k hkn).one
  have hkn' : (k : Int) < n := by omega
  generalize Cf k = C at hr hz h1c ⊢
  clear hx hq hf hrr
  go_enter func37, ntmps37
  go_wp2_with (first
   | (with_reducible refine qdz rfl _ _ rfl G rfl ?_; intro B W hB hb hk)
   | ((with_reducible refine qcz rfl _ rfl zC qqz ?_); intro R W1 hB1 hR hk1; replace hb := hb.next hk1; replace hk := btz hk hk1)
   | (with_reducible refine qbz (by kernel_rfl) _ _ rfl B _ rfl _ _ hb _ c3 ga3 ?_)
   | (go_at_call 69; (with_reducible refine (hbs _ hk).mono ?_); rintro e w2 ⟨rfl, hb2⟩; replace hb := hb.next hb2; replace hR := hR.next hb2; replace hk := btz hk hb2; replace hr := qtz hr (hk.block b hbb))
   | (with_reducible refine qBz (by kernel_rfl) 43 _ rfl b _ rfl C hr _ underlying43 (by kernel_rfl) (qfz hz) ?_)
   | ((with_reducible refine qaz rfl _ _ _ rfl R rfl C rfl zC hR (qfz hz) (qmz.trans hz.symm) h1c ?_); intro W4 hR4 o4))
  have hRl : w.heap.size ≤ R := by have := hB.out; have := hB1.out; omega
  refine bodyPost_ret (v := .tuple #[.agg C, .bool true]) (vXz results37 rfl rfl hR4 hz) rfl ?_
  exact ⟨rfl, o4.below _ _ hRl hk⟩
 ·have hx : (fnd X i).isSome = false := by simpa using hf
  have hfC : Hid (fC X Cf i = zC) := by show _ = _; unfold fC; rw [if_neg hf]
  rw [hx] at hbs ⊢
  rw [hfC.out]
  clear hx hf
  go_enter func37, ntmps37
  go_wp2_with (first
   | (with_reducible refine qdz rfl _ _ rfl G rfl ?_; intro B W hB hb hk)
   | ((with_reducible refine qcz rfl _ rfl zC qqz ?_); intro R W1 hB1 hR hk1; replace hb := hb.next hk1; replace hk := btz hk hk1)
   | (with_reducible refine qbz (by kernel_rfl) _ _ rfl B _ rfl _ _ hb _ c3 ga3 ?_)
   | (go_at_call 69; (with_reducible refine (hbs _ hk).mono ?_); rintro e w2 ⟨rfl, hb2⟩; replace hb := hb.next hb2; replace hR := hR.next hb2; replace hk := btz hk hb2)
   | ((with_reducible refine qJz rfl _ [] rfl zC ?hf ?_); (case hf => exact gyz))
   | ((with_reducible refine qaz rfl _ _ _ rfl R rfl zC rfl zC hR (qfz qmz) rfl (zC_d (fun _ => True) w).one ?_); intro W4 hR4 o4))
  have hRl : w.heap.size ≤ R := by have := hB.out; have := hB1.out; omega
  refine bodyPost_ret (v := .tuple #[.agg zC, .bool false]) (vXz results37 rfl rfl hR4 qmz) rfl ?_
  exact ⟨rfl, o4.below _ _ hRl hk⟩
end
end Go.Proofs.YtklnneiblmakmaaGreat
