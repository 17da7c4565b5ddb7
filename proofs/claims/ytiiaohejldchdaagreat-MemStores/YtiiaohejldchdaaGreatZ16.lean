/-
 PROVED HERE: what package obj's SameOne and the document's return when they are called (contracts over this translation); w. What is asked stands at each.
-/
import Derived.Deep.DeepCutAuto
import Derived.BigQuiet
import Derived.Test.YtiiaohejldchdaaGreatZ15
namespace Go.Proofs.YtiiaohejldchdaaGreat
set_option maxRecDepth 100000
set_option maxHeartbeats 8000000
open Go.RowKit Go.Shelf
set_option linter.unusedVariables false
attribute [local go_sem] Oper.semAt_some
theorem rsameOne_any {w : World} {C C' : Array Value} {x y : Ob} (h : ObD (LtN w) w C x) (h' : ObD (LtN w) w C' y) :
  Asks 16 #[.agg C, .agg C'] (x = y) w := by
 have hz := h.size
 have c0 := h.id
 have c1 := h.kind
 obtain ⟨a2, n2, k2, c2, l2⟩ := h.label
 have c3 := h.quota
 have c4 := h.fixed
 obtain ⟨a5, n5, k5, c5, l5⟩ := h.links
 obtain ⟨a6, n6, k6, c6, l6⟩ := h.data
 obtain ⟨a7, n7, k7, c7, l7⟩ := h.maps
 obtain ⟨a49, n49, k49, c49, l49⟩ := h.inn
 obtain ⟨a50, n50, k50, c50, l50⟩ := h.out
 have hz' := h'.size
 have c0' := h'.id
 have c1' := h'.kind
 obtain ⟨a2', n2', k2', c2', l2'⟩ := h'.label
 have c3' := h'.quota
 have c4' := h'.fixed
 obtain ⟨a5', n5', k5', c5', l5'⟩ := h'.links
 obtain ⟨a6', n6', k6', c6', l6'⟩ := h'.data
 obtain ⟨a7', n7', k7', c7', l7'⟩ := h'.maps
 obtain ⟨a49', n49', k49', c49', l49'⟩ := h'.inn
 obtain ⟨a50', n50', k50', c50', l50'⟩ := h'.out
 have ga0 := Tryz.isAgg27
 have ga1 := Tryz.isAgg22
 have ga2 := Tryz.isAgg3
 have ga3 := Tryz.isAgg4
 have ga4 := Tryz.isAgg28
 have ga5 := Tryz.isAgg29
 unfold Asks
 go_enter Tryz.func16, Tryz.ntmps16
 try simp only [List.append]
 go_upto_region 1 with (first
  | (with_reducible refine wpList_box rfl _ _ rfl C rfl ?_; intro B W hB hb hk)
  | (with_reducible refine wpList_box rfl _ _ rfl C' rfl ?_; intro B' W' hB' hb' hk'; replace hb := hb.next hk'; replace hk := hk.trans (hk'.mono hk.size); clear hk'))
 refine wpT_region ?_
 refine wpT_sym [none, some (.int .u64 x.id), none, some (.int .u64 y.id)] 0 (a' := { tmps := #[.agg C, .agg C', pt B 0, pt B' 0, .bool false, pt B 0, .int .u64 x.id, pt B' 0, .int .u64 y.id, ud, ud, ud, ud, ud, ud, ud, ud, ud, ud, ud, ud, ud, ud, ud, ud, ud, ud, ud, ud, ud, ud, ud, ud, ud, ud, ud, ud, ud, ud, ud, ud, ud, ud, ud, ud, ud, ud, ud, ud, ud, ud, ud, ud, ud, ud, ud, ud, ud, ud, ud, ud, ud, ud, ud, ud, ud, ud, ud, ud, ud, ud, ud, ud, ud, ud, ud, ud, ud, ud, ud, ud, ud, ud, ud, ud, ud], defers := [] }) (obs := [.load 22 (B) (0) (.int .u64 x.id), .load 22 (B') (0) (.int .u64 y.id)]) (by kernel_rfl) ⟨ob_load1 (fun _ e => by rw [e]; exact hb) c0 ga1, ob_load1 (fun _ e => by rw [e]; exact hb') c0' ga1, trivial⟩ ?_
 by_cases q0 : ¬ x.id = y.id
 ·replace q0 : Hid (¬ x.id = y.id) := q0
  refine wpT_sym [some (.bool true), none, none, none, none, none, none, none, none, none, none, none, none, none, none, none, none, none, none, none, none, none, none, none, none, none, none, none, none, none] 4 (a' := { tmps := #[.agg C, .agg C', pt B 0, pt B' 0, .bool false, pt B 0, .int .u64 x.id, pt B' 0, .int .u64 y.id, .bool true, .bool true, ud, ud, ud, ud, ud, .bool true, .bool true, ud, ud, ud, ud, ud, ud, .bool true, .bool true, ud, ud, ud, ud, ud, .bool true, .bool true, ud, ud, ud, ud, ud, .bool true, ud, ud, ud, ud, ud, ud, ud, ud, ud, ud, ud, ud, ud, ud, ud, ud, ud, ud, ud, ud, ud, ud, ud, ud, ud, ud, ud, ud, ud, ud, ud, ud, ud, ud, ud, ud, ud, ud, ud, ud, ud, ud, ud, ud, ud, ud, ud], defers := [] }) (obs := [.test .neq 22 (.tmp 6) (.tmp 8) (.int .u64 x.id) (.int .u64 y.id) (.bool true)]) (by kernel_rfl) ⟨ob_yes (fun _ => neg_int _ _ _ _ _ _) q0, trivial⟩ ?_
  refine wpT_end (by kernel_rfl) ?_
  go_wp2
  go_ret
  refine askP_no q0 hk ?_; intro e; rw [e]
 ·replace q0 : Hid (¬ (¬ x.id = y.id)) := q0
  refine wpT_sym [some (.bool false), none, none, some (.int .i64 x.kind), none, some (.int .i64 y.kind)] 4 (a' := { tmps := #[.agg C, .agg C', pt B 0, pt B' 0, .bool false, pt B 0, .int .u64 x.id, pt B' 0, .int .u64 y.id, .bool false, .bool false, pt B 1, .int .i64 x.kind, pt B' 1, .int .i64 y.kind, ud, ud, ud, ud, ud, ud, ud, ud, ud, ud, ud, ud, ud, ud, ud, ud, ud, ud, ud, ud, ud, ud, ud, ud, ud, ud, ud, ud, ud, ud, ud, ud, ud, ud, ud, ud, ud, ud, ud, ud, ud, ud, ud, ud, ud, ud, ud, ud, ud, ud, ud, ud, ud, ud, ud, ud, ud, ud, ud, ud, ud, ud, ud, ud, ud, ud, ud, ud, ud, ud, ud], defers := [] }) (obs := [.test .neq 22 (.tmp 6) (.tmp 8) (.int .u64 x.id) (.int .u64 y.id) (.bool false), .load 3 (B) (1) (.int .i64 x.kind), .load 3 (B') (1) (.int .i64 y.kind)]) (by kernel_rfl) ⟨ob_no (fun _ => neg_int _ _ _ _ _ _) q0, ob_load1 (fun _ e => by rw [e]; exact hb) c1 ga2, ob_load1 (fun _ e => by rw [e]; exact hb') c1' ga2, trivial⟩ ?_
  by_cases q1 : ¬ x.kind = y.kind
  ·replace q1 : Hid (¬ x.kind = y.kind) := q1
   refine wpT_sym [some (.bool true), none, none, none, none, none, none, none, none, none, none, none, none, none, none, none, none, none, none, none, none, none, none, none] 10 (a' := { tmps := #[.agg C, .agg C', pt B 0, pt B' 0, .bool false, pt B 0, .int .u64 x.id, pt B' 0, .int .u64 y.id, .bool false, .bool false, pt B 1, .int .i64 x.kind, pt B' 1, .int .i64 y.kind, .bool true, .bool true, .bool true, ud, ud, ud, ud, ud, ud, .bool true, .bool true, ud, ud, ud, ud, ud, .bool true, .bool true, ud, ud, ud, ud, ud, .bool true, ud, ud, ud, ud, ud, ud, ud, ud, ud, ud, ud, ud, ud, ud, ud, ud, ud, ud, ud, ud, ud, ud, ud, ud, ud, ud, ud, ud, ud, ud, ud, ud, ud, ud, ud, ud, ud, ud, ud, ud, ud, ud, ud, ud, ud, ud, ud], defers := [] }) (obs := [.test .neq 3 (.tmp 12) (.tmp 14) (.int .i64 x.kind) (.int .i64 y.kind) (.bool true)]) (by kernel_rfl) ⟨ob_yes (fun _ => neg_int _ _ _ _ _ _) q1, trivial⟩ ?_
   refine wpT_end (by kernel_rfl) ?_
   go_wp2
   go_ret
   refine askP_no q1 hk ?_; intro e; rw [e]
  ·replace q1 : Hid (¬ (¬ x.kind = y.kind)) := q1
   refine wpT_sym [some (.bool false), none, none, none, some (.slice a2 n2 k2), none, some (.slice a2' n2' k2')] 10 (a' := { tmps := #[.agg C, .agg C', pt B 0, pt B' 0, .bool false, pt B 0, .int .u64 x.id, pt B' 0, .int .u64 y.id, .bool false, .bool false, pt B 1, .int .i64 x.kind, pt B' 1, .int .i64 y.kind, .bool false, .bool false, .bool false, pt B 2, .slice a2 n2 k2, pt B' 2, .slice a2' n2' k2', ud, ud, ud, ud, ud, ud, ud, ud, ud, ud, ud, ud, ud, ud, ud, ud, ud, ud, ud, ud, ud, ud, ud, ud, ud, ud, ud, ud, ud, ud, ud, ud, ud, ud, ud, ud, ud, ud, ud, ud, ud, ud, ud, ud, ud, ud, ud, ud, ud, ud, ud, ud, ud, ud, ud, ud, ud, ud, ud, ud, ud, ud, ud, ud], defers := [] }) (obs := [.test .neq 3 (.tmp 12) (.tmp 14) (.int .i64 x.kind) (.int .i64 y.kind) (.bool false), .load 27 (B) (2) (.slice a2 n2 k2), .load 27 (B') (2) (.slice a2' n2' k2')]) (by kernel_rfl) ⟨ob_no (fun _ => neg_int _ _ _ _ _ _) q1, ob_load1 (fun _ e => by rw [e]; exact hb) c2 ga0, ob_load1 (fun _ e => by rw [e]; exact hb') c2' ga0, trivial⟩ ?_
   refine wpT_ask (i := 17) (f := 33) (vs := [.slice a2 n2 k2, .slice a2' n2' k2']) (d := some 22) (by kernel_rfl) Tryz.call33 (reqL l2 l2' hk) ?_ ?_
   ·intro w2 q2 hb1; replace hb := hb.next hb1; replace hb' := hb'.next hb1; replace hk := hk.trans (hb1.mono hk.size); clear hb1
    refine wpT_sym [none, none, none, none, some (.int .i64 x.quota), none, some (.int .i64 y.quota)] 18 (a' := { tmps := #[.agg C, .agg C', pt B 0, pt B' 0, .bool false, pt B 0, .int .u64 x.id, pt B' 0, .int .u64 y.id, .bool false, .bool false, pt B 1, .int .i64 x.kind, pt B' 1, .int .i64 y.kind, .bool false, .bool false, .bool false, pt B 2, .slice a2 n2 k2, pt B' 2, .slice a2' n2' k2', .bool true, .bool false, .bool false, .bool false, pt B 3, .int .i64 x.quota, pt B' 3, .int .i64 y.quota, ud, ud, ud, ud, ud, ud, ud, ud, ud, ud, ud, ud, ud, ud, ud, ud, ud, ud, ud, ud, ud, ud, ud, ud, ud, ud, ud, ud, ud, ud, ud, ud, ud, ud, ud, ud, ud, ud, ud, ud, ud, ud, ud, ud, ud, ud, ud, ud, ud, ud, ud, ud, ud, ud, ud, ud], defers := [] }) (obs := [.load 3 (B) (3) (.int .i64 x.quota), .load 3 (B') (3) (.int .i64 y.quota)]) (by kernel_rfl) ⟨ob_load1 (fun _ e => by rw [e]; exact hb) c3 ga2, ob_load1 (fun _ e => by rw [e]; exact hb') c3' ga2, trivial⟩ ?_
    by_cases q3 : ¬ x.quota = y.quota
    ·replace q3 : Hid (¬ x.quota = y.quota) := q3
     refine wpT_sym [some (.bool true), none, none, none, none, none, none, none, none] 25 (a' := { tmps := #[.agg C, .agg C', pt B 0, pt B' 0, .bool false, pt B 0, .int .u64 x.id, pt B' 0, .int .u64 y.id, .bool false, .bool false, pt B 1, .int .i64 x.kind, pt B' 1, .int .i64 y.kind, .bool false, .bool false, .bool false, pt B 2, .slice a2 n2 k2, pt B' 2, .slice a2' n2' k2', .bool true, .bool false, .bool false, .bool false, pt B 3, .int .i64 x.quota, pt B' 3, .int .i64 y.quota, .bool true, .bool true, .bool true, ud, ud, ud, ud, ud, .bool true, ud, ud, ud, ud, ud, ud, ud, ud, ud, ud, ud, ud, ud, ud, ud, ud, ud, ud, ud, ud, ud, ud, ud, ud, ud, ud, ud, ud, ud, ud, ud, ud, ud, ud, ud, ud, ud, ud, ud, ud, ud, ud, ud, ud, ud, ud, ud], defers := [] }) (obs := [.test .neq 3 (.tmp 27) (.tmp 29) (.int .i64 x.quota) (.int .i64 y.quota) (.bool true)]) (by kernel_rfl) ⟨ob_yes (fun _ => neg_int _ _ _ _ _ _) q3, trivial⟩ ?_
     refine wpT_end (by kernel_rfl) ?_
     go_wp2
     go_ret
     refine askP_no q3 hk ?_; intro e; rw [e]
    ·replace q3 : Hid (¬ (¬ x.quota = y.quota)) := q3
     refine wpT_sym [some (.bool false), none, none, none, some (.bool x.fixed), none, some (.bool y.fixed)] 25 (a' := { tmps := #[.agg C, .agg C', pt B 0, pt B' 0, .bool false, pt B 0, .int .u64 x.id, pt B' 0, .int .u64 y.id, .bool false, .bool false, pt B 1, .int .i64 x.kind, pt B' 1, .int .i64 y.kind, .bool false, .bool false, .bool false, pt B 2, .slice a2 n2 k2, pt B' 2, .slice a2' n2' k2', .bool true, .bool false, .bool false, .bool false, pt B 3, .int .i64 x.quota, pt B' 3, .int .i64 y.quota, .bool false, .bool false, .bool false, pt B 4, .bool x.fixed, pt B' 4, .bool y.fixed, ud, ud, ud, ud, ud, ud, ud, ud, ud, ud, ud, ud, ud, ud, ud, ud, ud, ud, ud, ud, ud, ud, ud, ud, ud, ud, ud, ud, ud, ud, ud, ud, ud, ud, ud, ud, ud, ud, ud, ud, ud, ud, ud, ud, ud, ud, ud, ud, ud], defers := [] }) (obs := [.test .neq 3 (.tmp 27) (.tmp 29) (.int .i64 x.quota) (.int .i64 y.quota) (.bool false), .load 4 (B) (4) (.bool x.fixed), .load 4 (B') (4) (.bool y.fixed)]) (by kernel_rfl) ⟨ob_no (fun _ => neg_int _ _ _ _ _ _) q3, ob_load1 (fun _ e => by rw [e]; exact hb) c4 ga3, ob_load1 (fun _ e => by rw [e]; exact hb') c4' ga3, trivial⟩ ?_
     by_cases q4 : ¬ x.fixed = y.fixed
     ·replace q4 : Hid (¬ x.fixed = y.fixed) := q4
      refine wpT_sym [some (.bool true), none] 32 (a' := { tmps := #[.agg C, .agg C', pt B 0, pt B' 0, .bool false, pt B 0, .int .u64 x.id, pt B' 0, .int .u64 y.id, .bool false, .bool false, pt B 1, .int .i64 x.kind, pt B' 1, .int .i64 y.kind, .bool false, .bool false, .bool false, pt B 2, .slice a2 n2 k2, pt B' 2, .slice a2' n2' k2', .bool true, .bool false, .bool false, .bool false, pt B 3, .int .i64 x.quota, pt B' 3, .int .i64 y.quota, .bool false, .bool false, .bool false, pt B 4, .bool x.fixed, pt B' 4, .bool y.fixed, .bool true, .bool true, ud, ud, ud, ud, ud, ud, ud, ud, ud, ud, ud, ud, ud, ud, ud, ud, ud, ud, ud, ud, ud, ud, ud, ud, ud, ud, ud, ud, ud, ud, ud, ud, ud, ud, ud, ud, ud, ud, ud, ud, ud, ud, ud, ud, ud, ud, ud], defers := [] }) (obs := [.test .neq 4 (.tmp 34) (.tmp 36) (.bool x.fixed) (.bool y.fixed) (.bool true)]) (by kernel_rfl) ⟨ob_yes (fun _ => neg_bool _ _ _ _) q4, trivial⟩ ?_
      refine wpT_end (by kernel_rfl) ?_
      go_wp2
      go_ret
      refine askP_no q4 hk ?_; intro e; rw [e]
     ·replace q4 : Hid (¬ (¬ x.fixed = y.fixed)) := q4
      refine wpT_sym [some (.bool false), none] 32 (a' := { tmps := #[.agg C, .agg C', pt B 0, pt B' 0, .bool false, pt B 0, .int .u64 x.id, pt B' 0, .int .u64 y.id, .bool false, .bool false, pt B 1, .int .i64 x.kind, pt B' 1, .int .i64 y.kind, .bool false, .bool false, .bool false, pt B 2, .slice a2 n2 k2, pt B' 2, .slice a2' n2' k2', .bool true, .bool false, .bool false, .bool false, pt B 3, .int .i64 x.quota, pt B' 3, .int .i64 y.quota, .bool false, .bool false, .bool false, pt B 4, .bool x.fixed, pt B' 4, .bool y.fixed, .bool false, .bool false, ud, ud, ud, ud, ud, ud, ud, ud, ud, ud, ud, ud, ud, ud, ud, ud, ud, ud, ud, ud, ud, ud, ud, ud, ud, ud, ud, ud, ud, ud, ud, ud, ud, ud, ud, ud, ud, ud, ud, ud, ud, ud, ud, ud, ud, ud, ud], defers := [] }) (obs := [.test .neq 4 (.tmp 34) (.tmp 36) (.bool x.fixed) (.bool y.fixed) (.bool false)]) (by kernel_rfl) ⟨ob_no (fun _ => neg_bool _ _ _ _) q4, trivial⟩ ?_
      refine wpT_end (by kernel_rfl) ?_
      go_upto_region 3 with (fail)
      refine wpT_region ?_
      refine wpT_sym [none, some (.slice a5 n5 k5), none, some (.slice a5' n5' k5')] 0 (a' := { tmps := #[.agg C, .agg C', pt B 0, pt B' 0, .bool false, pt B 0, .int .u64 x.id, pt B' 0, .int .u64 y.id, .bool false, .bool false, pt B 1, .int .i64 x.kind, pt B' 1, .int .i64 y.kind, .bool false, .bool false, .bool false, pt B 2, .slice a2 n2 k2, pt B' 2, .slice a2' n2' k2', .bool true, .bool false, .bool false, .bool false, pt B 3, .int .i64 x.quota, pt B' 3, .int .i64 y.quota, .bool false, .bool false, .bool false, pt B 4, .bool x.fixed, pt B' 4, .bool y.fixed, .bool false, .bool false, pt B 5, .slice a5 n5 k5, pt B' 5, .slice a5' n5' k5', ud, ud, ud, ud, ud, ud, ud, ud, ud, ud, ud, ud, ud, ud, ud, ud, ud, ud, ud, ud, ud, ud, ud, ud, ud, ud, ud, ud, ud, ud, ud, ud, ud, ud, ud, ud, ud, ud, ud, ud, ud, ud, ud], defers := [] }) (obs := [.load 28 (B) (5) (.slice a5 n5 k5), .load 28 (B') (5) (.slice a5' n5' k5')]) (by kernel_rfl) ⟨ob_load1 (fun _ e => by rw [e]; exact hb) c5 ga4, ob_load1 (fun _ e => by rw [e]; exact hb') c5' ga4, trivial⟩ ?_
      refine wpT_ask (i := 4) (f := 34) (vs := [.slice a5 n5 k5, .slice a5' n5' k5']) (d := some 43) (by kernel_rfl) Tryz.call34 (reqU l5 l5' hk) ?_ ?_
      ·intro w5 q5 hb1; replace hb := hb.next hb1; replace hb' := hb'.next hb1; replace hk := hk.trans (hb1.mono hk.size); clear hb1
       refine wpT_sym [none, none, some (.slice a6 n6 k6), none, some (.slice a6' n6' k6')] 5 (a' := { tmps := #[.agg C, .agg C', pt B 0, pt B' 0, .bool false, pt B 0, .int .u64 x.id, pt B' 0, .int .u64 y.id, .bool false, .bool false, pt B 1, .int .i64 x.kind, pt B' 1, .int .i64 y.kind, .bool false, .bool false, .bool false, pt B 2, .slice a2 n2 k2, pt B' 2, .slice a2' n2' k2', .bool true, .bool false, .bool false, .bool false, pt B 3, .int .i64 x.quota, pt B' 3, .int .i64 y.quota, .bool false, .bool false, .bool false, pt B 4, .bool x.fixed, pt B' 4, .bool y.fixed, .bool false, .bool false, pt B 5, .slice a5 n5 k5, pt B' 5, .slice a5' n5' k5', .bool true, .bool true, pt B 6, .slice a6 n6 k6, pt B' 6, .slice a6' n6' k6', ud, ud, ud, ud, ud, ud, ud, ud, ud, ud, ud, ud, ud, ud, ud, ud, ud, ud, ud, ud, ud, ud, ud, ud, ud, ud, ud, ud, ud, ud, ud, ud, ud, ud, ud, ud, ud], defers := [] }) (obs := [.load 28 (B) (6) (.slice a6 n6 k6), .load 28 (B') (6) (.slice a6' n6' k6')]) (by kernel_rfl) ⟨ob_load1 (fun _ e => by rw [e]; exact hb) c6 ga4, ob_load1 (fun _ e => by rw [e]; exact hb') c6' ga4, trivial⟩ ?_
       refine wpT_ask (i := 10) (f := 34) (vs := [.slice a6 n6 k6, .slice a6' n6' k6']) (d := some 49) (by kernel_rfl) Tryz.call34 (reqU l6 l6' hk) ?_ ?_
       ·intro w6 q6 hb1; replace hb := hb.next hb1; replace hb' := hb'.next hb1; replace hk := hk.trans (hb1.mono hk.size); clear hb1
        refine wpT_sym [none, none, none, some (.slice a7 n7 k7), none, some (.slice a7' n7' k7')] 11 (a' := { tmps := #[.agg C, .agg C', pt B 0, pt B' 0, .bool false, pt B 0, .int .u64 x.id, pt B' 0, .int .u64 y.id, .bool false, .bool false, pt B 1, .int .i64 x.kind, pt B' 1, .int .i64 y.kind, .bool false, .bool false, .bool false, pt B 2, .slice a2 n2 k2, pt B' 2, .slice a2' n2' k2', .bool true, .bool false, .bool false, .bool false, pt B 3, .int .i64 x.quota, pt B' 3, .int .i64 y.quota, .bool false, .bool false, .bool false, pt B 4, .bool x.fixed, pt B' 4, .bool y.fixed, .bool false, .bool false, pt B 5, .slice a5 n5 k5, pt B' 5, .slice a5' n5' k5', .bool true, .bool true, pt B 6, .slice a6 n6 k6, pt B' 6, .slice a6' n6' k6', .bool true, .bool true, .bool true, pt B 7, .slice a7 n7 k7, pt B' 7, .slice a7' n7' k7', ud, ud, ud, ud, ud, ud, ud, ud, ud, ud, ud, ud, ud, ud, ud, ud, ud, ud, ud, ud, ud, ud, ud, ud, ud, ud, ud, ud, ud, ud], defers := [] }) (obs := [.load 29 (B) (7) (.slice a7 n7 k7), .load 29 (B') (7) (.slice a7' n7' k7')]) (by kernel_rfl) ⟨ob_load1 (fun _ e => by rw [e]; exact hb) c7 ga5, ob_load1 (fun _ e => by rw [e]; exact hb') c7' ga5, trivial⟩ ?_
        refine wpT_ask (i := 17) (f := 35) (vs := [.slice a7 n7 k7, .slice a7' n7' k7']) (d := some 56) (by kernel_rfl) Tryz.call35 (reqM l7 l7' hk) ?_ ?_
        ·intro w7 q7 hb1; replace hb := hb.next hb1; replace hb' := hb'.next hb1; replace hk := hk.trans (hb1.mono hk.size); clear hb1
         refine wpT_sym [none, none, none, some (.agg (C.extract 8 (8 + 35))), none, some (.agg (C'.extract 8 (8 + 35)))] 18 (a' := { tmps := #[.agg C, .agg C', pt B 0, pt B' 0, .bool false, pt B 0, .int .u64 x.id, pt B' 0, .int .u64 y.id, .bool false, .bool false, pt B 1, .int .i64 x.kind, pt B' 1, .int .i64 y.kind, .bool false, .bool false, .bool false, pt B 2, .slice a2 n2 k2, pt B' 2, .slice a2' n2' k2', .bool true, .bool false, .bool false, .bool false, pt B 3, .int .i64 x.quota, pt B' 3, .int .i64 y.quota, .bool false, .bool false, .bool false, pt B 4, .bool x.fixed, pt B' 4, .bool y.fixed, .bool false, .bool false, pt B 5, .slice a5 n5 k5, pt B' 5, .slice a5' n5' k5', .bool true, .bool true, pt B 6, .slice a6 n6 k6, pt B' 6, .slice a6' n6' k6', .bool true, .bool true, .bool true, pt B 7, .slice a7 n7 k7, pt B' 7, .slice a7' n7' k7', .bool true, .bool true, .bool true, pt B 8, .agg (C.extract 8 (8 + 35)), pt B' 8, .agg (C'.extract 8 (8 + 35)), ud, ud, ud, ud, ud, ud, ud, ud, ud, ud, ud, ud, ud, ud, ud, ud, ud, ud, ud, ud, ud, ud, ud], defers := [] }) (obs := [.load 39 (B) (8) (.agg (C.extract 8 (8 + 35))), .load 39 (B') (8) (.agg (C'.extract 8 (8 + 35)))]) (by kernel_rfl) ⟨ob_loadp 35 (fun _ e => by rw [e]; exact hb) rfl (by rw [hz]; omega) Tryz.underlying39 (by kernel_rfl) size36, ob_loadp 35 (fun _ e => by rw [e]; exact hb') rfl (by rw [hz']; omega) Tryz.underlying39 (by kernel_rfl) size36, trivial⟩ ?_
         refine wpT_ask (i := 24) (f := 36) (vs := [.agg (C.extract 8 (8 + 35)), .agg (C'.extract 8 (8 + 35))]) (d := some 63) (by kernel_rfl) Tryz.call36 (rsameThread_any (h.thd.next hk) (h'.thd.next hk)) ?_ ?_
         ·intro w8 q8 hb1; replace hb := hb.next hb1; replace hb' := hb'.next hb1; replace hk := hk.trans (hb1.mono hk.size); clear hb1
          refine wpT_sym [none, none, none, some (.agg (C.extract 43 (43 + 6))), none, some (.agg (C'.extract 43 (43 + 6)))] 25 (a' := { tmps := #[.agg C, .agg C', pt B 0, pt B' 0, .bool false, pt B 0, .int .u64 x.id, pt B' 0, .int .u64 y.id, .bool false, .bool false, pt B 1, .int .i64 x.kind, pt B' 1, .int .i64 y.kind, .bool false, .bool false, .bool false, pt B 2, .slice a2 n2 k2, pt B' 2, .slice a2' n2' k2', .bool true, .bool false, .bool false, .bool false, pt B 3, .int .i64 x.quota, pt B' 3, .int .i64 y.quota, .bool false, .bool false, .bool false, pt B 4, .bool x.fixed, pt B' 4, .bool y.fixed, .bool false, .bool false, pt B 5, .slice a5 n5 k5, pt B' 5, .slice a5' n5' k5', .bool true, .bool true, pt B 6, .slice a6 n6 k6, pt B' 6, .slice a6' n6' k6', .bool true, .bool true, .bool true, pt B 7, .slice a7 n7 k7, pt B' 7, .slice a7' n7' k7', .bool true, .bool true, .bool true, pt B 8, .agg (C.extract 8 (8 + 35)), pt B' 8, .agg (C'.extract 8 (8 + 35)), .bool true, .bool true, .bool true, pt B 43, .agg (C.extract 43 (43 + 6)), pt B' 43, .agg (C'.extract 43 (43 + 6)), ud, ud, ud, ud, ud, ud, ud, ud, ud, ud, ud, ud, ud, ud, ud, ud], defers := [] }) (obs := [.load 41 (B) (43) (.agg (C.extract 43 (43 + 6))), .load 41 (B') (43) (.agg (C'.extract 43 (43 + 6)))]) (by kernel_rfl) ⟨ob_loadp 6 (fun _ e => by rw [e]; exact hb) rfl (by rw [hz]; omega) Tryz.underlying41 (by kernel_rfl) size38, ob_loadp 6 (fun _ e => by rw [e]; exact hb') rfl (by rw [hz']; omega) Tryz.underlying41 (by kernel_rfl) size38, trivial⟩ ?_
          refine wpT_ask (i := 31) (f := 37) (vs := [.agg (C.extract 43 (43 + 6)), .agg (C'.extract 43 (43 + 6))]) (d := some 70) (by kernel_rfl) Tryz.call37 (rsameGate_any (h.gtd.next hk) (h'.gtd.next hk)) ?_ ?_
          ·intro w9 q9 hb1; replace hb := hb.next hb1; replace hb' := hb'.next hb1; replace hk := hk.trans (hb1.mono hk.size); clear hb1
           refine wpT_sym [none, none, none, some (.slice a49 n49 k49), none, some (.slice a49' n49' k49')] 32 (a' := { tmps := #[.agg C, .agg C', pt B 0, pt B' 0, .bool false, pt B 0, .int .u64 x.id, pt B' 0, .int .u64 y.id, .bool false, .bool false, pt B 1, .int .i64 x.kind, pt B' 1, .int .i64 y.kind, .bool false, .bool false, .bool false, pt B 2, .slice a2 n2 k2, pt B' 2, .slice a2' n2' k2', .bool true, .bool false, .bool false, .bool false, pt B 3, .int .i64 x.quota, pt B' 3, .int .i64 y.quota, .bool false, .bool false, .bool false, pt B 4, .bool x.fixed, pt B' 4, .bool y.fixed, .bool false, .bool false, pt B 5, .slice a5 n5 k5, pt B' 5, .slice a5' n5' k5', .bool true, .bool true, pt B 6, .slice a6 n6 k6, pt B' 6, .slice a6' n6' k6', .bool true, .bool true, .bool true, pt B 7, .slice a7 n7 k7, pt B' 7, .slice a7' n7' k7', .bool true, .bool true, .bool true, pt B 8, .agg (C.extract 8 (8 + 35)), pt B' 8, .agg (C'.extract 8 (8 + 35)), .bool true, .bool true, .bool true, pt B 43, .agg (C.extract 43 (43 + 6)), pt B' 43, .agg (C'.extract 43 (43 + 6)), .bool true, .bool true, .bool true, pt B 49, .slice a49 n49 k49, pt B' 49, .slice a49' n49' k49', ud, ud, ud, ud, ud, ud, ud, ud, ud], defers := [] }) (obs := [.load 28 (B) (49) (.slice a49 n49 k49), .load 28 (B') (49) (.slice a49' n49' k49')]) (by kernel_rfl) ⟨ob_load1 (fun _ e => by rw [e]; exact hb) c49 ga4, ob_load1 (fun _ e => by rw [e]; exact hb') c49' ga4, trivial⟩ ?_
           refine wpT_ask (i := 38) (f := 34) (vs := [.slice a49 n49 k49, .slice a49' n49' k49']) (d := some 77) (by kernel_rfl) Tryz.call34 (reqU l49 l49' hk) ?_ ?_
           ·intro w10 q10 hb1; replace hb := hb.next hb1; replace hb' := hb'.next hb1; replace hk := hk.trans (hb1.mono hk.size); clear hb1
            refine wpT_sym [none, none, none, some (.slice a50 n50 k50), none, some (.slice a50' n50' k50')] 39 (a' := { tmps := #[.agg C, .agg C', pt B 0, pt B' 0, .bool false, pt B 0, .int .u64 x.id, pt B' 0, .int .u64 y.id, .bool false, .bool false, pt B 1, .int .i64 x.kind, pt B' 1, .int .i64 y.kind, .bool false, .bool false, .bool false, pt B 2, .slice a2 n2 k2, pt B' 2, .slice a2' n2' k2', .bool true, .bool false, .bool false, .bool false, pt B 3, .int .i64 x.quota, pt B' 3, .int .i64 y.quota, .bool false, .bool false, .bool false, pt B 4, .bool x.fixed, pt B' 4, .bool y.fixed, .bool false, .bool false, pt B 5, .slice a5 n5 k5, pt B' 5, .slice a5' n5' k5', .bool true, .bool true, pt B 6, .slice a6 n6 k6, pt B' 6, .slice a6' n6' k6', .bool true, .bool true, .bool true, pt B 7, .slice a7 n7 k7, pt B' 7, .slice a7' n7' k7', .bool true, .bool true, .bool true, pt B 8, .agg (C.extract 8 (8 + 35)), pt B' 8, .agg (C'.extract 8 (8 + 35)), .bool true, .bool true, .bool true, pt B 43, .agg (C.extract 43 (43 + 6)), pt B' 43, .agg (C'.extract 43 (43 + 6)), .bool true, .bool true, .bool true, pt B 49, .slice a49 n49 k49, pt B' 49, .slice a49' n49' k49', .bool true, .bool true, .bool true, pt B 50, .slice a50 n50 k50, pt B' 50, .slice a50' n50' k50', ud, ud], defers := [] }) (obs := [.load 28 (B) (50) (.slice a50 n50 k50), .load 28 (B') (50) (.slice a50' n50' k50')]) (by kernel_rfl) ⟨ob_load1 (fun _ e => by rw [e]; exact hb) c50 ga4, ob_load1 (fun _ e => by rw [e]; exact hb') c50' ga4, trivial⟩ ?_
            refine wpT_ask (i := 45) (f := 34) (vs := [.slice a50 n50 k50, .slice a50' n50' k50']) (d := some 84) (by kernel_rfl) Tryz.call34 (reqU l50 l50' hk) ?_ ?_
            ·intro w11 q11 hb1; replace hb := hb.next hb1; replace hb' := hb'.next hb1; replace hk := hk.trans (hb1.mono hk.size); clear hb1
             refine wpT_sym [none, none] 46 (a' := { tmps := #[.agg C, .agg C', pt B 0, pt B' 0, .bool true, pt B 0, .int .u64 x.id, pt B' 0, .int .u64 y.id, .bool false, .bool false, pt B 1, .int .i64 x.kind, pt B' 1, .int .i64 y.kind, .bool false, .bool false, .bool false, pt B 2, .slice a2 n2 k2, pt B' 2, .slice a2' n2' k2', .bool true, .bool false, .bool false, .bool false, pt B 3, .int .i64 x.quota, pt B' 3, .int .i64 y.quota, .bool false, .bool false, .bool false, pt B 4, .bool x.fixed, pt B' 4, .bool y.fixed, .bool false, .bool false, pt B 5, .slice a5 n5 k5, pt B' 5, .slice a5' n5' k5', .bool true, .bool true, pt B 6, .slice a6 n6 k6, pt B' 6, .slice a6' n6' k6', .bool true, .bool true, .bool true, pt B 7, .slice a7 n7 k7, pt B' 7, .slice a7' n7' k7', .bool true, .bool true, .bool true, pt B 8, .agg (C.extract 8 (8 + 35)), pt B' 8, .agg (C'.extract 8 (8 + 35)), .bool true, .bool true, .bool true, pt B 43, .agg (C.extract 43 (43 + 6)), pt B' 43, .agg (C'.extract 43 (43 + 6)), .bool true, .bool true, .bool true, pt B 49, .slice a49 n49 k49, pt B' 49, .slice a49' n49' k49', .bool true, .bool true, .bool true, pt B 50, .slice a50 n50 k50, pt B' 50, .slice a50' n50' k50', .bool true, .bool true], defers := [] }) (obs := []) (by kernel_rfl) trivial ?_
             refine wpT_end (by kernel_rfl) ?_
             go_wp2
             go_ret
             exact askP_yes (ob_iff.1 ⟨Classical.not_not.1 q0.out, Classical.not_not.1 q1.out, q2.out, Classical.not_not.1 q3.out, Classical.not_not.1 q4.out, q5.out, q6.out, q7.out, q8.out, q9.out, q10.out, q11.out⟩) hk
            ·intro w11 q11 hb1; replace hb := hb.next hb1; replace hb' := hb'.next hb1; replace hk := hk.trans (hb1.mono hk.size); clear hb1
             refine wpT_sym [none, none] 46 (a' := { tmps := #[.agg C, .agg C', pt B 0, pt B' 0, .bool false, pt B 0, .int .u64 x.id, pt B' 0, .int .u64 y.id, .bool false, .bool false, pt B 1, .int .i64 x.kind, pt B' 1, .int .i64 y.kind, .bool false, .bool false, .bool false, pt B 2, .slice a2 n2 k2, pt B' 2, .slice a2' n2' k2', .bool true, .bool false, .bool false, .bool false, pt B 3, .int .i64 x.quota, pt B' 3, .int .i64 y.quota, .bool false, .bool false, .bool false, pt B 4, .bool x.fixed, pt B' 4, .bool y.fixed, .bool false, .bool false, pt B 5, .slice a5 n5 k5, pt B' 5, .slice a5' n5' k5', .bool true, .bool true, pt B 6, .slice a6 n6 k6, pt B' 6, .slice a6' n6' k6', .bool true, .bool true, .bool true, pt B 7, .slice a7 n7 k7, pt B' 7, .slice a7' n7' k7', .bool true, .bool true, .bool true, pt B 8, .agg (C.extract 8 (8 + 35)), pt B' 8, .agg (C'.extract 8 (8 + 35)), .bool true, .bool true, .bool true, pt B 43, .agg (C.extract 43 (43 + 6)), pt B' 43, .agg (C'.extract 43 (43 + 6)), .bool true, .bool true, .bool true, pt B 49, .slice a49 n49 k49, pt B' 49, .slice a49' n49' k49', .bool true, .bool true, .bool true, pt B 50, .slice a50 n50 k50, pt B' 50, .slice a50' n50' k50', .bool false, .bool false], defers := [] }) (obs := []) (by kernel_rfl) trivial ?_
             refine wpT_end (by kernel_rfl) ?_
             go_wp2
             go_ret
             refine askP_no q11 hk ?_; intro e; rw [e]
           ·intro w10 q10 hb1; replace hb := hb.next hb1; replace hb' := hb'.next hb1; replace hk := hk.trans (hb1.mono hk.size); clear hb1
            refine wpT_sym [none, none, none, none, none, none, none, none, none] 39 (a' := { tmps := #[.agg C, .agg C', pt B 0, pt B' 0, .bool false, pt B 0, .int .u64 x.id, pt B' 0, .int .u64 y.id, .bool false, .bool false, pt B 1, .int .i64 x.kind, pt B' 1, .int .i64 y.kind, .bool false, .bool false, .bool false, pt B 2, .slice a2 n2 k2, pt B' 2, .slice a2' n2' k2', .bool true, .bool false, .bool false, .bool false, pt B 3, .int .i64 x.quota, pt B' 3, .int .i64 y.quota, .bool false, .bool false, .bool false, pt B 4, .bool x.fixed, pt B' 4, .bool y.fixed, .bool false, .bool false, pt B 5, .slice a5 n5 k5, pt B' 5, .slice a5' n5' k5', .bool true, .bool true, pt B 6, .slice a6 n6 k6, pt B' 6, .slice a6' n6' k6', .bool true, .bool true, .bool true, pt B 7, .slice a7 n7 k7, pt B' 7, .slice a7' n7' k7', .bool true, .bool true, .bool true, pt B 8, .agg (C.extract 8 (8 + 35)), pt B' 8, .agg (C'.extract 8 (8 + 35)), .bool true, .bool true, .bool true, pt B 43, .agg (C.extract 43 (43 + 6)), pt B' 43, .agg (C'.extract 43 (43 + 6)), .bool true, .bool true, .bool true, pt B 49, .slice a49 n49 k49, pt B' 49, .slice a49' n49' k49', .bool false, .bool false, .bool false, ud, ud, ud, ud, ud, .bool false], defers := [] }) (obs := []) (by kernel_rfl) trivial ?_
            refine wpT_end (by kernel_rfl) ?_
            go_wp2
            go_ret
            refine askP_no q10 hk ?_; intro e; rw [e]
          ·intro w9 q9 hb1; replace hb := hb.next hb1; replace hb' := hb'.next hb1; replace hk := hk.trans (hb1.mono hk.size); clear hb1
           refine wpT_sym [none, none, none, none, none, none, none, none, none, none, none, none, none, none, none, none] 32 (a' := { tmps := #[.agg C, .agg C', pt B 0, pt B' 0, .bool false, pt B 0, .int .u64 x.id, pt B' 0, .int .u64 y.id, .bool false, .bool false, pt B 1, .int .i64 x.kind, pt B' 1, .int .i64 y.kind, .bool false, .bool false, .bool false, pt B 2, .slice a2 n2 k2, pt B' 2, .slice a2' n2' k2', .bool true, .bool false, .bool false, .bool false, pt B 3, .int .i64 x.quota, pt B' 3, .int .i64 y.quota, .bool false, .bool false, .bool false, pt B 4, .bool x.fixed, pt B' 4, .bool y.fixed, .bool false, .bool false, pt B 5, .slice a5 n5 k5, pt B' 5, .slice a5' n5' k5', .bool true, .bool true, pt B 6, .slice a6 n6 k6, pt B' 6, .slice a6' n6' k6', .bool true, .bool true, .bool true, pt B 7, .slice a7 n7 k7, pt B' 7, .slice a7' n7' k7', .bool true, .bool true, .bool true, pt B 8, .agg (C.extract 8 (8 + 35)), pt B' 8, .agg (C'.extract 8 (8 + 35)), .bool true, .bool true, .bool true, pt B 43, .agg (C.extract 43 (43 + 6)), pt B' 43, .agg (C'.extract 43 (43 + 6)), .bool false, .bool false, .bool false, ud, ud, ud, ud, ud, .bool false, .bool false, ud, ud, ud, ud, ud, .bool false], defers := [] }) (obs := []) (by kernel_rfl) trivial ?_
           refine wpT_end (by kernel_rfl) ?_
           go_wp2
           go_ret
           refine askP_no q9 hk ?_; intro e; rw [e]
         ·intro w8 q8 hb1; replace hb := hb.next hb1; replace hb' := hb'.next hb1; replace hk := hk.trans (hb1.mono hk.size); clear hb1
          refine wpT_sym [none, none, none, none, none, none, none, none, none, none, none, none, none, none, none, none, none, none, none, none, none, none, none] 25 (a' := { tmps := #[.agg C, .agg C', pt B 0, pt B' 0, .bool false, pt B 0, .int .u64 x.id, pt B' 0, .int .u64 y.id, .bool false, .bool false, pt B 1, .int .i64 x.kind, pt B' 1, .int .i64 y.kind, .bool false, .bool false, .bool false, pt B 2, .slice a2 n2 k2, pt B' 2, .slice a2' n2' k2', .bool true, .bool false, .bool false, .bool false, pt B 3, .int .i64 x.quota, pt B' 3, .int .i64 y.quota, .bool false, .bool false, .bool false, pt B 4, .bool x.fixed, pt B' 4, .bool y.fixed, .bool false, .bool false, pt B 5, .slice a5 n5 k5, pt B' 5, .slice a5' n5' k5', .bool true, .bool true, pt B 6, .slice a6 n6 k6, pt B' 6, .slice a6' n6' k6', .bool true, .bool true, .bool true, pt B 7, .slice a7 n7 k7, pt B' 7, .slice a7' n7' k7', .bool true, .bool true, .bool true, pt B 8, .agg (C.extract 8 (8 + 35)), pt B' 8, .agg (C'.extract 8 (8 + 35)), .bool false, .bool false, .bool false, ud, ud, ud, ud, ud, .bool false, .bool false, ud, ud, ud, ud, ud, .bool false, .bool false, ud, ud, ud, ud, ud, .bool false], defers := [] }) (obs := []) (by kernel_rfl) trivial ?_
          refine wpT_end (by kernel_rfl) ?_
          go_wp2
          go_ret
          refine askP_no q8 hk ?_; intro e; rw [e]
        ·intro w7 q7 hb1; replace hb := hb.next hb1; replace hb' := hb'.next hb1; replace hk := hk.trans (hb1.mono hk.size); clear hb1
         refine wpT_sym [none, none, none, none, none, none, none, none, none, none, none, none, none, none, none, none, none, none, none, none, none, none, none, none, none, none, none, none, none, none] 18 (a' := { tmps := #[.agg C, .agg C', pt B 0, pt B' 0, .bool false, pt B 0, .int .u64 x.id, pt B' 0, .int .u64 y.id, .bool false, .bool false, pt B 1, .int .i64 x.kind, pt B' 1, .int .i64 y.kind, .bool false, .bool false, .bool false, pt B 2, .slice a2 n2 k2, pt B' 2, .slice a2' n2' k2', .bool true, .bool false, .bool false, .bool false, pt B 3, .int .i64 x.quota, pt B' 3, .int .i64 y.quota, .bool false, .bool false, .bool false, pt B 4, .bool x.fixed, pt B' 4, .bool y.fixed, .bool false, .bool false, pt B 5, .slice a5 n5 k5, pt B' 5, .slice a5' n5' k5', .bool true, .bool true, pt B 6, .slice a6 n6 k6, pt B' 6, .slice a6' n6' k6', .bool true, .bool true, .bool true, pt B 7, .slice a7 n7 k7, pt B' 7, .slice a7' n7' k7', .bool false, .bool false, .bool false, ud, ud, ud, ud, ud, .bool false, .bool false, ud, ud, ud, ud, ud, .bool false, .bool false, ud, ud, ud, ud, ud, .bool false, .bool false, ud, ud, ud, ud, ud, .bool false], defers := [] }) (obs := []) (by kernel_rfl) trivial ?_
         refine wpT_end (by kernel_rfl) ?_
         go_wp2
         go_ret
         refine askP_no q7 hk ?_; intro e; rw [e]
       ·intro w6 q6 hb1; replace hb := hb.next hb1; replace hb' := hb'.next hb1; replace hk := hk.trans (hb1.mono hk.size); clear hb1
        refine wpT_sym [none, none, none, none, none, none, none, none, none, none, none, none, none, none, none, none, none, none, none, none, none, none, none, none, none, none, none, none, none, none, none, none, none, none, none, none, none] 11 (a' := { tmps := #[.agg C, .agg C', pt B 0, pt B' 0, .bool false, pt B 0, .int .u64 x.id, pt B' 0, .int .u64 y.id, .bool false, .bool false, pt B 1, .int .i64 x.kind, pt B' 1, .int .i64 y.kind, .bool false, .bool false, .bool false, pt B 2, .slice a2 n2 k2, pt B' 2, .slice a2' n2' k2', .bool true, .bool false, .bool false, .bool false, pt B 3, .int .i64 x.quota, pt B' 3, .int .i64 y.quota, .bool false, .bool false, .bool false, pt B 4, .bool x.fixed, pt B' 4, .bool y.fixed, .bool false, .bool false, pt B 5, .slice a5 n5 k5, pt B' 5, .slice a5' n5' k5', .bool true, .bool true, pt B 6, .slice a6 n6 k6, pt B' 6, .slice a6' n6' k6', .bool false, .bool false, .bool false, ud, ud, ud, ud, ud, .bool false, .bool false, ud, ud, ud, ud, ud, .bool false, .bool false, ud, ud, ud, ud, ud, .bool false, .bool false, ud, ud, ud, ud, ud, .bool false, .bool false, ud, ud, ud, ud, ud, .bool false], defers := [] }) (obs := []) (by kernel_rfl) trivial ?_
        refine wpT_end (by kernel_rfl) ?_
        go_wp2
        go_ret
        refine askP_no q6 hk ?_; intro e; rw [e]
      ·intro w5 q5 hb1; replace hb := hb.next hb1; replace hb' := hb'.next hb1; replace hk := hk.trans (hb1.mono hk.size); clear hb1
       refine wpT_sym [none, none, none, none, none, none, none, none, none, none, none, none, none, none, none, none, none, none, none, none, none, none, none, none, none, none, none, none, none, none, none, none, none, none, none, none, none, none, none, none, none, none, none] 5 (a' := { tmps := #[.agg C, .agg C', pt B 0, pt B' 0, .bool false, pt B 0, .int .u64 x.id, pt B' 0, .int .u64 y.id, .bool false, .bool false, pt B 1, .int .i64 x.kind, pt B' 1, .int .i64 y.kind, .bool false, .bool false, .bool false, pt B 2, .slice a2 n2 k2, pt B' 2, .slice a2' n2' k2', .bool true, .bool false, .bool false, .bool false, pt B 3, .int .i64 x.quota, pt B' 3, .int .i64 y.quota, .bool false, .bool false, .bool false, pt B 4, .bool x.fixed, pt B' 4, .bool y.fixed, .bool false, .bool false, pt B 5, .slice a5 n5 k5, pt B' 5, .slice a5' n5' k5', .bool false, .bool false, ud, ud, ud, ud, ud, .bool false, .bool false, ud, ud, ud, ud, ud, .bool false, .bool false, ud, ud, ud, ud, ud, .bool false, .bool false, ud, ud, ud, ud, ud, .bool false, .bool false, ud, ud, ud, ud, ud, .bool false, .bool false, ud, ud, ud, ud, ud, .bool false], defers := [] }) (obs := []) (by kernel_rfl) trivial ?_
       refine wpT_end (by kernel_rfl) ?_
       go_wp2
       go_ret
       refine askP_no q5 hk ?_; intro e; rw [e]
   ·intro w2 q2 hb1; replace hb := hb.next hb1; replace hb' := hb'.next hb1; replace hk := hk.trans (hb1.mono hk.size); clear hb1
    refine wpT_sym [none, none, none, none, none, none, none, none, none, none, none, none, none, none, none, none] 18 (a' := { tmps := #[.agg C, .agg C', pt B 0, pt B' 0, .bool false, pt B 0, .int .u64 x.id, pt B' 0, .int .u64 y.id, .bool false, .bool false, pt B 1, .int .i64 x.kind, pt B' 1, .int .i64 y.kind, .bool false, .bool false, .bool false, pt B 2, .slice a2 n2 k2, pt B' 2, .slice a2' n2' k2', .bool false, .bool true, .bool true, .bool true, ud, ud, ud, ud, ud, .bool true, .bool true, ud, ud, ud, ud, ud, .bool true, ud, ud, ud, ud, ud, ud, ud, ud, ud, ud, ud, ud, ud, ud, ud, ud, ud, ud, ud, ud, ud, ud, ud, ud, ud, ud, ud, ud, ud, ud, ud, ud, ud, ud, ud, ud, ud, ud, ud, ud, ud, ud, ud, ud, ud, ud, ud], defers := [] }) (obs := []) (by kernel_rfl) trivial ?_
    refine wpT_end (by kernel_rfl) ?_
    go_wp2
    go_ret
    refine askP_no q2 hk ?_; intro e; rw [e]
end Go.Proofs.YtiiaohejldchdaaGreat
namespace Go.Proofs.YtiiaohejldchdaaGreat
set_option maxRecDepth 100000
set_option maxHeartbeats 8000000
open Go.RowKit Go.Shelf
set_option linter.unusedVariables false
attribute [local go_sem] Oper.semAt_some

theorem askP_b {X : Prop} {W w' : World} {b : Bool} (h : b = true ↔ X) (hk : Below W.heap.size W w') : AskP X W (.returned (.bool b)) w' := ⟨b, rfl, h, hk⟩
theorem Asks.of {f : FuncId} {args : Array Value} {W : World} {b : Bool} (h : Calls Tryz.prog f args W fun e w' => e = .returned (.bool b) ∧ Below W.heap.size W w') : Asks f args (b = true) W := by
 refine h.mono ?_
 rintro e w' ⟨rfl, hk⟩
 exact askP_b Iff.rfl hk
theorem rid_any (n : Int) (w : World) : Asks 46 #[.int .u64 n] (idB n = true) w := by
 unfold Asks
 go_enter Tryz.func46, Tryz.ntmps46
 go_wp2
 all_goals go_ret
 all_goals (refine askP_b ?_ (Below.refl _ _); unfold idB; simp; omega)
def spanI (lo hi : Int) : Bool := decide (lo ≤ hi) && decide (hi ≤ 2305843009213693952)
theorem rspan_any (lo hi : Int) (w : World) : Asks 74 #[.agg #[.int .u64 lo, .int .u64 hi]] (spanI lo hi = true) w := by
 unfold Asks
 go_enter Tryz.func74, Tryz.ntmps74
 go_wp2
 all_goals go_ret
 all_goals (refine askP_b ?_ ((Below.refl _ w).alloc (Nat.le_refl _) _); unfold spanI; simp; omega)
def noA (L : Lb) : Bool := L.all fun p => !decide (p.2 = 5)
theorem noA_iff {L : Lb} : noA L = true ↔ ∀ i, i < L.length → ¬ (L.getD i (0, 0)).2 = 5 := by
 unfold noA
 rw [List.all_eq_true]
 constructor
 ·intro h i hi
  have := h L[i] (List.getElem_mem hi)
  simpa [List.getD_eq_getElem?_getD, List.getElem?_eq_getElem hi] using this
 ·intro h p hp
  obtain ⟨i, hi, e⟩ := List.mem_iff_getElem.1 hp
  have := h i hi
  simpa [List.getD_eq_getElem?_getD, List.getElem?_eq_getElem hi, e] using this
theorem kept_iff {L : Lb} : keptB L = true ↔ (L.length ≤ 16 ∧ fitB L = true ∧ noA L = true) := by unfold keptB noA; simp
theorem rkept_any {w0 w : World} {ao : Option Addr} {n cap : Nat} {L : Lb} (h0 : LabD (LtN w0) w0 ao n cap L) (hk : Below w0.heap.size w0 w) : Asks 47 #[.slice ao n cap] (keptB L = true) w := by
 have hL := h0.lab' hk
 have hn : Hid (L.length = n) := hL.1
 have hnc := hL.2.1
 have hcm := hL.2.2.1.1
 clear h0 hk
 unfold Asks
 go_enter Tryz.func47, Tryz.ntmps47
 go_wp2
 go_loopw [3] (fun i wr => ∃ k : Nat, k ≤ n ∧ i = .int .i64 k ∧ Hid (∀ j, j < k → ¬ (L.getD j (0, 0)).2 = 5) ∧ Below w.heap.size w wr) (fun i _ => n - (intOf i).toNat)
 case atStart => exact ⟨0, Nat.zero_le _, rfl, fun j hj => absurd hj (by omega), Below.refl _ _⟩
 case round =>
  obtain ⟨k, hk, rfl, hal, hb⟩ := hrel
  have hbs := hb.size
  by_cases hkn : k < n
  ·obtain ⟨b, off, x, y, rfl, hB, d0, d1, hxy⟩ := hL.at hb hkn
   have hkn' : (k : Int) < n := by omega
   by_cases hy : y = 5
   ·have hq : Hid (¬ noA L = true) := by
     refine (?_ : ¬ noA L = true)
     intro e; have := noA_iff.1 e k (by rw [hn.out]; exact hkn); rw [hxy.out] at this; exact this hy
    subst hy
    go_wp2
    go_ret
    exact askP_no hq hb (fun e => (kept_iff.1 e).2.2)
   ·have hy' : (y == 5) = false := by rw [beq_eq_false_iff_ne]; exact hy
    have hyh : Hid (¬ y = 5) := hy
    clear hy
    go_wp2
    go_roundw
    case rel => exact ⟨k + 1, by omega, by go_num, fun j hj => by
      rcases Nat.lt_or_ge j k with h | h
      ·exact hal.out j h
      ·obtain rfl : j = k := by omega
       rw [hxy.out]; exact hyh.out, hb⟩
    case measure => simp [intOf]; omega
  ·obtain rfl : k = n := by omega
   have hno : Hid (noA L = true) := noA_iff.2 fun i hi => hal.out i (by rw [hn.out] at hi; exact hi)
   clear hal
   by_cases h16 : k ≤ 16
   ·have h16' : (k : Int) ≤ 16 := by omega
    go_wp2_with (go_at_call 72; (with_reducible refine (Asks.of (rlfit_any (hL.later hb) hbs)).on ?_ ?_) <;> intro w1 hq hk1)
    ·go_ret
     exact askP_yes (kept_iff.2 ⟨by rw [hn.out]; exact h16, hq.out, hno.out⟩) (hb.trans (hk1.mono hbs))
    ·go_ret
     exact askP_no hq (hb.trans (hk1.mono hbs)) (fun e => (kept_iff.1 e).2.1)
   ·have h16' : ¬ (k : Int) ≤ 16 := by omega
    go_wp2
    go_ret
    exact askP_no (show Hid (¬ k ≤ 16) from h16) hb (fun e => by have := (kept_iff.1 e).1; rw [hn.out] at this; exact this)
theorem boun_iff {l b : Lb} : bounB l b = true ↔ (keptB l = true ∧ keptB b = true ∧ leqB l b = true) := by unfold bounB; simp
end Go.Proofs.YtiiaohejldchdaaGreat
namespace Go.Proofs.YtiiaohejldchdaaGreat
set_option maxRecDepth 100000
set_option maxHeartbeats 8000000
open Go.RowKit Go.Shelf
set_option linter.unusedVariables false
attribute [local go_sem] Oper.semAt_some

theorem ris_iff : ∀ {l : List Int}, risB l = true ↔ ∀ i, i + 1 < l.length → l.getD i 0 < l.getD (i + 1) 0 := by
 intro l
 unfold risB
 rw [decide_eq_true_iff]
 induction l with
 | nil => simp
 | cons x l ih =>
  rw [List.pairwise_cons, ih]
  constructor
  ·rintro ⟨h1, h2⟩ i hi
   cases i with
   | zero =>
    have hl : 0 < l.length := by simpa using hi
    have := h1 l[0] (List.getElem_mem hl)
    simpa [List.getD_eq_getElem?_getD, List.getElem?_eq_getElem hl] using this
   | succ i => exact h2 i (by simpa using hi)
  ·intro h
   have h2 : ∀ i, i + 1 < l.length → l.getD i 0 < l.getD (i + 1) 0 := fun i hi => h (i + 1) (by simpa using hi)
   refine ⟨fun y hy => ?_, h2⟩
   obtain ⟨j, hj, rfl⟩ := List.mem_iff_getElem.1 hy
   have h0 : x < l.getD 0 0 := h 0 (by simp; omega)
   have : ∀ j, j < l.length → x < l.getD j 0 := by
    intro j
    induction j with
    | zero => intro _; exact h0
    | succ j ihj => intro hj; exact Int.lt_trans (ihj (by omega)) (h2 j hj)
   have := this j hj
   simpa [List.getD_eq_getElem?_getD, List.getElem?_eq_getElem hj] using this
def allI (l : List Int) : Bool := l.all idB
theorem allI_iff {l : List Int} : allI l = true ↔ ∀ i, i < l.length → idB (l.getD i 0) = true := by
 unfold allI
 rw [List.all_eq_true]
 constructor
 ·intro h i hi
  have := h l[i] (List.getElem_mem hi)
  simpa [List.getD_eq_getElem?_getD, List.getElem?_eq_getElem hi] using this
 ·intro h p hp
  obtain ⟨i, hi, e⟩ := List.mem_iff_getElem.1 hp
  have := h i hi
  simpa [List.getD_eq_getElem?_getD, List.getElem?_eq_getElem hi, e] using this
theorem fn_succ {p : Nat → Prop} {k : Nat} (h : ∀ i, i < k → p i) (hk : p k) : ∀ i, i < k + 1 → p i := fun i hi => by
 rcases Nat.lt_or_ge i k with h' | h'
 ·exact h i h'
 ·have : i = k := by omega
  rw [this]; exact hk
end Go.Proofs.YtiiaohejldchdaaGreat
namespace Go.Proofs.YtiiaohejldchdaaGreat
set_option maxRecDepth 100000
set_option maxHeartbeats 8000000
open Go.RowKit Go.Shelf
set_option linter.unusedVariables false
attribute [local go_sem] Oper.semAt_some
section
variable {w : World}
theorem tge_int (t : TypeId) (x y : Operand) (k : IntKind) (m n : Int) : ∃ b : Bool, (do eqGuard .geq t x y (.int k m) (.int k n); binOp .geq t (.int k m) (.int k n)).run Tryz.prog w = .ok (.bool b) w ∧ (b = true ↔ n ≤ m) :=
 ⟨decide (n ≤ m), by simp [eqGuard, binOp, Op.intCmp], by simp⟩
theorem tle_int (t : TypeId) (x y : Operand) (k : IntKind) (m n : Int) : ∃ b : Bool, (do eqGuard .leq t x y (.int k m) (.int k n); binOp .leq t (.int k m) (.int k n)).run Tryz.prog w = .ok (.bool b) w ∧ (b = true ↔ m ≤ n) :=
 ⟨decide (m ≤ n), by simp [eqGuard, binOp, Op.intCmp], by simp⟩
theorem tlt_int (t : TypeId) (x y : Operand) (k : IntKind) (m n : Int) : ∃ b : Bool, (do eqGuard .lss t x y (.int k m) (.int k n); binOp .lss t (.int k m) (.int k n)).run Tryz.prog w = .ok (.bool b) w ∧ (b = true ↔ m < n) :=
 ⟨decide (m < n), by simp [eqGuard, binOp, Op.intCmp], by simp⟩
theorem tgt_int (t : TypeId) (x y : Operand) (k : IntKind) (m n : Int) : ∃ b : Bool, (do eqGuard .gtr t x y (.int k m) (.int k n); binOp .gtr t (.int k m) (.int k n)).run Tryz.prog w = .ok (.bool b) w ∧ (b = true ↔ n < m) :=
 ⟨decide (n < m), by simp [eqGuard, binOp, Op.intCmp], by simp⟩
end
theorem thr_iff {t : Th} : thrB t = true ↔ ((∀ i, i < 4 → keptB (labs t i) = true) ∧ 0 ≤ t.state ∧ t.state ≤ 2 ∧ t.alerts.length ≤ 8 ∧ spanI t.lo t.hi = true ∧ (t.state = 1 ∨ (t.wc = 0 ∧ t.wi = 0 ∧ t.wx = 0 ∧ t.wv = 0 ∧ t.wd = false))) := by
 have e : (∀ i, i < 4 → keptB (labs t i) = true) ↔ (keptB t.l0 = true ∧ keptB t.l1 = true ∧ keptB t.l2 = true ∧ keptB t.l3 = true) :=
  ⟨fun h => ⟨h 0 (by omega), h 1 (by omega), h 2 (by omega), h 3 (by omega)⟩, fun h i hi => by
   rcases i with _ | _ | _ | _ | i
   ·exact h.1
   ·exact h.2.1
   ·exact h.2.2.1
   ·exact h.2.2.2
   ·omega⟩
 rw [e]
 unfold thrB waitB spanB spanI
 simp
 constructor
 ·rintro ⟨h1, h2, h3, h4, h5⟩; exact ⟨⟨h1, h2, h3, h4⟩, h5⟩
 ·rintro ⟨⟨h1, h2, h3, h4⟩, h5⟩; exact ⟨h1, h2, h3, h4, h5⟩
theorem rthread_any {w : World} {T : Array Value} {t : Th} {ao : Option Addr} {n cap : Nat} {l : Lb} (hl : LabD (LtN w) w ao n cap l) (h : ThD (LtN w) w T t) : Asks 52 #[.slice ao n cap, .agg T] (keptB t.clear = true ∧ rleqB l t.clear = true ∧ thrB t = true) w := by
 have hz := h.size
 obtain ⟨a17, n17, k17, c17, l17⟩ := h.f.clear
 obtain ⟨a28, n28, k28, c28, l28⟩ := h.f.alerts
 have hn28 : Hid (t.alerts.length = n28) := l28.1
 have x29 := ext2 h.f.lo h.f.hi
 have x23 := ext5 h.f.wc h.f.wi h.f.wx h.f.wv h.f.wd
 have c22 := h.f.state
 have ga0 := Tryz.isAgg27
 have ga1 := Tryz.isAgg22
 have ga2 := Tryz.isAgg3
 have ga3 := Tryz.isAgg4
 have ga4 := Tryz.isAgg28
 have ga5 := Tryz.isAgg29
 unfold Asks
 go_enter Tryz.func52, Tryz.ntmps52
 go_wp2_with (first
  | go_skip
  | (with_reducible refine wpList_box rfl _ _ rfl T rfl ?_; intro B W hB hb hk))
 have hf := ThD.four (h.next hk) hb
 go_loopw [5] (fun i wr => ∃ k : Nat, k ≤ 4 ∧ i = .int .i64 k ∧ Hid (∀ j, j < k → keptB (labs t j) = true) ∧ Below W.heap.size W wr) (fun i _ => 4 - (intOf i).toNat)
 case atStart => exact ⟨0, Nat.zero_le _, rfl, fun j hj => absurd hj (by omega), Below.refl _ _⟩
 case round =>
  obtain ⟨k, hk4, rfl, hal, hbw⟩ := hrel
  by_cases hkn : k < 4
  ·obtain ⟨ai, ni, ci, d1, q2⟩ := (hf.next hbw).2 k hkn
   have hkn' : (k : Int) < 4 := by omega
   clear hf
   go_wp2_with (go_at_call 47; (with_reducible refine (rkept_any q2 (Below.refl _ _)).on ?_ ?_) <;> intro w1 hq hb1)
   ·go_roundw
    case rel => exact ⟨k + 1, by omega, by go_num, fn_succ hal.out hq.out, hbw.trans (hb1.mono hbw.size)⟩
    case measure => simp [intOf]; omega
   ·go_ret
    exact askP_no hq (hk.trans ((hbw.trans (hb1.mono hbw.size)).mono hk.size)) (fun e => (thr_iff.1 e.2.2).1 k hkn)
  ·obtain rfl : k = 4 := by omega
   replace hb := hb.next hbw
   replace hk := hk.trans (hbw.mono hk.size)
   clear hf hbw
   simp only [show ((4 : Nat) : Int) = 4 from rfl]
   go_wp2_with (first
     | go_skip
     | (with_reducible refine wpList_load1 (by kernel_rfl) _ _ rfl B _ rfl _ _ hb _ (by assumption) (by assumption) ?_)
     | (with_reducible refine wpList_loadp (by kernel_rfl) 34 _ rfl B _ rfl 5 _ _ hb _ (by assumption) (by omega) _ Tryz.underlying34 (by kernel_rfl) size31 ?_)
     | ((with_reducible refine wpList_test (by kernel_rfl) .neq _ _ _ _ rfl _ _ rfl rfl (neg_int _ _ _ _ _ _) ?_ ?_) <;> intro hq)
     | ((with_reducible refine wpList_test (by kernel_rfl) .neq _ _ _ _ rfl _ _ rfl rfl (neg_wait _ _ _ _ _ _ _ _ _ _ _ _) ?_ ?_) <;> intro hq)
     | (with_reducible refine wpList_loadp (by kernel_rfl) 36 _ rfl B _ rfl 2 _ _ hb _ (by assumption) (by omega) _ Tryz.underlying36 (by kernel_rfl) size33 ?_)
     | ((with_reducible refine wpList_test (by kernel_rfl) .geq _ _ _ _ rfl _ _ rfl rfl (tge_int _ _ _ _ _ _) ?_ ?_) <;> intro hq)
     | ((with_reducible refine wpList_test (by kernel_rfl) .leq _ _ _ _ rfl _ _ rfl rfl (tle_int _ _ _ _ _ _) ?_ ?_) <;> intro hq)
     | (go_at_call 47; (with_reducible refine (rkept_any l17 hk).on ?_ ?_) <;> (intro w1 hq hb1; replace hb := hb.next hb1; replace hk := hk.trans (hb1.mono hk.size); clear hb1))
     | (go_at_call 20; (with_reducible refine (Asks.of (rlleq_any (hl.lab' hk) (l17.lab' hk))).on ?_ ?_) <;> (intro w1 hq hb1; replace hb := hb.next hb1; replace hk := hk.trans (hb1.mono hk.size); clear hb1))
     | (go_at_call 74; (with_reducible refine (rspan_any t.lo t.hi _).on ?_ ?_) <;> (intro w1 hq hb1; replace hb := hb.next hb1; replace hk := hk.trans (hb1.mono hk.size); clear hb1)))
   all_goals (first | go_ret | skip)
   all_goals first
     | (refine askP_no (Y := (t.wc = 0 ∧ t.wi = 0 ∧ t.wx = 0 ∧ t.wv = 0 ∧ t.wd = false)) (by assumption) hk (fun e => ?_); exact (thr_iff.1 e.2.2).2.2.2.2.2.resolve_left (Hid.out (by assumption)))
     | (refine askP_yes ⟨Hid.out (by assumption), Hid.out (by assumption), thr_iff.2 ⟨Hid.out (by assumption), Hid.out (by assumption), Hid.out (by assumption), ?_, Hid.out (by assumption), .inl (Classical.not_not.1 (Hid.out (by assumption)))⟩⟩ hk; (have hl : (n28 : Int) ≤ 8 := Hid.out (by assumption)); rw [hn28.out]; omega)
     | (refine askP_yes ⟨Hid.out (by assumption), Hid.out (by assumption), thr_iff.2 ⟨Hid.out (by assumption), Hid.out (by assumption), Hid.out (by assumption), ?_, Hid.out (by assumption), .inr (Classical.not_not.1 (Hid.out (by assumption)))⟩⟩ hk; (have hl : (n28 : Int) ≤ 8 := Hid.out (by assumption)); rw [hn28.out]; omega)
     | (refine askP_no (Y := spanI t.lo t.hi = true) (by assumption) hk (fun e => ?_); exact (thr_iff.1 e.2.2).2.2.2.2.1)
     | (have hl : 8 < (n28 : Int) := Hid.out (by assumption); refine ⟨false, rfl, ⟨fun e => absurd e Bool.false_ne_true, fun e => ?_⟩, hk⟩; exfalso; have := (thr_iff.1 e.2.2).2.2.2.1; rw [hn28.out] at this; omega)
     | (have hl : 2 < t.state := Hid.out (by assumption); refine ⟨false, rfl, ⟨fun e => absurd e Bool.false_ne_true, fun e => ?_⟩, hk⟩; exfalso; have := (thr_iff.1 e.2.2).2.2.1; omega)
     | (have hl : t.state < 0 := Hid.out (by assumption); refine ⟨false, rfl, ⟨fun e => absurd e Bool.false_ne_true, fun e => ?_⟩, hk⟩; exfalso; have := (thr_iff.1 e.2.2).2.1; omega)
     | (refine askP_no (Y := rleqB l t.clear = true) (by assumption) hk (fun e => ?_); exact e.2.1)
     | (refine askP_no (Y := keptB t.clear = true) (by assumption) hk (fun e => ?_); exact e.1)
     | fail
end Go.Proofs.YtiiaohejldchdaaGreat
namespace Go.Proofs.YtiiaohejldchdaaGreat
set_option maxRecDepth 100000
set_option maxHeartbeats 8000000
open Go.RowKit Go.Shelf
set_option linter.unusedVariables false
attribute [local go_sem] Oper.semAt_some
section
variable {P : Program} {ops : Array Oper} {rest : List Oper} {op : Oper} {a : Act} {Q : Exit → Act → World → Prop} {w : World}
theorem wpList_loadb (hw : Region.wanted op (yielded ops a.tmps) = true) (ty : TypeId) (x : Operand) (ho : op.op = .load ty x) (B : Nat) (hx : a.eval x = .pointer (some ⟨B, 0, none⟩)) (C : Array Value) (hB : Blk w B C ty) (d : TypeDesc)
  (hu : P.underlying ty = some d) (hd : d.isRow = true) (hi : (P.info? ty).map (·.size) = some C.size) (h : wpList P ops Q rest (a.put op.dst (.agg C)) w) : wpList P ops Q (op :: rest) a w := by
 refine wpList_val hw ?_ h
 have := ob_loadb (S := fun W => W = w) (P := P) (fun _ e => by rw [e]; exact hB) hu hd hi w rfl
 unfold execOp
 simp [ho, hx, Instr.loadAt, Instr.sureAddr, this]
end
theorem com_iff {x : Ob} : comB x = true ↔ (idB x.id = true ∧ 1 ≤ x.quota ∧ x.quota ≤ 4096 ∧ keptB x.label = true ∧ (x.kind = 4 ∨ owned x.label = [])) := by unfold comB; simp
theorem own1 {x : Ob} (h : x.kind = 1) : ownB x = true ↔ ((x.data.length : Int) ≤ 16 * (x.quota - 1)) := by unfold ownB; rw [if_pos h]; try simp
theorem own2 {x : Ob} (h : x.kind = 2) : ownB x = true ↔ (x.links.length ≤ 64 ∧ allI x.links = true ∧ risB x.links = true) := by unfold ownB; rw [if_neg (by omega), if_pos h]; try simp [allI]
theorem own3 {x : Ob} (h : x.kind = 3) : ownB x = true ↔ (PgM.Pg.fitB x.maps = true) := by unfold ownB; rw [if_neg (by omega), if_neg (by omega), if_pos h]; try simp [allI]
theorem own4 {x : Ob} (h : x.kind = 4) : ownB x = true ↔ (x.fixed = false ∧ bounB x.label x.th.clear = true ∧ thrB x.th = true) := by unfold ownB; rw [if_neg (by omega), if_neg (by omega), if_neg (by omega), if_pos h]; try simp
theorem own5 {x : Ob} (h : x.kind = 5) : ownB x = true ↔ (bounB x.gt.grant x.gt.clear = true) := by unfold ownB; rw [if_neg (by omega), if_neg (by omega), if_neg (by omega), if_neg (by omega), if_pos h]; try simp [allI]
theorem own6 {x : Ob} (h : x.kind = 6) : ownB x = true ↔ (x.inn.length ≤ 64 ∧ x.out.length ≤ 1024) := by unfold ownB; rw [if_neg (by omega), if_neg (by omega), if_neg (by omega), if_neg (by omega), if_neg (by omega), if_pos h]; try simp
theorem own7 {x : Ob} (h : ¬ (1 ≤ x.kind ∧ x.kind ≤ 6)) : ownB x = true ↔ False := by unfold ownB; rw [if_neg (by omega), if_neg (by omega), if_neg (by omega), if_neg (by omega), if_neg (by omega), if_neg (by omega)]; simp
end Go.Proofs.YtiiaohejldchdaaGreat
namespace Go.Proofs.YtiiaohejldchdaaGreat
set_option maxRecDepth 100000
set_option maxHeartbeats 8000000
open Go.RowKit Go.Shelf
set_option linter.unusedVariables false
attribute [local go_sem] Oper.semAt_some

section
variable {ops : Array Oper} {Q : Exit → Act → World → Prop} {S : World → Prop} {w : World} {fuel m : Nat} {a : Act} {l : Array Bool}
theorem wpOp_callL {i : Nat} {f : FuncId} {vs : List Value} {d : Option Tmp} {R : Ending → World → Prop} {K : Act → World → Prop} (hi : (ops[i]?).bind (fun o => callOf ops o a) = some (f, vs, d))
  (hf : ∀ args w, (callFunc f args).run Tryz.prog w = .ok (.enter f args) w) (hc : Calls Tryz.prog f vs.toArray w R)
  (h : ∀ e w', R e w' → ∃ v, e = .returned v ∧ K (a.put d v) w') : wpOp Tryz.prog ops Q i K a w := by
 cases ho : ops[i]? with
 | none => rw [ho] at hi; cases hi
 | some o =>
  rw [ho] at hi
  obtain ⟨h1, h2, h3⟩ := callOf_run (show callOf ops o a = _ from hi) hf w
  unfold wpOp
  simp only [ho, h1, if_true]
  left
  unfold Oper.wp
  rw [h3, Oper.upon_enter]
  refine hc.mono ?_
  intro e w' hR
  obtain ⟨v, rfl, h⟩ := h e w' hR
  rw [h2]
  exact h
theorem wpAnyH_callL {i : Nat} {f : FuncId} {vs : List Value} {d : Option Tmp} {R : Ending → World → Prop} (hm : m = fuel + 1) (hr : Region.ready .any ops l = [i]) (hi : (ops[i]?).bind (fun o => callOf ops o a) = some (f, vs, d))
  (hf : ∀ args w, (callFunc f args).run Tryz.prog w = .ok (.enter f args) w) (hc : Calls Tryz.prog f vs.toArray w R)
  (h : ∀ e w', R e w' → ∃ v, e = .returned v ∧ S w' ∧ wpAnyH Tryz.prog .any ops Q S fuel (l.setIfInBounds i true) (a.put d v) w') : wpAnyH Tryz.prog .any ops Q S m l a w := by
 subst hm
 refine wpAnyH_all hr (by simp) ?_
 intro j hj
 obtain rfl : j = i := by simpa using hj
 exact wpOp_callL hi hf hc h
theorem wpAnyH_askL {X : Prop} {i : Nat} {f : FuncId} {vs : List Value} {d : Option Tmp} (hm : m = fuel + 1) (hr : Region.ready .any ops l = [i]) (hi : (ops[i]?).bind (fun o => callOf ops o a) = some (f, vs, d))
  (hf : ∀ args w, (callFunc f args).run Tryz.prog w = .ok (.enter f args) w) (hc : Asks f vs.toArray X w) (hS : ∀ w', Below w.heap.size w w' → S w')
  (h1 : ∀ w', Hid X → Below w.heap.size w w' → S w' → wpAnyH Tryz.prog .any ops Q S fuel (l.setIfInBounds i true) (a.put d (.bool true)) w')
  (h0 : ∀ w', Hid (¬ X) → Below w.heap.size w w' → S w' → wpAnyH Tryz.prog .any ops Q S fuel (l.setIfInBounds i true) (a.put d (.bool false)) w') : wpAnyH Tryz.prog .any ops Q S m l a w := by
 refine wpAnyH_callL hm hr hi hf hc ?_
 rintro e w' ⟨b, rfl, hb, hk⟩
 refine ⟨_, rfl, hS w' hk, ?_⟩
 cases b with
 | true => exact h1 w' (hb.out.1 rfl) hk (hS w' hk)
 | false => exact h0 w' (fun x => absurd (hb.out.2 x) Bool.false_ne_true) hk (hS w' hk)
end
theorem sound_iff {x : Ob} : soundB x = true ↔ (comB x = true ∧ ownB x = true ∧ witO x = comO x) := by unfold soundB; simp [sameO_iff]
end Go.Proofs.YtiiaohejldchdaaGreat
