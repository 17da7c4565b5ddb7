/-
 PROVED HERE: what pac. What is asked stands at each.
-/
import Derived.Deep.DeepCutAuto
import Derived.BigQuiet
import Derived.Laws.AppendOwn
import Derived.Laws.OwnMore
import Derived.Laws.AppendOwnNone
import Derived.Maps.AppendAt
import Derived.Test.YtchgingkmkhbhaaGreatZ3
namespace Go.Proofs.YtchgingkmkhbhaaGreat
set_option maxRecDepth 100000
set_option maxHeartbeats 8000000
set_option linter.unusedVariables false
open Go.Proofs.Tryz
section
open Go.RowKit Go.Shelf
attribute [local go_sem] Oper.semAt_some
variable {w : World}
theorem vLz {C C' : Array Value} {x y : Ob} (h : ObD (LtN w) w C x) (h' : ObD (LtN w) w C' y) :
  Asks 112 #[.agg C, .agg C'] (x = y) w := by
 have hz := h.size
 have c0 := h.id
 have c1 := h.kind
 obtain ⟨a2, n2, k2, c2, l2⟩ := h.label
 have c3 := h.quota
 have c4 := h.fixed
 obtain ⟨a5, n5, k5, c5, l5⟩ := h.links
 obtain ⟨a6, n6, k6, c6, l6⟩ := h.data
 obtain ⟨a7, n7, k7, c7, l7⟩ := h.maps
 obtain ⟨a49, n49, k49, c49, l49⟩ := h.inn
 obtain ⟨a50, n50, k50, c50, l50⟩ := h.out
 have hz' := h'.size
 have c0' := h'.id
 have c1' := h'.kind
 obtain ⟨a2', n2', k2', c2', l2'⟩ := h'.label
 have c3' := h'.quota
 have c4' := h'.fixed
 obtain ⟨a5', n5', k5', c5', l5'⟩ := h'.links
 obtain ⟨a6', n6', k6', c6', l6'⟩ := h'.data
 obtain ⟨a7', n7', k7', c7', l7'⟩ := h'.maps
 obtain ⟨a49', n49', k49', c49', l49'⟩ := h'.inn
 obtain ⟨a50', n50', k50', c50', l50'⟩ := h'.out
 have ga0 := isAgg27
 have ga1 := isAgg22
 have ga2 := isAgg3
 have ga3 := isAgg4
 have ga4 := isAgg28
 have ga5 := isAgg29
 unfold Asks
 go_enter func112, ntmps112
 try simp only [List.append]
 go_upto_region 1 with (first
  | (with_reducible refine qcz rfl _ _ rfl C rfl ?_; intro B W hB hb hk)
  | (with_reducible refine qcz rfl _ _ rfl C' rfl ?_; intro B' W' hB' hb' hk'; replace hb := hb.next hk'; replace hk := btz hk hk'; clear hk'))
 refine xjz ?_
 refine qDz [none, some (.int .u64 x.id), none, some (.int .u64 y.id)] 0 (obs := [.load 22 (B) (0) (.int .u64 x.id), .load 22 (B') (0) (.int .u64 y.id)]) (by kernel_rfl) ⟨qhz (fun _ e => by rw [e]; exact hb) c0 ga1, qhz (fun _ e => by rw [e]; exact hb') c0' ga1, trivial⟩ ?_
 by_cases q0 : x.id = y.id
 ·replace q0 : Hid (x.id = y.id) := q0
  refine qDz [some (.bool true), none, none, some (.int .i64 x.kind), none, some (.int .i64 y.kind)] 4 (obs := [.test .eql 22 (.tmp 6) (.tmp 8) (.int .u64 x.id) (.int .u64 y.id) (.bool true), .load 3 (B) (1) (.int .i64 x.kind), .load 3 (B') (1) (.int .i64 y.kind)]) (by kernel_rfl) ⟨qEz (fun _ => quz _ _ _ _ _ _) q0, qhz (fun _ e => by rw [e]; exact hb) c1 ga2, qhz (fun _ e => by rw [e]; exact hb') c1' ga2, trivial⟩ ?_
  by_cases q1 : x.kind = y.kind
  ·replace q1 : Hid (x.kind = y.kind) := q1
   refine qDz [some (.bool true), none, none, none, some (.slice a2 n2 k2), none, some (.slice a2' n2' k2')] 10 (obs := [.test .eql 3 (.tmp 12) (.tmp 14) (.int .i64 x.kind) (.int .i64 y.kind) (.bool true), .load 27 (B) (2) (.slice a2 n2 k2), .load 27 (B') (2) (.slice a2' n2' k2')]) (by kernel_rfl) ⟨qEz (fun _ => quz _ _ _ _ _ _) q1, qhz (fun _ e => by rw [e]; exact hb) c2 ga0, qhz (fun _ e => by rw [e]; exact hb') c2' ga0, trivial⟩ ?_
   refine q4z (i := 17) (f := 143) (vs := [.slice a2 n2 k2, .slice a2' n2' k2']) (d := some 22) (by kernel_rfl) call143 (eqL l2 l2' hk) ?_ ?_
   ·intro w2 q2 hb1; replace hb := hb.next hb1; replace hb' := hb'.next hb1; replace hk := btz hk hb1; clear hb1
    refine qDz [none, none, none, some (.int .i64 x.quota), none, some (.int .i64 y.quota)] 18 (obs := [.load 3 (B) (3) (.int .i64 x.quota), .load 3 (B') (3) (.int .i64 y.quota)]) (by kernel_rfl) ⟨qhz (fun _ e => by rw [e]; exact hb) c3 ga2, qhz (fun _ e => by rw [e]; exact hb') c3' ga2, trivial⟩ ?_
    by_cases q3 : x.quota = y.quota
    ·replace q3 : Hid (x.quota = y.quota) := q3
     refine qDz [some (.bool true), none, none, none, some (.bool x.fixed), none, some (.bool y.fixed)] 24 (obs := [.test .eql 3 (.tmp 26) (.tmp 28) (.int .i64 x.quota) (.int .i64 y.quota) (.bool true), .load 4 (B) (4) (.bool x.fixed), .load 4 (B') (4) (.bool y.fixed)]) (by kernel_rfl) ⟨qEz (fun _ => quz _ _ _ _ _ _) q3, qhz (fun _ e => by rw [e]; exact hb) c4 ga3, qhz (fun _ e => by rw [e]; exact hb') c4' ga3, trivial⟩ ?_
     by_cases q4 : x.fixed = y.fixed
     ·replace q4 : Hid (x.fixed = y.fixed) := q4
      refine qDz [some (.bool true), none, none, none, some (.slice a5 n5 k5), none, some (.slice a5' n5' k5')] 31 (obs := [.test .eql 4 (.tmp 33) (.tmp 35) (.bool x.fixed) (.bool y.fixed) (.bool true), .load 28 (B) (5) (.slice a5 n5 k5), .load 28 (B') (5) (.slice a5' n5' k5')]) (by kernel_rfl) ⟨qEz (fun _ => yIz _ _ _ _) q4, qhz (fun _ e => by rw [e]; exact hb) c5 ga4, qhz (fun _ e => by rw [e]; exact hb') c5' ga4, trivial⟩ ?_
      refine q4z (i := 38) (f := 144) (vs := [.slice a5 n5 k5, .slice a5' n5' k5']) (d := some 43) (by kernel_rfl) call144 (eqU l5 l5' hk) ?_ ?_
      ·intro w5 q5 hb1; replace hb := hb.next hb1; replace hb' := hb'.next hb1; replace hk := btz hk hb1; clear hb1
       refine qDz [none, none, none, some (.slice a6 n6 k6), none, some (.slice a6' n6' k6')] 39 (obs := [.load 28 (B) (6) (.slice a6 n6 k6), .load 28 (B') (6) (.slice a6' n6' k6')]) (by kernel_rfl) ⟨qhz (fun _ e => by rw [e]; exact hb) c6 ga4, qhz (fun _ e => by rw [e]; exact hb') c6' ga4, trivial⟩ ?_
       refine q4z (i := 45) (f := 144) (vs := [.slice a6 n6 k6, .slice a6' n6' k6']) (d := some 50) (by kernel_rfl) call144 (eqU l6 l6' hk) ?_ ?_
       ·intro w6 q6 hb1; replace hb := hb.next hb1; replace hb' := hb'.next hb1; replace hk := btz hk hb1; clear hb1
        refine qDz [none, none, none, some (.slice a7 n7 k7), none, some (.slice a7' n7' k7')] 46 (obs := [.load 29 (B) (7) (.slice a7 n7 k7), .load 29 (B') (7) (.slice a7' n7' k7')]) (by kernel_rfl) ⟨qhz (fun _ e => by rw [e]; exact hb) c7 ga5, qhz (fun _ e => by rw [e]; exact hb') c7' ga5, trivial⟩ ?_
        refine q4z (i := 52) (f := 145) (vs := [.slice a7 n7 k7, .slice a7' n7' k7']) (d := some 57) (by kernel_rfl) call145 (eqM l7 l7' hk) ?_ ?_
        ·intro w7 q7 hb1; replace hb := hb.next hb1; replace hb' := hb'.next hb1; replace hk := btz hk hb1; clear hb1
         refine qDz [none, none, none, some (.agg (C.extract 8 (8 + 35))), none, some (.agg (C'.extract 8 (8 + 35)))] 53 (obs := [.load 39 (B) (8) (.agg (C.extract 8 (8 + 35))), .load 39 (B') (8) (.agg (C'.extract 8 (8 + 35)))]) (by kernel_rfl) ⟨qXz 35 (fun _ e => by rw [e]; exact hb) rfl (by rw [hz]; omega) underlying39 (by kernel_rfl) xbz, qXz 35 (fun _ e => by rw [e]; exact hb') rfl (by rw [hz']; omega) underlying39 (by kernel_rfl) xbz, trivial⟩ ?_
         refine q4z (i := 59) (f := 146) (vs := [.agg (C.extract 8 (8 + 35)), .agg (C'.extract 8 (8 + 35))]) (d := some 64) (by kernel_rfl) call146 (kRz (h.thd.next hk) (h'.thd.next hk)) ?_ ?_
         ·intro w8 q8 hb1; replace hb := hb.next hb1; replace hb' := hb'.next hb1; replace hk := btz hk hb1; clear hb1
          refine qDz [none, none, none, some (.agg (C.extract 43 (43 + 6))), none, some (.agg (C'.extract 43 (43 + 6)))] 60 (obs := [.load 41 (B) (43) (.agg (C.extract 43 (43 + 6))), .load 41 (B') (43) (.agg (C'.extract 43 (43 + 6)))]) (by kernel_rfl) ⟨qXz 6 (fun _ e => by rw [e]; exact hb) rfl (by rw [hz]; omega) underlying41 (by kernel_rfl) kwz, qXz 6 (fun _ e => by rw [e]; exact hb') rfl (by rw [hz']; omega) underlying41 (by kernel_rfl) kwz, trivial⟩ ?_
          refine q4z (i := 66) (f := 147) (vs := [.agg (C.extract 43 (43 + 6)), .agg (C'.extract 43 (43 + 6))]) (d := some 71) (by kernel_rfl) call147 (j2z (h.gtd.next hk) (h'.gtd.next hk)) ?_ ?_
          ·intro w9 q9 hb1; replace hb := hb.next hb1; replace hb' := hb'.next hb1; replace hk := btz hk hb1; clear hb1
           refine qDz [none, none, none, some (.slice a49 n49 k49), none, some (.slice a49' n49' k49')] 67 (obs := [.load 28 (B) (49) (.slice a49 n49 k49), .load 28 (B') (49) (.slice a49' n49' k49')]) (by kernel_rfl) ⟨qhz (fun _ e => by rw [e]; exact hb) c49 ga4, qhz (fun _ e => by rw [e]; exact hb') c49' ga4, trivial⟩ ?_
           refine q4z (i := 73) (f := 144) (vs := [.slice a49 n49 k49, .slice a49' n49' k49']) (d := some 78) (by kernel_rfl) call144 (eqU l49 l49' hk) ?_ ?_
           ·intro w10 q10 hb1; replace hb := hb.next hb1; replace hb' := hb'.next hb1; replace hk := btz hk hb1; clear hb1
            refine qDz [none, none, none, some (.slice a50 n50 k50), none, some (.slice a50' n50' k50')] 74 (obs := [.load 28 (B) (50) (.slice a50 n50 k50), .load 28 (B') (50) (.slice a50' n50' k50')]) (by kernel_rfl) ⟨qhz (fun _ e => by rw [e]; exact hb) c50 ga4, qhz (fun _ e => by rw [e]; exact hb') c50' ga4, trivial⟩ ?_
            refine q4z (i := 80) (f := 144) (vs := [.slice a50 n50 k50, .slice a50' n50' k50']) (d := some 85) (by kernel_rfl) call144 (eqU l50 l50' hk) ?_ ?_
            ·intro w11 q11 hb1; replace hb := hb.next hb1; replace hb' := hb'.next hb1; replace hk := btz hk hb1; clear hb1
             refine qIz [none, none] 81 (a' := { tmps := #[.agg C, .agg C', pt B 0, pt B' 0, .bool true, pt B 0, .int .u64 x.id, pt B' 0, .int .u64 y.id, .bool true, .bool true, pt B 1, .int .i64 x.kind, pt B' 1, .int .i64 y.kind, .bool true, .bool true, .bool true, pt B 2, .slice a2 n2 k2, pt B' 2, .slice a2' n2' k2', .bool true, .bool true, .bool true, pt B 3, .int .i64 x.quota, pt B' 3, .int .i64 y.quota, .bool true, .bool true, .bool true, pt B 4, .bool x.fixed, pt B' 4, .bool y.fixed, .bool true, .bool true, .bool true, pt B 5, .slice a5 n5 k5, pt B' 5, .slice a5' n5' k5', .bool true, .bool true, .bool true, pt B 6, .slice a6 n6 k6, pt B' 6, .slice a6' n6' k6', .bool true, .bool true, .bool true, pt B 7, .slice a7 n7 k7, pt B' 7, .slice a7' n7' k7', .bool true, .bool true, .bool true, pt B 8, .agg (C.extract 8 (8 + 35)), pt B' 8, .agg (C'.extract 8 (8 + 35)), .bool true, .bool true, .bool true, pt B 43, .agg (C.extract 43 (43 + 6)), pt B' 43, .agg (C'.extract 43 (43 + 6)), .bool true, .bool true, .bool true, pt B 49, .slice a49 n49 k49, pt B' 49, .slice a49' n49' k49', .bool true, .bool true, .bool true, pt B 50, .slice a50 n50 k50, pt B' 50, .slice a50' n50' k50', .bool true, .bool true], defers := [] }) (obs := []) (by kernel_rfl) trivial ?_
             refine qJz (by kernel_rfl) ?_
             go_wp2
             go_ret
             exact qrz (ggz.1 ⟨q0.out, q1.out, q2.out, q3.out, q4.out, q5.out, q6.out, q7.out, q8.out, q9.out, q10.out, q11.out⟩) hk
            ·intro w11 q11 hb1; replace hb := hb.next hb1; replace hb' := hb'.next hb1; replace hk := btz hk hb1; clear hb1
             refine qIz [none, none] 81 (a' := { tmps := #[.agg C, .agg C', pt B 0, pt B' 0, .bool false, pt B 0, .int .u64 x.id, pt B' 0, .int .u64 y.id, .bool true, .bool true, pt B 1, .int .i64 x.kind, pt B' 1, .int .i64 y.kind, .bool true, .bool true, .bool true, pt B 2, .slice a2 n2 k2, pt B' 2, .slice a2' n2' k2', .bool true, .bool true, .bool true, pt B 3, .int .i64 x.quota, pt B' 3, .int .i64 y.quota, .bool true, .bool true, .bool true, pt B 4, .bool x.fixed, pt B' 4, .bool y.fixed, .bool true, .bool true, .bool true, pt B 5, .slice a5 n5 k5, pt B' 5, .slice a5' n5' k5', .bool true, .bool true, .bool true, pt B 6, .slice a6 n6 k6, pt B' 6, .slice a6' n6' k6', .bool true, .bool true, .bool true, pt B 7, .slice a7 n7 k7, pt B' 7, .slice a7' n7' k7', .bool true, .bool true, .bool true, pt B 8, .agg (C.extract 8 (8 + 35)), pt B' 8, .agg (C'.extract 8 (8 + 35)), .bool true, .bool true, .bool true, pt B 43, .agg (C.extract 43 (43 + 6)), pt B' 43, .agg (C'.extract 43 (43 + 6)), .bool true, .bool true, .bool true, pt B 49, .slice a49 n49 k49, pt B' 49, .slice a49' n49' k49', .bool true, .bool true, .bool true, pt B 50, .slice a50 n50 k50, pt B' 50, .slice a50' n50' k50', .bool false, .bool false], defers := [] }) (obs := []) (by kernel_rfl) trivial ?_
             refine qJz (by kernel_rfl) ?_
             go_wp2
             go_ret
             refine qkz q11 hk ?_; intro e; rw [e]
           ·intro w10 q10 hb1; replace hb := hb.next hb1; replace hb' := hb'.next hb1; replace hk := btz hk hb1; clear hb1
            refine qIz (nl 9) 74 (a' := { tmps := #[.agg C, .agg C', pt B 0, pt B' 0, .bool false, pt B 0, .int .u64 x.id, pt B' 0, .int .u64 y.id, .bool true, .bool true, pt B 1, .int .i64 x.kind, pt B' 1, .int .i64 y.kind, .bool true, .bool true, .bool true, pt B 2, .slice a2 n2 k2, pt B' 2, .slice a2' n2' k2', .bool true, .bool true, .bool true, pt B 3, .int .i64 x.quota, pt B' 3, .int .i64 y.quota, .bool true, .bool true, .bool true, pt B 4, .bool x.fixed, pt B' 4, .bool y.fixed, .bool true, .bool true, .bool true, pt B 5, .slice a5 n5 k5, pt B' 5, .slice a5' n5' k5', .bool true, .bool true, .bool true, pt B 6, .slice a6 n6 k6, pt B' 6, .slice a6' n6' k6', .bool true, .bool true, .bool true, pt B 7, .slice a7 n7 k7, pt B' 7, .slice a7' n7' k7', .bool true, .bool true, .bool true, pt B 8, .agg (C.extract 8 (8 + 35)), pt B' 8, .agg (C'.extract 8 (8 + 35)), .bool true, .bool true, .bool true, pt B 43, .agg (C.extract 43 (43 + 6)), pt B' 43, .agg (C'.extract 43 (43 + 6)), .bool true, .bool true, .bool true, pt B 49, .slice a49 n49 k49, pt B' 49, .slice a49' n49' k49', .bool false, .bool false, .bool false, ud, ud, ud, ud, ud, .bool false], defers := [] }) (obs := []) (by kernel_rfl) trivial ?_
            refine qJz (by kernel_rfl) ?_
            go_wp2
            go_ret
            refine qkz q10 hk ?_; intro e; rw [e]
          ·intro w9 q9 hb1; replace hb := hb.next hb1; replace hb' := hb'.next hb1; replace hk := btz hk hb1; clear hb1
           refine qIz (nl 16) 67 (a' := { tmps := #[.agg C, .agg C', pt B 0, pt B' 0, .bool false, pt B 0, .int .u64 x.id, pt B' 0, .int .u64 y.id, .bool true, .bool true, pt B 1, .int .i64 x.kind, pt B' 1, .int .i64 y.kind, .bool true, .bool true, .bool true, pt B 2, .slice a2 n2 k2, pt B' 2, .slice a2' n2' k2', .bool true, .bool true, .bool true, pt B 3, .int .i64 x.quota, pt B' 3, .int .i64 y.quota, .bool true, .bool true, .bool true, pt B 4, .bool x.fixed, pt B' 4, .bool y.fixed, .bool true, .bool true, .bool true, pt B 5, .slice a5 n5 k5, pt B' 5, .slice a5' n5' k5', .bool true, .bool true, .bool true, pt B 6, .slice a6 n6 k6, pt B' 6, .slice a6' n6' k6', .bool true, .bool true, .bool true, pt B 7, .slice a7 n7 k7, pt B' 7, .slice a7' n7' k7', .bool true, .bool true, .bool true, pt B 8, .agg (C.extract 8 (8 + 35)), pt B' 8, .agg (C'.extract 8 (8 + 35)), .bool true, .bool true, .bool true, pt B 43, .agg (C.extract 43 (43 + 6)), pt B' 43, .agg (C'.extract 43 (43 + 6)), .bool false, .bool false, .bool false, ud, ud, ud, ud, ud, .bool false, .bool false, ud, ud, ud, ud, ud, .bool false], defers := [] }) (obs := []) (by kernel_rfl) trivial ?_
           refine qJz (by kernel_rfl) ?_
           go_wp2
           go_ret
           refine qkz q9 hk ?_; intro e; rw [e]
         ·intro w8 q8 hb1; replace hb := hb.next hb1; replace hb' := hb'.next hb1; replace hk := btz hk hb1; clear hb1
          refine qIz (nl 23) 60 (a' := { tmps := #[.agg C, .agg C', pt B 0, pt B' 0, .bool false, pt B 0, .int .u64 x.id, pt B' 0, .int .u64 y.id, .bool true, .bool true, pt B 1, .int .i64 x.kind, pt B' 1, .int .i64 y.kind, .bool true, .bool true, .bool true, pt B 2, .slice a2 n2 k2, pt B' 2, .slice a2' n2' k2', .bool true, .bool true, .bool true, pt B 3, .int .i64 x.quota, pt B' 3, .int .i64 y.quota, .bool true, .bool true, .bool true, pt B 4, .bool x.fixed, pt B' 4, .bool y.fixed, .bool true, .bool true, .bool true, pt B 5, .slice a5 n5 k5, pt B' 5, .slice a5' n5' k5', .bool true, .bool true, .bool true, pt B 6, .slice a6 n6 k6, pt B' 6, .slice a6' n6' k6', .bool true, .bool true, .bool true, pt B 7, .slice a7 n7 k7, pt B' 7, .slice a7' n7' k7', .bool true, .bool true, .bool true, pt B 8, .agg (C.extract 8 (8 + 35)), pt B' 8, .agg (C'.extract 8 (8 + 35)), .bool false, .bool false, .bool false, ud, ud, ud, ud, ud, .bool false, .bool false, ud, ud, ud, ud, ud, .bool false, .bool false, ud, ud, ud, ud, ud, .bool false], defers := [] }) (obs := []) (by kernel_rfl) trivial ?_
          refine qJz (by kernel_rfl) ?_
          go_wp2
          go_ret
          refine qkz q8 hk ?_; intro e; rw [e]
        ·intro w7 q7 hb1; replace hb := hb.next hb1; replace hb' := hb'.next hb1; replace hk := btz hk hb1; clear hb1
         refine qIz (nl 30) 53 (a' := { tmps := #[.agg C, .agg C', pt B 0, pt B' 0, .bool false, pt B 0, .int .u64 x.id, pt B' 0, .int .u64 y.id, .bool true, .bool true, pt B 1, .int .i64 x.kind, pt B' 1, .int .i64 y.kind, .bool true, .bool true, .bool true, pt B 2, .slice a2 n2 k2, pt B' 2, .slice a2' n2' k2', .bool true, .bool true, .bool true, pt B 3, .int .i64 x.quota, pt B' 3, .int .i64 y.quota, .bool true, .bool true, .bool true, pt B 4, .bool x.fixed, pt B' 4, .bool y.fixed, .bool true, .bool true, .bool true, pt B 5, .slice a5 n5 k5, pt B' 5, .slice a5' n5' k5', .bool true, .bool true, .bool true, pt B 6, .slice a6 n6 k6, pt B' 6, .slice a6' n6' k6', .bool true, .bool true, .bool true, pt B 7, .slice a7 n7 k7, pt B' 7, .slice a7' n7' k7', .bool false, .bool false, .bool false, ud, ud, ud, ud, ud, .bool false, .bool false, ud, ud, ud, ud, ud, .bool false, .bool false, ud, ud, ud, ud, ud, .bool false, .bool false, ud, ud, ud, ud, ud, .bool false], defers := [] }) (obs := []) (by kernel_rfl) trivial ?_
         refine qJz (by kernel_rfl) ?_
         go_wp2
         go_ret
         refine qkz q7 hk ?_; intro e; rw [e]
       ·intro w6 q6 hb1; replace hb := hb.next hb1; replace hb' := hb'.next hb1; replace hk := btz hk hb1; clear hb1
        refine qIz (nl 37) 46 (a' := { tmps := #[.agg C, .agg C', pt B 0, pt B' 0, .bool false, pt B 0, .int .u64 x.id, pt B' 0, .int .u64 y.id, .bool true, .bool true, pt B 1, .int .i64 x.kind, pt B' 1, .int .i64 y.kind, .bool true, .bool true, .bool true, pt B 2, .slice a2 n2 k2, pt B' 2, .slice a2' n2' k2', .bool true, .bool true, .bool true, pt B 3, .int .i64 x.quota, pt B' 3, .int .i64 y.quota, .bool true, .bool true, .bool true, pt B 4, .bool x.fixed, pt B' 4, .bool y.fixed, .bool true, .bool true, .bool true, pt B 5, .slice a5 n5 k5, pt B' 5, .slice a5' n5' k5', .bool true, .bool true, .bool true, pt B 6, .slice a6 n6 k6, pt B' 6, .slice a6' n6' k6', .bool false, .bool false, .bool false, ud, ud, ud, ud, ud, .bool false, .bool false, ud, ud, ud, ud, ud, .bool false, .bool false, ud, ud, ud, ud, ud, .bool false, .bool false, ud, ud, ud, ud, ud, .bool false, .bool false, ud, ud, ud, ud, ud, .bool false], defers := [] }) (obs := []) (by kernel_rfl) trivial ?_
        refine qJz (by kernel_rfl) ?_
        go_wp2
        go_ret
        refine qkz q6 hk ?_; intro e; rw [e]
      ·intro w5 q5 hb1; replace hb := hb.next hb1; replace hb' := hb'.next hb1; replace hk := btz hk hb1; clear hb1
       refine qIz (nl 44) 39 (a' := { tmps := #[.agg C, .agg C', pt B 0, pt B' 0, .bool false, pt B 0, .int .u64 x.id, pt B' 0, .int .u64 y.id, .bool true, .bool true, pt B 1, .int .i64 x.kind, pt B' 1, .int .i64 y.kind, .bool true, .bool true, .bool true, pt B 2, .slice a2 n2 k2, pt B' 2, .slice a2' n2' k2', .bool true, .bool true, .bool true, pt B 3, .int .i64 x.quota, pt B' 3, .int .i64 y.quota, .bool true, .bool true, .bool true, pt B 4, .bool x.fixed, pt B' 4, .bool y.fixed, .bool true, .bool true, .bool true, pt B 5, .slice a5 n5 k5, pt B' 5, .slice a5' n5' k5', .bool false, .bool false, .bool false, ud, ud, ud, ud, ud, .bool false, .bool false, ud, ud, ud, ud, ud, .bool false, .bool false, ud, ud, ud, ud, ud, .bool false, .bool false, ud, ud, ud, ud, ud, .bool false, .bool false, ud, ud, ud, ud, ud, .bool false, .bool false, ud, ud, ud, ud, ud, .bool false], defers := [] }) (obs := []) (by kernel_rfl) trivial ?_
       refine qJz (by kernel_rfl) ?_
       go_wp2
       go_ret
       refine qkz q5 hk ?_; intro e; rw [e]
     ·replace q4 : Hid (¬ (x.fixed = y.fixed)) := q4
      refine qIz (some (.bool false) :: nl 51) 31 (a' := { tmps := #[.agg C, .agg C', pt B 0, pt B' 0, .bool false, pt B 0, .int .u64 x.id, pt B' 0, .int .u64 y.id, .bool true, .bool true, pt B 1, .int .i64 x.kind, pt B' 1, .int .i64 y.kind, .bool true, .bool true, .bool true, pt B 2, .slice a2 n2 k2, pt B' 2, .slice a2' n2' k2', .bool true, .bool true, .bool true, pt B 3, .int .i64 x.quota, pt B' 3, .int .i64 y.quota, .bool true, .bool true, .bool true, pt B 4, .bool x.fixed, pt B' 4, .bool y.fixed, .bool false, .bool false, .bool false, ud, ud, ud, ud, ud, .bool false, .bool false, ud, ud, ud, ud, ud, .bool false, .bool false, ud, ud, ud, ud, ud, .bool false, .bool false, ud, ud, ud, ud, ud, .bool false, .bool false, ud, ud, ud, ud, ud, .bool false, .bool false, ud, ud, ud, ud, ud, .bool false, .bool false, ud, ud, ud, ud, ud, .bool false], defers := [] }) (obs := [.test .eql 4 (.tmp 33) (.tmp 35) (.bool x.fixed) (.bool y.fixed) (.bool false)]) (by kernel_rfl) ⟨qVz (fun _ => yIz _ _ _ _) q4, trivial⟩ ?_
      refine qJz (by kernel_rfl) ?_
      go_wp2
      go_ret
      refine qkz q4 hk ?_; intro e; rw [e]
    ·replace q3 : Hid (¬ (x.quota = y.quota)) := q3
     refine qIz (some (.bool false) :: nl 58) 24 (a' := { tmps := #[.agg C, .agg C', pt B 0, pt B' 0, .bool false, pt B 0, .int .u64 x.id, pt B' 0, .int .u64 y.id, .bool true, .bool true, pt B 1, .int .i64 x.kind, pt B' 1, .int .i64 y.kind, .bool true, .bool true, .bool true, pt B 2, .slice a2 n2 k2, pt B' 2, .slice a2' n2' k2', .bool true, .bool true, .bool true, pt B 3, .int .i64 x.quota, pt B' 3, .int .i64 y.quota, .bool false, .bool false, .bool false, ud, ud, ud, ud, ud, .bool false, .bool false, ud, ud, ud, ud, ud, .bool false, .bool false, ud, ud, ud, ud, ud, .bool false, .bool false, ud, ud, ud, ud, ud, .bool false, .bool false, ud, ud, ud, ud, ud, .bool false, .bool false, ud, ud, ud, ud, ud, .bool false, .bool false, ud, ud, ud, ud, ud, .bool false, .bool false, ud, ud, ud, ud, ud, .bool false], defers := [] }) (obs := [.test .eql 3 (.tmp 26) (.tmp 28) (.int .i64 x.quota) (.int .i64 y.quota) (.bool false)]) (by kernel_rfl) ⟨qVz (fun _ => quz _ _ _ _ _ _) q3, trivial⟩ ?_
     refine qJz (by kernel_rfl) ?_
     go_wp2
     go_ret
     refine qkz q3 hk ?_; intro e; rw [e]
   ·intro w2 q2 hb1; replace hb := hb.next hb1; replace hb' := hb'.next hb1; replace hk := btz hk hb1; clear hb1
    refine qIz (nl 65) 18 (a' := { tmps := #[.agg C, .agg C', pt B 0, pt B' 0, .bool false, pt B 0, .int .u64 x.id, pt B' 0, .int .u64 y.id, .bool true, .bool true, pt B 1, .int .i64 x.kind, pt B' 1, .int .i64 y.kind, .bool true, .bool true, .bool true, pt B 2, .slice a2 n2 k2, pt B' 2, .slice a2' n2' k2', .bool false, .bool false, .bool false, ud, ud, ud, ud, ud, .bool false, .bool false, ud, ud, ud, ud, ud, .bool false, .bool false, ud, ud, ud, ud, ud, .bool false, .bool false, ud, ud, ud, ud, ud, .bool false, .bool false, ud, ud, ud, ud, ud, .bool false, .bool false, ud, ud, ud, ud, ud, .bool false, .bool false, ud, ud, ud, ud, ud, .bool false, .bool false, ud, ud, ud, ud, ud, .bool false, .bool false, ud, ud, ud, ud, ud, .bool false], defers := [] }) (obs := []) (by kernel_rfl) trivial ?_
    refine qJz (by kernel_rfl) ?_
    go_wp2
    go_ret
    refine qkz q2 hk ?_; intro e; rw [e]
  ·replace q1 : Hid (¬ (x.kind = y.kind)) := q1
   refine qIz (some (.bool false) :: nl 72) 10 (a' := { tmps := #[.agg C, .agg C', pt B 0, pt B' 0, .bool false, pt B 0, .int .u64 x.id, pt B' 0, .int .u64 y.id, .bool true, .bool true, pt B 1, .int .i64 x.kind, pt B' 1, .int .i64 y.kind, .bool false, .bool false, .bool false, ud, ud, ud, ud, ud, .bool false, .bool false, ud, ud, ud, ud, ud, .bool false, .bool false, ud, ud, ud, ud, ud, .bool false, .bool false, ud, ud, ud, ud, ud, .bool false, .bool false, ud, ud, ud, ud, ud, .bool false, .bool false, ud, ud, ud, ud, ud, .bool false, .bool false, ud, ud, ud, ud, ud, .bool false, .bool false, ud, ud, ud, ud, ud, .bool false, .bool false, ud, ud, ud, ud, ud, .bool false, .bool false, ud, ud, ud, ud, ud, .bool false], defers := [] }) (obs := [.test .eql 3 (.tmp 12) (.tmp 14) (.int .i64 x.kind) (.int .i64 y.kind) (.bool false)]) (by kernel_rfl) ⟨qVz (fun _ => quz _ _ _ _ _ _) q1, trivial⟩ ?_
   refine qJz (by kernel_rfl) ?_
   go_wp2
   go_ret
   refine qkz q1 hk ?_; intro e; rw [e]
 ·replace q0 : Hid (¬ (x.id = y.id)) := q0
  refine qIz (some (.bool false) :: nl 78) 4 (a' := { tmps := #[.agg C, .agg C', pt B 0, pt B' 0, .bool false, pt B 0, .int .u64 x.id, pt B' 0, .int .u64 y.id, .bool false, .bool false, ud, ud, ud, ud, ud, .bool false, .bool false, ud, ud, ud, ud, ud, .bool false, .bool false, ud, ud, ud, ud, ud, .bool false, .bool false, ud, ud, ud, ud, ud, .bool false, .bool false, ud, ud, ud, ud, ud, .bool false, .bool false, ud, ud, ud, ud, ud, .bool false, .bool false, ud, ud, ud, ud, ud, .bool false, .bool false, ud, ud, ud, ud, ud, .bool false, .bool false, ud, ud, ud, ud, ud, .bool false, .bool false, ud, ud, ud, ud, ud, .bool false, .bool false, ud, ud, ud, ud, ud, .bool false], defers := [] }) (obs := [.test .eql 22 (.tmp 6) (.tmp 8) (.int .u64 x.id) (.int .u64 y.id) (.bool false)]) (by kernel_rfl) ⟨qVz (fun _ => quz _ _ _ _ _ _) q0, trivial⟩ ?_
  refine qJz (by kernel_rfl) ?_
  go_wp2
  go_ret
  refine qkz q0 hk ?_; intro e; rw [e]
theorem q3z {C C' : Array Value} {x y : Ob} (h : ObD (LtN w) w C x) (h' : ObD (LtN w) w C' y) :
  Asks 46 #[.agg C, .agg C'] (x = y) w := by
 have hz := h.size
 have c0 := h.id
 have c1 := h.kind
 obtain ⟨a2, n2, k2, c2, l2⟩ := h.label
 have c3 := h.quota
 have c4 := h.fixed
 obtain ⟨a5, n5, k5, c5, l5⟩ := h.links
 obtain ⟨a6, n6, k6, c6, l6⟩ := h.data
 obtain ⟨a7, n7, k7, c7, l7⟩ := h.maps
 obtain ⟨a49, n49, k49, c49, l49⟩ := h.inn
 obtain ⟨a50, n50, k50, c50, l50⟩ := h.out
 have hz' := h'.size
 have c0' := h'.id
 have c1' := h'.kind
 obtain ⟨a2', n2', k2', c2', l2'⟩ := h'.label
 have c3' := h'.quota
 have c4' := h'.fixed
 obtain ⟨a5', n5', k5', c5', l5'⟩ := h'.links
 obtain ⟨a6', n6', k6', c6', l6'⟩ := h'.data
 obtain ⟨a7', n7', k7', c7', l7'⟩ := h'.maps
 obtain ⟨a49', n49', k49', c49', l49'⟩ := h'.inn
 obtain ⟨a50', n50', k50', c50', l50'⟩ := h'.out
 have ga0 := isAgg27
 have ga1 := isAgg22
 have ga2 := isAgg3
 have ga3 := isAgg4
 have ga4 := isAgg28
 have ga5 := isAgg29
 unfold Asks
 go_enter func46, ntmps46
 try simp only [List.append]
 go_upto_region 1 with (first
  | (with_reducible refine qcz rfl _ _ rfl C rfl ?_; intro B W hB hb hk)
  | (with_reducible refine qcz rfl _ _ rfl C' rfl ?_; intro B' W' hB' hb' hk'; replace hb := hb.next hk'; replace hk := btz hk hk'; clear hk'))
 refine xjz ?_
 refine qDz [none, some (.int .u64 x.id), none, some (.int .u64 y.id)] 0 (obs := [.load 22 (B) (0) (.int .u64 x.id), .load 22 (B') (0) (.int .u64 y.id)]) (by kernel_rfl) ⟨qhz (fun _ e => by rw [e]; exact hb) c0 ga1, qhz (fun _ e => by rw [e]; exact hb') c0' ga1, trivial⟩ ?_
 by_cases q0 : ¬ x.id = y.id
 ·replace q0 : Hid (¬ x.id = y.id) := q0
  refine qIz (some (.bool true) :: nl 29) 4 (a' := { tmps := #[.agg C, .agg C', pt B 0, pt B' 0, .bool false, pt B 0, .int .u64 x.id, pt B' 0, .int .u64 y.id, .bool true, .bool true, ud, ud, ud, ud, ud, .bool true, .bool true, ud, ud, ud, ud, ud, ud, .bool true, .bool true, ud, ud, ud, ud, ud, .bool true, .bool true, ud, ud, ud, ud, ud, .bool true, ud, ud, ud, ud, ud, ud, ud, ud, ud, ud, ud, ud, ud, ud, ud, ud, ud, ud, ud, ud, ud, ud, ud, ud, ud, ud, ud, ud, ud, ud, ud, ud, ud, ud, ud, ud, ud, ud, ud, ud, ud, ud, ud, ud, ud, ud, ud], defers := [] }) (obs := [.test .neq 22 (.tmp 6) (.tmp 8) (.int .u64 x.id) (.int .u64 y.id) (.bool true)]) (by kernel_rfl) ⟨qEz (fun _ => q2z _ _ _ _ _ _) q0, trivial⟩ ?_
  refine qJz (by kernel_rfl) ?_
  go_wp2
  go_ret
  refine qkz q0 hk ?_; intro e; rw [e]
 ·replace q0 : Hid (¬ (¬ x.id = y.id)) := q0
  refine qDz [some (.bool false), none, none, some (.int .i64 x.kind), none, some (.int .i64 y.kind)] 4 (obs := [.test .neq 22 (.tmp 6) (.tmp 8) (.int .u64 x.id) (.int .u64 y.id) (.bool false), .load 3 (B) (1) (.int .i64 x.kind), .load 3 (B') (1) (.int .i64 y.kind)]) (by kernel_rfl) ⟨qVz (fun _ => q2z _ _ _ _ _ _) q0, qhz (fun _ e => by rw [e]; exact hb) c1 ga2, qhz (fun _ e => by rw [e]; exact hb') c1' ga2, trivial⟩ ?_
  by_cases q1 : ¬ x.kind = y.kind
  ·replace q1 : Hid (¬ x.kind = y.kind) := q1
   refine qIz (some (.bool true) :: nl 23) 10 (a' := { tmps := #[.agg C, .agg C', pt B 0, pt B' 0, .bool false, pt B 0, .int .u64 x.id, pt B' 0, .int .u64 y.id, .bool false, .bool false, pt B 1, .int .i64 x.kind, pt B' 1, .int .i64 y.kind, .bool true, .bool true, .bool true, ud, ud, ud, ud, ud, ud, .bool true, .bool true, ud, ud, ud, ud, ud, .bool true, .bool true, ud, ud, ud, ud, ud, .bool true, ud, ud, ud, ud, ud, ud, ud, ud, ud, ud, ud, ud, ud, ud, ud, ud, ud, ud, ud, ud, ud, ud, ud, ud, ud, ud, ud, ud, ud, ud, ud, ud, ud, ud, ud, ud, ud, ud, ud, ud, ud, ud, ud, ud, ud, ud, ud], defers := [] }) (obs := [.test .neq 3 (.tmp 12) (.tmp 14) (.int .i64 x.kind) (.int .i64 y.kind) (.bool true)]) (by kernel_rfl) ⟨qEz (fun _ => q2z _ _ _ _ _ _) q1, trivial⟩ ?_
   refine qJz (by kernel_rfl) ?_
   go_wp2
   go_ret
   refine qkz q1 hk ?_; intro e; rw [e]
  ·replace q1 : Hid (¬ (¬ x.kind = y.kind)) := q1
   refine qDz [some (.bool false), none, none, none, some (.slice a2 n2 k2), none, some (.slice a2' n2' k2')] 10 (obs := [.test .neq 3 (.tmp 12) (.tmp 14) (.int .i64 x.kind) (.int .i64 y.kind) (.bool false), .load 27 (B) (2) (.slice a2 n2 k2), .load 27 (B') (2) (.slice a2' n2' k2')]) (by kernel_rfl) ⟨qVz (fun _ => q2z _ _ _ _ _ _) q1, qhz (fun _ e => by rw [e]; exact hb) c2 ga0, qhz (fun _ e => by rw [e]; exact hb') c2' ga0, trivial⟩ ?_
   refine q4z (i := 17) (f := 76) (vs := [.slice a2 n2 k2, .slice a2' n2' k2']) (d := some 22) (by kernel_rfl) call76 (reqL l2 l2' hk) ?_ ?_
   ·intro w2 q2 hb1; replace hb := hb.next hb1; replace hb' := hb'.next hb1; replace hk := btz hk hb1; clear hb1
    refine qDz [none, none, none, none, some (.int .i64 x.quota), none, some (.int .i64 y.quota)] 18 (obs := [.load 3 (B) (3) (.int .i64 x.quota), .load 3 (B') (3) (.int .i64 y.quota)]) (by kernel_rfl) ⟨qhz (fun _ e => by rw [e]; exact hb) c3 ga2, qhz (fun _ e => by rw [e]; exact hb') c3' ga2, trivial⟩ ?_
    by_cases q3 : ¬ x.quota = y.quota
    ·replace q3 : Hid (¬ x.quota = y.quota) := q3
     refine qIz (some (.bool true) :: nl 8) 25 (a' := { tmps := #[.agg C, .agg C', pt B 0, pt B' 0, .bool false, pt B 0, .int .u64 x.id, pt B' 0, .int .u64 y.id, .bool false, .bool false, pt B 1, .int .i64 x.kind, pt B' 1, .int .i64 y.kind, .bool false, .bool false, .bool false, pt B 2, .slice a2 n2 k2, pt B' 2, .slice a2' n2' k2', .bool true, .bool false, .bool false, .bool false, pt B 3, .int .i64 x.quota, pt B' 3, .int .i64 y.quota, .bool true, .bool true, .bool true, ud, ud, ud, ud, ud, .bool true, ud, ud, ud, ud, ud, ud, ud, ud, ud, ud, ud, ud, ud, ud, ud, ud, ud, ud, ud, ud, ud, ud, ud, ud, ud, ud, ud, ud, ud, ud, ud, ud, ud, ud, ud, ud, ud, ud, ud, ud, ud, ud, ud, ud, ud, ud, ud], defers := [] }) (obs := [.test .neq 3 (.tmp 27) (.tmp 29) (.int .i64 x.quota) (.int .i64 y.quota) (.bool true)]) (by kernel_rfl) ⟨qEz (fun _ => q2z _ _ _ _ _ _) q3, trivial⟩ ?_
     refine qJz (by kernel_rfl) ?_
     go_wp2
     go_ret
     refine qkz q3 hk ?_; intro e; rw [e]
    ·replace q3 : Hid (¬ (¬ x.quota = y.quota)) := q3
     refine qDz [some (.bool false), none, none, none, some (.bool x.fixed), none, some (.bool y.fixed)] 25 (obs := [.test .neq 3 (.tmp 27) (.tmp 29) (.int .i64 x.quota) (.int .i64 y.quota) (.bool false), .load 4 (B) (4) (.bool x.fixed), .load 4 (B') (4) (.bool y.fixed)]) (by kernel_rfl) ⟨qVz (fun _ => q2z _ _ _ _ _ _) q3, qhz (fun _ e => by rw [e]; exact hb) c4 ga3, qhz (fun _ e => by rw [e]; exact hb') c4' ga3, trivial⟩ ?_
     by_cases q4 : ¬ x.fixed = y.fixed
     ·replace q4 : Hid (¬ x.fixed = y.fixed) := q4
      refine qIz [some (.bool true), none] 32 (a' := { tmps := #[.agg C, .agg C', pt B 0, pt B' 0, .bool false, pt B 0, .int .u64 x.id, pt B' 0, .int .u64 y.id, .bool false, .bool false, pt B 1, .int .i64 x.kind, pt B' 1, .int .i64 y.kind, .bool false, .bool false, .bool false, pt B 2, .slice a2 n2 k2, pt B' 2, .slice a2' n2' k2', .bool true, .bool false, .bool false, .bool false, pt B 3, .int .i64 x.quota, pt B' 3, .int .i64 y.quota, .bool false, .bool false, .bool false, pt B 4, .bool x.fixed, pt B' 4, .bool y.fixed, .bool true, .bool true, ud, ud, ud, ud, ud, ud, ud, ud, ud, ud, ud, ud, ud, ud, ud, ud, ud, ud, ud, ud, ud, ud, ud, ud, ud, ud, ud, ud, ud, ud, ud, ud, ud, ud, ud, ud, ud, ud, ud, ud, ud, ud, ud, ud, ud, ud, ud], defers := [] }) (obs := [.test .neq 4 (.tmp 34) (.tmp 36) (.bool x.fixed) (.bool y.fixed) (.bool true)]) (by kernel_rfl) ⟨qEz (fun _ => yvz _ _ _ _) q4, trivial⟩ ?_
      refine qJz (by kernel_rfl) ?_
      go_wp2
      go_ret
      refine qkz q4 hk ?_; intro e; rw [e]
     ·replace q4 : Hid (¬ (¬ x.fixed = y.fixed)) := q4
      refine qIz [some (.bool false), none] 32 (a' := { tmps := #[.agg C, .agg C', pt B 0, pt B' 0, .bool false, pt B 0, .int .u64 x.id, pt B' 0, .int .u64 y.id, .bool false, .bool false, pt B 1, .int .i64 x.kind, pt B' 1, .int .i64 y.kind, .bool false, .bool false, .bool false, pt B 2, .slice a2 n2 k2, pt B' 2, .slice a2' n2' k2', .bool true, .bool false, .bool false, .bool false, pt B 3, .int .i64 x.quota, pt B' 3, .int .i64 y.quota, .bool false, .bool false, .bool false, pt B 4, .bool x.fixed, pt B' 4, .bool y.fixed, .bool false, .bool false, ud, ud, ud, ud, ud, ud, ud, ud, ud, ud, ud, ud, ud, ud, ud, ud, ud, ud, ud, ud, ud, ud, ud, ud, ud, ud, ud, ud, ud, ud, ud, ud, ud, ud, ud, ud, ud, ud, ud, ud, ud, ud, ud, ud, ud, ud, ud], defers := [] }) (obs := [.test .neq 4 (.tmp 34) (.tmp 36) (.bool x.fixed) (.bool y.fixed) (.bool false)]) (by kernel_rfl) ⟨qVz (fun _ => yvz _ _ _ _) q4, trivial⟩ ?_
      refine qJz (by kernel_rfl) ?_
      go_upto_region 3 with (fail)
      refine xjz ?_
      refine qDz [none, some (.slice a5 n5 k5), none, some (.slice a5' n5' k5')] 0 (obs := [.load 28 (B) (5) (.slice a5 n5 k5), .load 28 (B') (5) (.slice a5' n5' k5')]) (by kernel_rfl) ⟨qhz (fun _ e => by rw [e]; exact hb) c5 ga4, qhz (fun _ e => by rw [e]; exact hb') c5' ga4, trivial⟩ ?_
      refine q4z (i := 4) (f := 77) (vs := [.slice a5 n5 k5, .slice a5' n5' k5']) (d := some 43) (by kernel_rfl) call77 (reqU l5 l5' hk) ?_ ?_
      ·intro w5 q5 hb1; replace hb := hb.next hb1; replace hb' := hb'.next hb1; replace hk := btz hk hb1; clear hb1
       refine qDz [none, none, some (.slice a6 n6 k6), none, some (.slice a6' n6' k6')] 5 (obs := [.load 28 (B) (6) (.slice a6 n6 k6), .load 28 (B') (6) (.slice a6' n6' k6')]) (by kernel_rfl) ⟨qhz (fun _ e => by rw [e]; exact hb) c6 ga4, qhz (fun _ e => by rw [e]; exact hb') c6' ga4, trivial⟩ ?_
       refine q4z (i := 10) (f := 77) (vs := [.slice a6 n6 k6, .slice a6' n6' k6']) (d := some 49) (by kernel_rfl) call77 (reqU l6 l6' hk) ?_ ?_
       ·intro w6 q6 hb1; replace hb := hb.next hb1; replace hb' := hb'.next hb1; replace hk := btz hk hb1; clear hb1
        refine qDz [none, none, none, some (.slice a7 n7 k7), none, some (.slice a7' n7' k7')] 11 (obs := [.load 29 (B) (7) (.slice a7 n7 k7), .load 29 (B') (7) (.slice a7' n7' k7')]) (by kernel_rfl) ⟨qhz (fun _ e => by rw [e]; exact hb) c7 ga5, qhz (fun _ e => by rw [e]; exact hb') c7' ga5, trivial⟩ ?_
        refine q4z (i := 17) (f := 78) (vs := [.slice a7 n7 k7, .slice a7' n7' k7']) (d := some 56) (by kernel_rfl) call78 (reqM l7 l7' hk) ?_ ?_
        ·intro w7 q7 hb1; replace hb := hb.next hb1; replace hb' := hb'.next hb1; replace hk := btz hk hb1; clear hb1
         refine qDz [none, none, none, some (.agg (C.extract 8 (8 + 35))), none, some (.agg (C'.extract 8 (8 + 35)))] 18 (obs := [.load 39 (B) (8) (.agg (C.extract 8 (8 + 35))), .load 39 (B') (8) (.agg (C'.extract 8 (8 + 35)))]) (by kernel_rfl) ⟨qXz 35 (fun _ e => by rw [e]; exact hb) rfl (by rw [hz]; omega) underlying39 (by kernel_rfl) xbz, qXz 35 (fun _ e => by rw [e]; exact hb') rfl (by rw [hz']; omega) underlying39 (by kernel_rfl) xbz, trivial⟩ ?_
         refine q4z (i := 24) (f := 79) (vs := [.agg (C.extract 8 (8 + 35)), .agg (C'.extract 8 (8 + 35))]) (d := some 63) (by kernel_rfl) call79 (kyz (h.thd.next hk) (h'.thd.next hk)) ?_ ?_
         ·intro w8 q8 hb1; replace hb := hb.next hb1; replace hb' := hb'.next hb1; replace hk := btz hk hb1; clear hb1
          refine qDz [none, none, none, some (.agg (C.extract 43 (43 + 6))), none, some (.agg (C'.extract 43 (43 + 6)))] 25 (obs := [.load 41 (B) (43) (.agg (C.extract 43 (43 + 6))), .load 41 (B') (43) (.agg (C'.extract 43 (43 + 6)))]) (by kernel_rfl) ⟨qXz 6 (fun _ e => by rw [e]; exact hb) rfl (by rw [hz]; omega) underlying41 (by kernel_rfl) kwz, qXz 6 (fun _ e => by rw [e]; exact hb') rfl (by rw [hz']; omega) underlying41 (by kernel_rfl) kwz, trivial⟩ ?_
          refine q4z (i := 31) (f := 80) (vs := [.agg (C.extract 43 (43 + 6)), .agg (C'.extract 43 (43 + 6))]) (d := some 70) (by kernel_rfl) call80 (jlz (h.gtd.next hk) (h'.gtd.next hk)) ?_ ?_
          ·intro w9 q9 hb1; replace hb := hb.next hb1; replace hb' := hb'.next hb1; replace hk := btz hk hb1; clear hb1
           refine qDz [none, none, none, some (.slice a49 n49 k49), none, some (.slice a49' n49' k49')] 32 (obs := [.load 28 (B) (49) (.slice a49 n49 k49), .load 28 (B') (49) (.slice a49' n49' k49')]) (by kernel_rfl) ⟨qhz (fun _ e => by rw [e]; exact hb) c49 ga4, qhz (fun _ e => by rw [e]; exact hb') c49' ga4, trivial⟩ ?_
           refine q4z (i := 38) (f := 77) (vs := [.slice a49 n49 k49, .slice a49' n49' k49']) (d := some 77) (by kernel_rfl) call77 (reqU l49 l49' hk) ?_ ?_
           ·intro w10 q10 hb1; replace hb := hb.next hb1; replace hb' := hb'.next hb1; replace hk := btz hk hb1; clear hb1
            refine qDz [none, none, none, some (.slice a50 n50 k50), none, some (.slice a50' n50' k50')] 39 (obs := [.load 28 (B) (50) (.slice a50 n50 k50), .load 28 (B') (50) (.slice a50' n50' k50')]) (by kernel_rfl) ⟨qhz (fun _ e => by rw [e]; exact hb) c50 ga4, qhz (fun _ e => by rw [e]; exact hb') c50' ga4, trivial⟩ ?_
            refine q4z (i := 45) (f := 77) (vs := [.slice a50 n50 k50, .slice a50' n50' k50']) (d := some 84) (by kernel_rfl) call77 (reqU l50 l50' hk) ?_ ?_
            ·intro w11 q11 hb1; replace hb := hb.next hb1; replace hb' := hb'.next hb1; replace hk := btz hk hb1; clear hb1
             refine qIz [none, none] 46 (a' := { tmps := #[.agg C, .agg C', pt B 0, pt B' 0, .bool true, pt B 0, .int .u64 x.id, pt B' 0, .int .u64 y.id, .bool false, .bool false, pt B 1, .int .i64 x.kind, pt B' 1, .int .i64 y.kind, .bool false, .bool false, .bool false, pt B 2, .slice a2 n2 k2, pt B' 2, .slice a2' n2' k2', .bool true, .bool false, .bool false, .bool false, pt B 3, .int .i64 x.quota, pt B' 3, .int .i64 y.quota, .bool false, .bool false, .bool false, pt B 4, .bool x.fixed, pt B' 4, .bool y.fixed, .bool false, .bool false, pt B 5, .slice a5 n5 k5, pt B' 5, .slice a5' n5' k5', .bool true, .bool true, pt B 6, .slice a6 n6 k6, pt B' 6, .slice a6' n6' k6', .bool true, .bool true, .bool true, pt B 7, .slice a7 n7 k7, pt B' 7, .slice a7' n7' k7', .bool true, .bool true, .bool true, pt B 8, .agg (C.extract 8 (8 + 35)), pt B' 8, .agg (C'.extract 8 (8 + 35)), .bool true, .bool true, .bool true, pt B 43, .agg (C.extract 43 (43 + 6)), pt B' 43, .agg (C'.extract 43 (43 + 6)), .bool true, .bool true, .bool true, pt B 49, .slice a49 n49 k49, pt B' 49, .slice a49' n49' k49', .bool true, .bool true, .bool true, pt B 50, .slice a50 n50 k50, pt B' 50, .slice a50' n50' k50', .bool true, .bool true], defers := [] }) (obs := []) (by kernel_rfl) trivial ?_
             refine qJz (by kernel_rfl) ?_
             go_wp2
             go_ret
             exact qrz (ggz.1 ⟨Classical.not_not.1 q0.out, Classical.not_not.1 q1.out, q2.out, Classical.not_not.1 q3.out, Classical.not_not.1 q4.out, q5.out, q6.out, q7.out, q8.out, q9.out, q10.out, q11.out⟩) hk
            ·intro w11 q11 hb1; replace hb := hb.next hb1; replace hb' := hb'.next hb1; replace hk := btz hk hb1; clear hb1
             refine qIz [none, none] 46 (a' := { tmps := #[.agg C, .agg C', pt B 0, pt B' 0, .bool false, pt B 0, .int .u64 x.id, pt B' 0, .int .u64 y.id, .bool false, .bool false, pt B 1, .int .i64 x.kind, pt B' 1, .int .i64 y.kind, .bool false, .bool false, .bool false, pt B 2, .slice a2 n2 k2, pt B' 2, .slice a2' n2' k2', .bool true, .bool false, .bool false, .bool false, pt B 3, .int .i64 x.quota, pt B' 3, .int .i64 y.quota, .bool false, .bool false, .bool false, pt B 4, .bool x.fixed, pt B' 4, .bool y.fixed, .bool false, .bool false, pt B 5, .slice a5 n5 k5, pt B' 5, .slice a5' n5' k5', .bool true, .bool true, pt B 6, .slice a6 n6 k6, pt B' 6, .slice a6' n6' k6', .bool true, .bool true, .bool true, pt B 7, .slice a7 n7 k7, pt B' 7, .slice a7' n7' k7', .bool true, .bool true, .bool true, pt B 8, .agg (C.extract 8 (8 + 35)), pt B' 8, .agg (C'.extract 8 (8 + 35)), .bool true, .bool true, .bool true, pt B 43, .agg (C.extract 43 (43 + 6)), pt B' 43, .agg (C'.extract 43 (43 + 6)), .bool true, .bool true, .bool true, pt B 49, .slice a49 n49 k49, pt B' 49, .slice a49' n49' k49', .bool true, .bool true, .bool true, pt B 50, .slice a50 n50 k50, pt B' 50, .slice a50' n50' k50', .bool false, .bool false], defers := [] }) (obs := []) (by kernel_rfl) trivial ?_
             refine qJz (by kernel_rfl) ?_
             go_wp2
             go_ret
             refine qkz q11 hk ?_; intro e; rw [e]
           ·intro w10 q10 hb1; replace hb := hb.next hb1; replace hb' := hb'.next hb1; replace hk := btz hk hb1; clear hb1
            refine qIz (nl 9) 39 (a' := { tmps := #[.agg C, .agg C', pt B 0, pt B' 0, .bool false, pt B 0, .int .u64 x.id, pt B' 0, .int .u64 y.id, .bool false, .bool false, pt B 1, .int .i64 x.kind, pt B' 1, .int .i64 y.kind, .bool false, .bool false, .bool false, pt B 2, .slice a2 n2 k2, pt B' 2, .slice a2' n2' k2', .bool true, .bool false, .bool false, .bool false, pt B 3, .int .i64 x.quota, pt B' 3, .int .i64 y.quota, .bool false, .bool false, .bool false, pt B 4, .bool x.fixed, pt B' 4, .bool y.fixed, .bool false, .bool false, pt B 5, .slice a5 n5 k5, pt B' 5, .slice a5' n5' k5', .bool true, .bool true, pt B 6, .slice a6 n6 k6, pt B' 6, .slice a6' n6' k6', .bool true, .bool true, .bool true, pt B 7, .slice a7 n7 k7, pt B' 7, .slice a7' n7' k7', .bool true, .bool true, .bool true, pt B 8, .agg (C.extract 8 (8 + 35)), pt B' 8, .agg (C'.extract 8 (8 + 35)), .bool true, .bool true, .bool true, pt B 43, .agg (C.extract 43 (43 + 6)), pt B' 43, .agg (C'.extract 43 (43 + 6)), .bool true, .bool true, .bool true, pt B 49, .slice a49 n49 k49, pt B' 49, .slice a49' n49' k49', .bool false, .bool false, .bool false, ud, ud, ud, ud, ud, .bool false], defers := [] }) (obs := []) (by kernel_rfl) trivial ?_
            refine qJz (by kernel_rfl) ?_
            go_wp2
            go_ret
            refine qkz q10 hk ?_; intro e; rw [e]
          ·intro w9 q9 hb1; replace hb := hb.next hb1; replace hb' := hb'.next hb1; replace hk := btz hk hb1; clear hb1
           refine qIz (nl 16) 32 (a' := { tmps := #[.agg C, .agg C', pt B 0, pt B' 0, .bool false, pt B 0, .int .u64 x.id, pt B' 0, .int .u64 y.id, .bool false, .bool false, pt B 1, .int .i64 x.kind, pt B' 1, .int .i64 y.kind, .bool false, .bool false, .bool false, pt B 2, .slice a2 n2 k2, pt B' 2, .slice a2' n2' k2', .bool true, .bool false, .bool false, .bool false, pt B 3, .int .i64 x.quota, pt B' 3, .int .i64 y.quota, .bool false, .bool false, .bool false, pt B 4, .bool x.fixed, pt B' 4, .bool y.fixed, .bool false, .bool false, pt B 5, .slice a5 n5 k5, pt B' 5, .slice a5' n5' k5', .bool true, .bool true, pt B 6, .slice a6 n6 k6, pt B' 6, .slice a6' n6' k6', .bool true, .bool true, .bool true, pt B 7, .slice a7 n7 k7, pt B' 7, .slice a7' n7' k7', .bool true, .bool true, .bool true, pt B 8, .agg (C.extract 8 (8 + 35)), pt B' 8, .agg (C'.extract 8 (8 + 35)), .bool true, .bool true, .bool true, pt B 43, .agg (C.extract 43 (43 + 6)), pt B' 43, .agg (C'.extract 43 (43 + 6)), .bool false, .bool false, .bool false, ud, ud, ud, ud, ud, .bool false, .bool false, ud, ud, ud, ud, ud, .bool false], defers := [] }) (obs := []) (by kernel_rfl) trivial ?_
           refine qJz (by kernel_rfl) ?_
           go_wp2
           go_ret
           refine qkz q9 hk ?_; intro e; rw [e]
         ·intro w8 q8 hb1; replace hb := hb.next hb1; replace hb' := hb'.next hb1; replace hk := btz hk hb1; clear hb1
          refine qIz (nl 23) 25 (a' := { tmps := #[.agg C, .agg C', pt B 0, pt B' 0, .bool false, pt B 0, .int .u64 x.id, pt B' 0, .int .u64 y.id, .bool false, .bool false, pt B 1, .int .i64 x.kind, pt B' 1, .int .i64 y.kind, .bool false, .bool false, .bool false, pt B 2, .slice a2 n2 k2, pt B' 2, .slice a2' n2' k2', .bool true, .bool false, .bool false, .bool false, pt B 3, .int .i64 x.quota, pt B' 3, .int .i64 y.quota, .bool false, .bool false, .bool false, pt B 4, .bool x.fixed, pt B' 4, .bool y.fixed, .bool false, .bool false, pt B 5, .slice a5 n5 k5, pt B' 5, .slice a5' n5' k5', .bool true, .bool true, pt B 6, .slice a6 n6 k6, pt B' 6, .slice a6' n6' k6', .bool true, .bool true, .bool true, pt B 7, .slice a7 n7 k7, pt B' 7, .slice a7' n7' k7', .bool true, .bool true, .bool true, pt B 8, .agg (C.extract 8 (8 + 35)), pt B' 8, .agg (C'.extract 8 (8 + 35)), .bool false, .bool false, .bool false, ud, ud, ud, ud, ud, .bool false, .bool false, ud, ud, ud, ud, ud, .bool false, .bool false, ud, ud, ud, ud, ud, .bool false], defers := [] }) (obs := []) (by kernel_rfl) trivial ?_
          refine qJz (by kernel_rfl) ?_
          go_wp2
          go_ret
          refine qkz q8 hk ?_; intro e; rw [e]
        ·intro w7 q7 hb1; replace hb := hb.next hb1; replace hb' := hb'.next hb1; replace hk := btz hk hb1; clear hb1
         refine qIz (nl 30) 18 (a' := { tmps := #[.agg C, .agg C', pt B 0, pt B' 0, .bool false, pt B 0, .int .u64 x.id, pt B' 0, .int .u64 y.id, .bool false, .bool false, pt B 1, .int .i64 x.kind, pt B' 1, .int .i64 y.kind, .bool false, .bool false, .bool false, pt B 2, .slice a2 n2 k2, pt B' 2, .slice a2' n2' k2', .bool true, .bool false, .bool false, .bool false, pt B 3, .int .i64 x.quota, pt B' 3, .int .i64 y.quota, .bool false, .bool false, .bool false, pt B 4, .bool x.fixed, pt B' 4, .bool y.fixed, .bool false, .bool false, pt B 5, .slice a5 n5 k5, pt B' 5, .slice a5' n5' k5', .bool true, .bool true, pt B 6, .slice a6 n6 k6, pt B' 6, .slice a6' n6' k6', .bool true, .bool true, .bool true, pt B 7, .slice a7 n7 k7, pt B' 7, .slice a7' n7' k7', .bool false, .bool false, .bool false, ud, ud, ud, ud, ud, .bool false, .bool false, ud, ud, ud, ud, ud, .bool false, .bool false, ud, ud, ud, ud, ud, .bool false, .bool false, ud, ud, ud, ud, ud, .bool false], defers := [] }) (obs := []) (by kernel_rfl) trivial ?_
         refine qJz (by kernel_rfl) ?_
         go_wp2
         go_ret
         refine qkz q7 hk ?_; intro e; rw [e]
       ·intro w6 q6 hb1; replace hb := hb.next hb1; replace hb' := hb'.next hb1; replace hk := btz hk hb1; clear hb1
        refine qIz (nl 37) 11 (a' := { tmps := #[.agg C, .agg C', pt B 0, pt B' 0, .bool false, pt B 0, .int .u64 x.id, pt B' 0, .int .u64 y.id, .bool false, .bool false, pt B 1, .int .i64 x.kind, pt B' 1, .int .i64 y.kind, .bool false, .bool false, .bool false, pt B 2, .slice a2 n2 k2, pt B' 2, .slice a2' n2' k2', .bool true, .bool false, .bool false, .bool false, pt B 3, .int .i64 x.quota, pt B' 3, .int .i64 y.quota, .bool false, .bool false, .bool false, pt B 4, .bool x.fixed, pt B' 4, .bool y.fixed, .bool false, .bool false, pt B 5, .slice a5 n5 k5, pt B' 5, .slice a5' n5' k5', .bool true, .bool true, pt B 6, .slice a6 n6 k6, pt B' 6, .slice a6' n6' k6', .bool false, .bool false, .bool false, ud, ud, ud, ud, ud, .bool false, .bool false, ud, ud, ud, ud, ud, .bool false, .bool false, ud, ud, ud, ud, ud, .bool false, .bool false, ud, ud, ud, ud, ud, .bool false, .bool false, ud, ud, ud, ud, ud, .bool false], defers := [] }) (obs := []) (by kernel_rfl) trivial ?_
        refine qJz (by kernel_rfl) ?_
        go_wp2
        go_ret
        refine qkz q6 hk ?_; intro e; rw [e]
      ·intro w5 q5 hb1; replace hb := hb.next hb1; replace hb' := hb'.next hb1; replace hk := btz hk hb1; clear hb1
       refine qIz (nl 43) 5 (a' := { tmps := #[.agg C, .agg C', pt B 0, pt B' 0, .bool false, pt B 0, .int .u64 x.id, pt B' 0, .int .u64 y.id, .bool false, .bool false, pt B 1, .int .i64 x.kind, pt B' 1, .int .i64 y.kind, .bool false, .bool false, .bool false, pt B 2, .slice a2 n2 k2, pt B' 2, .slice a2' n2' k2', .bool true, .bool false, .bool false, .bool false, pt B 3, .int .i64 x.quota, pt B' 3, .int .i64 y.quota, .bool false, .bool false, .bool false, pt B 4, .bool x.fixed, pt B' 4, .bool y.fixed, .bool false, .bool false, pt B 5, .slice a5 n5 k5, pt B' 5, .slice a5' n5' k5', .bool false, .bool false, ud, ud, ud, ud, ud, .bool false, .bool false, ud, ud, ud, ud, ud, .bool false, .bool false, ud, ud, ud, ud, ud, .bool false, .bool false, ud, ud, ud, ud, ud, .bool false, .bool false, ud, ud, ud, ud, ud, .bool false, .bool false, ud, ud, ud, ud, ud, .bool false], defers := [] }) (obs := []) (by kernel_rfl) trivial ?_
       refine qJz (by kernel_rfl) ?_
       go_wp2
       go_ret
       refine qkz q5 hk ?_; intro e; rw [e]
   ·intro w2 q2 hb1; replace hb := hb.next hb1; replace hb' := hb'.next hb1; replace hk := btz hk hb1; clear hb1
    refine qIz (nl 16) 18 (a' := { tmps := #[.agg C, .agg C', pt B 0, pt B' 0, .bool false, pt B 0, .int .u64 x.id, pt B' 0, .int .u64 y.id, .bool false, .bool false, pt B 1, .int .i64 x.kind, pt B' 1, .int .i64 y.kind, .bool false, .bool false, .bool false, pt B 2, .slice a2 n2 k2, pt B' 2, .slice a2' n2' k2', .bool false, .bool true, .bool true, .bool true, ud, ud, ud, ud, ud, .bool true, .bool true, ud, ud, ud, ud, ud, .bool true, ud, ud, ud, ud, ud, ud, ud, ud, ud, ud, ud, ud, ud, ud, ud, ud, ud, ud, ud, ud, ud, ud, ud, ud, ud, ud, ud, ud, ud, ud, ud, ud, ud, ud, ud, ud, ud, ud, ud, ud, ud, ud, ud, ud, ud, ud, ud], defers := [] }) (obs := []) (by kernel_rfl) trivial ?_
    refine qJz (by kernel_rfl) ?_
    go_wp2
    go_ret
    refine qkz q2 hk ?_; intro e; rw [e]
theorem jez {X : Prop} {W w' : World} {b : Bool} (h : b = true ↔ X) (hk : Below W.heap.size W w') : AskP X W (.returned (.bool b)) w' := ⟨b, rfl, h, hk⟩
theorem Asks.of {f : FuncId} {args : Array Value} {W : World} {b : Bool} (h : Calls prog f args W fun e w' => e = .returned (.bool b) ∧ Below W.heap.size W w') : Asks f args (b = true) W := by
 refine h.mono ?_
 rintro e w' ⟨rfl, hk⟩
 exact jez Iff.rfl hk
theorem yyz (n : Int) (w : World) : Asks 134 #[.int .u64 n] (idB n = true) w := by
 unfold Asks
 go_enter func134, ntmps134
 go_wp2
 all_goals go_ret
 all_goals (refine jez ?_ (brz _ _); unfold idB; simp; omega)
theorem rid_any (n : Int) (w : World) : Asks 22 #[.int .u64 n] (idB n = true) w := by
 unfold Asks
 go_enter func22, ntmps22
 go_wp2
 all_goals go_ret
 all_goals (refine jez ?_ (brz _ _); unfold idB; simp; omega)
theorem vhz (c l : Int) (w : World) : Asks 161 #[.agg #[.int .u64 c, .int .i64 l]] (¬ l = 5) w := by
 unfold Asks
 go_enter func161, ntmps161
 go_wp2
 all_goals go_ret
 all_goals (refine jez ?_ ((brz _ w).alloc (lrz _) _); simp)
def jjz (lo hi : Int) : Bool := decide (lo ≤ hi) && decide (hi ≤ 2305843009213693952)
theorem y8z (lo hi : Int) (w : World) : Asks 180 #[.agg #[.int .u64 lo, .int .u64 hi]] (jjz lo hi = true) w := by
 unfold Asks
 go_enter func180, ntmps180
 go_wp2
 all_goals go_ret
 all_goals (refine jez ?_ ((brz _ w).alloc (lrz _) _); unfold jjz; simp; omega)
theorem uQz (lo hi : Int) (w : World) : Asks 54 #[.agg #[.int .u64 lo, .int .u64 hi]] (jjz lo hi = true) w := by
 unfold Asks
 go_enter func54, ntmps54
 go_wp2
 all_goals go_ret
 all_goals (refine jez ?_ ((brz _ w).alloc (lrz _) _); unfold jjz; simp; omega)
theorem span_any (lo hi : Int) (w : World) : Asks 167 #[.agg #[.int .u64 lo, .int .u64 hi]] (jjz lo hi = true) w := by
 have hB := (brz w.heap.size w).alloc (lrz _) (.cells #[.int .u64 lo, .int .u64 hi] 36)
 unfold Asks
 go_enter func167, ntmps167
 go_wp2_with (go_at_call 180; (with_reducible refine (y8z lo hi _).on ?_ ?_) <;> intro w1 hq hk)
 ·go_ret
  exact qrz hq.out (btz hB hk)
 ·go_ret
  exact qkz hq (btz hB hk) id
def noA (L : Lb) : Bool := L.all fun p => !decide (p.2 = 5)
variable {L : Lb}
theorem jvz : noA L = true ↔ ∀ i, i < L.length → ¬ (L.getD i (0, 0)).2 = 5 := by
 unfold noA
 rw [List.all_eq_true]
 constructor
 ·intro h i hi
  have := h L[i] (List.getElem_mem hi)
  simpa [List.getD_eq_getElem?_getD, List.getElem?_eq_getElem hi] using this
 ·intro h p hp
  obtain ⟨i, hi, e⟩ := List.mem_iff_getElem.1 hp
  have := h i hi
  simpa [List.getD_eq_getElem?_getD, List.getElem?_eq_getElem hi, e] using this
theorem qFz : qYz L = true ↔ (L.length ≤ 16 ∧ fitB L = true ∧ noA L = true) := by unfold qYz noA; simp
variable {ao : Option Addr} {n cap : Nat}
theorem uiz (hL : Lab w.heap.size w ao n cap L) : Asks 160 #[.slice ao n cap, .func (.func 161) #[] #[]] (noA L = true) w := by
 have hn : Hid (L.length = n) := hL.1
 have hnc := hL.2.1
 have hcm := hL.2.2.1.1
 unfold Asks
 go_enter func160, ntmps160
 go_wp2
 go_loopw [9] (fun i wr => ∃ k : Nat, k ≤ n ∧ i = .int .i64 k ∧ Hid (∀ j, j < k → ¬ (L.getD j (0, 0)).2 = 5) ∧ Below w.heap.size w wr) (fun i _ => n - (intOf i).toNat)
 case atStart => exact ⟨0, Nat.zero_le _, rfl, fun j hj => absurd hj (by omega), brz _ _⟩
 case round =>
  obtain ⟨k, hk, rfl, hal, hb⟩ := hrel
  have hbs := hb.size
  by_cases hkn : k < n
  ·obtain ⟨b, off, x, y, rfl, hB, d0, d1, hxy⟩ := hL.at hb hkn
   have hkn' : (k : Int) < n := by omega
   have hbw : b < wr.heap.size := ltz hB hbs
   have hal1 := hb.alloc hbs (.cells #[.int .u64 x, .int .i64 y] 88)
   go_wp2_with (go_at_call 161; (with_reducible refine (vhz x y _).on ?_ ?_) <;> intro w1 hq hk1)
   ·go_roundw
    case rel => exact ⟨k + 1, by omega, by go_num, fun j hj => by
      rcases Nat.lt_or_ge j k with h | h
      ·exact hal.out j h
      ·obtain rfl : j = k := by omega
       rw [hxy.out]; exact hq.out, btz hal1 hk1⟩
    case measure => simp [intOf]; omega
   ·go_ret
    exact qkz hq (btz hal1 hk1) (fun e => by have := jvz.1 e k (by rw [hn.out]; exact hkn); rw [hxy.out] at this; exact this)
  ·obtain rfl : k = n := by omega
   go_wp2
   go_ret
   exact qrz (jvz.2 fun i hi => hal.out i (by rw [hn.out] at hi; exact hi)) hb
theorem kiz {w0 w : World} (h0 : LabD (LtN w0) w0 ao n cap L) (hk : Below w0.heap.size w0 w) : Asks 135 #[.slice ao n cap] (qYz L = true) w := by
 have hL := h0.lab' hk
 have hn : Hid (L.length = n) := hL.1
 clear h0 hk
 unfold Asks
 by_cases h16 : n ≤ 16
 ·have h16' : (n : Int) ≤ 16 := by omega
  go_enter func135, ntmps135
  go_wp2_with (first | (go_at_call 159; (with_reducible refine (Asks.of (lfit_any hL (lrz _))).on ?_ ?_) <;> intro w1 hq hk1) | (go_at_call 160; (with_reducible refine (uiz (hL.next hk1)).on ?_ ?_) <;> intro w2 hq2 hk2))
  all_goals go_ret
  ·exact qrz (qFz.2 ⟨by rw [hn.out]; exact h16, hq.out, hq2.out⟩) (btz hk1 hk2)
  ·exact qkz hq2 (btz hk1 hk2) (fun e => (qFz.1 e).2.2)
  ·exact qkz hq hk1 (fun e => (qFz.1 e).2.1)
 ·have h16' : ¬ (n : Int) ≤ 16 := by omega
  go_enter func135, ntmps135
  go_wp2
  go_ret
  exact qkz (show Hid (¬ n ≤ 16) from h16) (brz _ _) (fun e => by have := (qFz.1 e).1; rw [hn.out] at this; exact this)
theorem xcz {w0 w : World} (h0 : LabD (LtN w0) w0 ao n cap L) (hk : Below w0.heap.size w0 w) : Asks 23 #[.slice ao n cap] (qYz L = true) w := by
 have hL := h0.lab' hk
 have hn : Hid (L.length = n) := hL.1
 have hnc := hL.2.1
 have hcm := hL.2.2.1.1
 clear h0 hk
 unfold Asks
 go_enter func23, ntmps23
 go_wp2
 go_loopw [3] (fun i wr => ∃ k : Nat, k ≤ n ∧ i = .int .i64 k ∧ Hid (∀ j, j < k → ¬ (L.getD j (0, 0)).2 = 5) ∧ Below w.heap.size w wr) (fun i _ => n - (intOf i).toNat)
 case atStart => exact ⟨0, Nat.zero_le _, rfl, fun j hj => absurd hj (by omega), brz _ _⟩
 case round =>
  obtain ⟨k, hk, rfl, hal, hb⟩ := hrel
  have hbs := hb.size
  by_cases hkn : k < n
  ·obtain ⟨b, off, x, y, rfl, hB, d0, d1, hxy⟩ := hL.at hb hkn
   have hkn' : (k : Int) < n := by omega
   by_cases hy : y = 5
   ·have hq : Hid (¬ noA L = true) := by
     refine (?_ : ¬ noA L = true)
     intro e; have := jvz.1 e k (by rw [hn.out]; exact hkn); rw [hxy.out] at this; exact this hy
    subst hy
    go_wp2
    go_ret
    exact qkz hq hb (fun e => (qFz.1 e).2.2)
   ·have hy' : (y == 5) = false := by rw [beq_eq_false_iff_ne]; exact hy
    have hyh : Hid (¬ y = 5) := hy
    clear hy
    go_wp2
    go_roundw
    case rel => exact ⟨k + 1, by omega, by go_num, fun j hj => by
      rcases Nat.lt_or_ge j k with h | h
      ·exact hal.out j h
      ·obtain rfl : j = k := by omega
       rw [hxy.out]; exact hyh.out, hb⟩
    case measure => simp [intOf]; omega
  ·obtain rfl : k = n := by omega
   have hno : Hid (noA L = true) := jvz.2 fun i hi => hal.out i (by rw [hn.out] at hi; exact hi)
   clear hal
   by_cases h16 : k ≤ 16
   ·have h16' : (k : Int) ≤ 16 := by omega
    go_wp2_with (go_at_call 52; (with_reducible refine (Asks.of (uZz (hL.later hb) hbs)).on ?_ ?_) <;> intro w1 hq hk1)
    ·go_ret
     exact qrz (qFz.2 ⟨by rw [hn.out]; exact h16, hq.out, hno.out⟩) (hb.trans (hk1.mono hbs))
    ·go_ret
     exact qkz hq (hb.trans (hk1.mono hbs)) (fun e => (qFz.1 e).2.1)
   ·have h16' : ¬ (k : Int) ≤ 16 := by omega
    go_wp2
    go_ret
    exact qkz (show Hid (¬ k ≤ 16) from h16) hb (fun e => by have := (qFz.1 e).1; rw [hn.out] at this; exact this)
theorem wdz {l b : Lb} : jLz l b = true ↔ (qYz l = true ∧ qYz b = true ∧ leqB l b = true) := by unfold jLz; simp
theorem xCz {w0 w : World} {ao ao' : Option Addr} {n cap n' cap' : Nat} {L L' : Lb} (h : LabD (LtN w0) w0 ao n cap L) (h' : LabD (LtN w0) w0 ao' n' cap' L') (hk : Below w0.heap.size w0 w) : Asks 141 #[.slice ao n cap, .slice ao' n' cap'] (jLz L L' = true) w := by
 unfold Asks
 have hb0 := brz w.heap.size w
 go_enter func141, ntmps141
 go_wp2_with (first
  | (go_at_call 135; (with_reducible refine (kiz h hk).on ?_ ?_) <;> (intro w1 hq hk1; replace hk := btz hk hk1; replace hb0 := btz hb0 hk1))
  | (go_at_call 135; (with_reducible refine (kiz h' hk).on ?_ ?_) <;> (intro w2 hq2 hk2; replace hk := btz hk hk2; replace hb0 := btz hb0 hk2))
  | (go_at_call 121; (with_reducible refine (Asks.of (jwz (B := 0) (h.lab' hk) (h'.lab' hk))).on ?_ ?_) <;> (intro w3 hq3 hk3; replace hb0 := btz hb0 hk3)))
 all_goals go_ret
 ·exact qrz (wdz.2 ⟨hq.out, hq2.out, hq3.out⟩) hb0
 ·exact qkz hq3 hb0 (fun e => (wdz.1 e).2.2)
 ·exact qkz hq2 hb0 (fun e => (wdz.1 e).2.1)
 ·exact qkz hq hb0 (fun e => (wdz.1 e).1)
theorem kAz : ∀ {l : List Int}, risB l = true ↔ ∀ i, i + 1 < l.length → l.getD i 0 < l.getD (i + 1) 0 := by
 intro l
 unfold risB
 rw [decide_eq_true_iff]
 induction l with
 | nil => simp
 | cons x l ih =>
  rw [List.pairwise_cons, ih]
  constructor
  ·rintro ⟨h1, h2⟩ i hi
   cases i with
   | zero =>
    have hl : 0 < l.length := by simpa using hi
    have := h1 l[0] (List.getElem_mem hl)
    simpa [List.getD_eq_getElem?_getD, List.getElem?_eq_getElem hl] using this
   | succ i => exact h2 i (by simpa using hi)
  ·intro h
   have h2 : ∀ i, i + 1 < l.length → l.getD i 0 < l.getD (i + 1) 0 := fun i hi => h (i + 1) (by simpa using hi)
   refine ⟨fun y hy => ?_, h2⟩
   obtain ⟨j, hj, rfl⟩ := List.mem_iff_getElem.1 hy
   have h0 : x < l.getD 0 0 := h 0 (by simp; omega)
   have : ∀ j, j < l.length → x < l.getD j 0 := by
    intro j
    induction j with
    | zero => intro _; exact h0
    | succ j ihj => intro hj; exact Int.lt_trans (ihj (by omega)) (h2 j hj)
   have := this j hj
   simpa [List.getD_eq_getElem?_getD, List.getElem?_eq_getElem hj] using this
def allI (l : List Int) : Bool := l.all idB
theorem koz {l : List Int} : allI l = true ↔ ∀ i, i < l.length → idB (l.getD i 0) = true := by
 unfold allI
 rw [List.all_eq_true]
 constructor
 ·intro h i hi
  have := h l[i] (List.getElem_mem hi)
  simpa [List.getD_eq_getElem?_getD, List.getElem?_eq_getElem hi] using this
 ·intro h p hp
  obtain ⟨i, hi, e⟩ := List.mem_iff_getElem.1 hp
  have := h i hi
  simpa [List.getD_eq_getElem?_getD, List.getElem?_eq_getElem hi, e] using this
theorem wzz {p : Nat → Prop} {k : Nat} (h : ∀ i, i < k → p i) (hk : p k) : ∀ i, i < k + 1 → p i := fun i hi => by
 rcases Nat.lt_or_ge i k with h' | h'
 ·exact h i h'
 ·have : i = k := by omega
  rw [this]; exact hk
theorem uhz {w0 w : World} {L : List Int} (h0 : CtD (LtN w0) w0 ao n cap L) (hk0 : Below w0.heap.size w0 w) : Asks 137 #[.slice ao n cap, .func (.func 134) #[] #[]] (allI L = true) w := by
 have hL := h0.ct' hk0
 clear h0 hk0
 have hn : Hid (L.length = n) := hL.1
 have hnc := hL.2.1
 have hcm := hL.2.2.1.1
 unfold Asks
 go_enter func137, ntmps137
 go_wp2
 go_loopw [9] (fun i wr => ∃ k : Nat, k ≤ n ∧ i = .int .i64 k ∧ Hid (∀ j, j < k → idB (L.getD j 0) = true) ∧ Below w.heap.size w wr) (fun i _ => n - (intOf i).toNat)
 case atStart => exact ⟨0, Nat.zero_le _, rfl, fun j hj => absurd hj (by omega), brz _ _⟩
 case round =>
  obtain ⟨k, hk, rfl, hal, hb⟩ := hrel
  have hbs := hb.size
  by_cases hkn : k < n
  ·obtain ⟨b, off, x, rfl, hB, hx, d0⟩ := (hL.laterK fun b hb' => hb.block b hb').at hkn
   have hkn' : (k : Int) < n := by omega
   go_wp2_with (go_at_call 134; (with_reducible refine (yyz x _).on ?_ ?_) <;> intro w1 hq hk1)
   ·go_roundw
    case rel => exact ⟨k + 1, by omega, by go_num, wzz hal.out (by rw [hx.out]; exact hq.out), hb.trans (hk1.mono hbs)⟩
    case measure => simp [intOf]; omega
   ·go_ret
    exact qkz hq (hb.trans (hk1.mono hbs)) (fun e => by have := koz.1 e k (by rw [hn.out]; exact hkn); rw [hx.out] at this; exact this)
  ·obtain rfl : k = n := by omega
   go_wp2
   go_ret
   exact qrz (koz.2 fun i hi => hal.out i (by rw [hn.out] at hi; exact hi)) hb
theorem ukz {b o : Nat} {R : Nat → Lb} (h : Four w b o R) : Asks 166 #[.slice (some ⟨b, o, none⟩) 4 4, .func (.func 135) #[] #[]] (∀ i, i < 4 → qYz (R i) = true) w := by
 unfold Asks
 go_enter func166, ntmps166
 go_wp2
 go_loopw [9] (fun i wr => ∃ k : Nat, k ≤ 4 ∧ i = .int .i64 k ∧ Hid (∀ j, j < k → qYz (R j) = true) ∧ Below w.heap.size w wr) (fun i _ => 4 - (intOf i).toNat)
 case atStart => exact ⟨0, Nat.zero_le _, rfl, fun j hj => absurd hj (by omega), brz _ _⟩
 case round =>
  obtain ⟨k, hk, rfl, hal, hb⟩ := hrel
  have hbs := hb.size
  by_cases hkn : k < 4
  ·have hh := h.next hb
   obtain ⟨ai, ni, ci, q1, q2⟩ := hh.2 k hkn
   have hkn' : (k : Int) < 4 := by omega
   clear hh
   go_wp2_with (go_at_call 135; (with_reducible refine (kiz q2 (brz _ _)).on ?_ ?_) <;> intro w1 hq hk1)
   ·go_roundw
    case rel => exact ⟨k + 1, by omega, by go_num, wzz hal.out hq.out, hb.trans (hk1.mono hbs)⟩
    case measure => simp [intOf]; omega
   ·go_ret
    exact qkz hq (hb.trans (hk1.mono hbs)) (fun e => e k hkn)
  ·obtain rfl : k = 4 := by omega
   go_wp2
   go_ret
   exact qrz hal.out hb
theorem k6z (n : Int) (w : World) : Calls prog 162 #[.int .u64 n] w fun e w' => e = .returned (.int .u64 n) ∧ w' = w := by
 go_enter func162, ntmps162
 go_wp2
 go_ret
 exact ⟨rfl, rfl⟩
theorem glz {C : Array Value} {x : Ob} (h : ObD (LtN w) w C x) (c5 : C[5]? = some (.slice ao n cap)) :
  Calls prog 138 #[.agg C] w fun e w' => e = .returned (.agg #[.slice ao n cap, .func (.func 162) #[] #[]]) ∧ Below w.heap.size w w' := by
 go_enter func138, ntmps138
 go_wp2_with (first
  | (with_reducible refine qcz rfl _ _ rfl C rfl ?_; intro B W hB hb hk; have q6 := fun o => cellLater ((hb.cell 5).trans c5) o))
 refine bodyPost_ret (v := .agg #[.slice ao n cap, .func (.func 162) #[] #[]]) (by simp [results, Tryz.f138, go_sem]) rfl ?_
 exact ⟨rfl, hk.alloc hk.size _⟩
theorem y1z {L : List Int} (hL : CtD (LtN w) w ao n cap L) : Asks 139 #[.agg #[.slice ao n cap, .func (.func 162) #[] #[]]] (risB L = true) w := by
 have hn : Hid (L.length = n) := hL.1
 have hnc := hL.2.1
 have hcm := hL.2.2.1.1
 unfold Asks
 go_enter func139, ntmps139
 go_wp2
 have hA := (brz w.heap.size w).alloc (lrz _) (.cells #[.slice ao n cap, .func (.func 162) #[] #[]] 158)
 have hBk := Blk.new w #[.slice ao n cap, .func (.func 162) #[] #[]] 158
 generalize w.alloc (.cells #[.slice ao n cap, .func (.func 162) #[] #[]] 158) = W0 at hA hBk ⊢
 obtain ⟨B, hB⟩ : ∃ B, w.heap.size = B := ⟨_, rfl⟩
 have hBh : Hid (w.heap.size = B) := hB
 rw [hB] at hBk hA ⊢
 clear hB
 go_loopw [3] (fun i wr => ∃ k : Nat, 1 ≤ k ∧ (k ≤ n ∨ k = 1) ∧ i = .int .i64 k ∧ Hid (∀ j, j + 1 < k → L.getD j 0 < L.getD (j + 1) 0) ∧ Blk wr B #[.slice ao n cap, .func (.func 162) #[] #[]] 158 ∧ Below B w wr) (fun i _ => n - (intOf i).toNat)
 case atStart => exact ⟨1, lrz _, .inr rfl, rfl, fun j hj => absurd hj (by omega), hBk, hA⟩
 case round =>
  obtain ⟨k, hk1, hkn1, rfl, hal, hbk, hb⟩ := hrel
  have e0 := (hbk.cell 0).trans (show _ = some (.slice ao n cap) from rfl)
  have e1 := (hbk.cell 1).trans (show _ = some (.func (.func 162) #[] #[]) from rfl)
  by_cases hkn : k < n
  ·obtain ⟨j, hj⟩ : ∃ j, Hid (k = j + 1) := ⟨k - 1, by show _ = _; omega⟩
   have hw : IntKind.i64.wrap ((k : Int) - 1) = (j : Int) := by have := hj.out; rw [IntKind.wrap_i64]; omega
   have hjn : j < n := by have := hj.out; omega
   have hjn' : (j : Int) < n := by omega
   have hkn' : (k : Int) < n := by omega
   have hLw := hL.laterK fun b hb' => hb.block b (by rw [← hBh.out]; exact hb')
   obtain ⟨b, off, x, rfl, hbb, hx, d0⟩ := hLw.at hjn
   obtain ⟨b', off', y, e', hbb', hy, d1⟩ := hLw.at hkn
   cases e'
   clear hLw
   by_cases hxy : x < y
   ·have hal2 : Hid (∀ i, i + 1 < k + 1 → L.getD i 0 < L.getD (i + 1) 0) := by
     refine (?_ : ∀ i, i + 1 < k + 1 → L.getD i 0 < L.getD (i + 1) 0)
     intro i hi
     rcases Nat.lt_or_ge (i + 1) k with h | h
     ·exact hal.out i h
     ·have hij : i = j := by have := hj.out; omega
      rw [hij, hx.out, ← hj.out, hy.out]; exact hxy
    have hd : ¬ (y ≤ x) := by omega
    have hd' : decide (y ≤ x) = false := decide_eq_false hd
    go_wp2
    go_quiet (first | (go_at_call 162; refine Calls.quiet_of_same (k6z _ _)))
    go_wp2
    go_roundw
    case rel => exact ⟨k + 1, by omega, .inl (by omega), by go_num, hal2, hbk.next (PgM.below_drewN (brz _ _) _), PgM.below_drewN hb _⟩
    case measure => simp [intOf]; omega
   ·have hq : Hid (¬ risB L = true) := by
     refine (?_ : ¬ risB L = true)
     intro e
     have := kAz.1 e j (by rw [hn.out, ← hj.out]; exact hkn)
     rw [hx.out, ← hj.out, hy.out] at this
     exact hxy this
    have hd : y ≤ x := by omega
    have hd' : decide (y ≤ x) = true := decide_eq_true hd
    go_wp2
    go_quiet (first | (go_at_call 162; refine Calls.quiet_of_same (k6z _ _)))
    go_wp2
    go_ret
    exact qkz hq (by rw [hBh.out]; exact PgM.below_drewN hb _) id
  ·have hkn' : ¬ (k : Int) < n := by omega
   go_wp2
   go_ret
   exact qrz (kAz.2 fun i hi => hal.out i (by rw [hn.out] at hi; omega)) (by rw [hBh.out]; exact hb)
section
variable {w : World}
theorem wuz (t : TypeId) (x y : Operand) (k : IntKind) (m n : Int) : ∃ b : Bool, (do eqGuard .geq t x y (.int k m) (.int k n); binOp .geq t (.int k m) (.int k n)).run prog w = .ok (.bool b) w ∧ (b = true ↔ n ≤ m) :=
 ⟨decide (n ≤ m), by simp [eqGuard, binOp, Op.intCmp], by simp⟩
theorem wfz (t : TypeId) (x y : Operand) (k : IntKind) (m n : Int) : ∃ b : Bool, (do eqGuard .leq t x y (.int k m) (.int k n); binOp .leq t (.int k m) (.int k n)).run prog w = .ok (.bool b) w ∧ (b = true ↔ m ≤ n) :=
 ⟨decide (m ≤ n), by simp [eqGuard, binOp, Op.intCmp], by simp⟩
theorem wez (t : TypeId) (x y : Operand) (k : IntKind) (m n : Int) : ∃ b : Bool, (do eqGuard .lss t x y (.int k m) (.int k n); binOp .lss t (.int k m) (.int k n)).run prog w = .ok (.bool b) w ∧ (b = true ↔ m < n) :=
 ⟨decide (m < n), by simp [eqGuard, binOp, Op.intCmp], by simp⟩
theorem qxz (t : TypeId) (x y : Operand) (k : IntKind) (m n : Int) : ∃ b : Bool, (do eqGuard .gtr t x y (.int k m) (.int k n); binOp .gtr t (.int k m) (.int k n)).run prog w = .ok (.bool b) w ∧ (b = true ↔ n < m) :=
 ⟨decide (n < m), by simp [eqGuard, binOp, Op.intCmp], by simp⟩
end
theorem wgz {t : Th} : thrB t = true ↔ ((∀ i, i < 4 → qYz (labs t i) = true) ∧ 0 ≤ t.state ∧ t.state ≤ 2 ∧ t.alerts.length ≤ 8 ∧ jjz t.lo t.hi = true ∧ (t.state = 1 ∨ (t.wc = 0 ∧ t.wi = 0 ∧ t.wx = 0 ∧ t.wv = 0 ∧ t.wd = false))) := by
 have e : (∀ i, i < 4 → qYz (labs t i) = true) ↔ (qYz t.l0 = true ∧ qYz t.l1 = true ∧ qYz t.l2 = true ∧ qYz t.l3 = true) :=
  ⟨fun h => ⟨h 0 (by omega), h 1 (by omega), h 2 (by omega), h 3 (by omega)⟩, fun h i hi => by
   rcases i with _ | _ | _ | _ | i
   ·exact h.1
   ·exact h.2.1
   ·exact h.2.2.1
   ·exact h.2.2.2
   ·omega⟩
 rw [e]
 unfold thrB waitB spanB jjz
 simp
 constructor
 ·rintro ⟨h1, h2, h3, h4, h5⟩; exact ⟨⟨h1, h2, h3, h4⟩, h5⟩
 ·rintro ⟨⟨h1, h2, h3, h4⟩, h5⟩; exact ⟨h1, h2, h3, h4, h5⟩
theorem xaz {w : World} {T : Array Value} {t : Th} (h : ThD (LtN w) w T t) : Asks 142 #[.agg T] (thrB t = true) w := by
 have hz := h.size
 obtain ⟨a17, n17, k17, c17, l17⟩ := h.f.clear
 obtain ⟨a28, n28, k28, c28, l28⟩ := h.f.alerts
 have hn28 : Hid (t.alerts.length = n28) := l28.1
 have x29 := ext2 h.f.lo h.f.hi
 have x23 := ext5 h.f.wc h.f.wi h.f.wx h.f.wv h.f.wd
 have c22 := h.f.state
 have ga0 := isAgg27
 have ga1 := isAgg22
 have ga2 := isAgg3
 have ga3 := isAgg4
 have ga4 := isAgg28
 have ga5 := isAgg29
 unfold Asks
 go_enter func142, ntmps142
 go_wp2_with (first
  | go_skip
  | (with_reducible refine qcz rfl _ _ rfl T rfl ?_; intro B W hB hb hk)
  | (with_reducible refine qaz (by kernel_rfl) _ _ rfl B _ rfl _ _ hb _ (by assumption) (by assumption) ?_)
  | (with_reducible refine qpz (by kernel_rfl) 36 _ rfl B _ rfl 2 _ _ hb _ (by assumption) (by omega) _ underlying36 (by kernel_rfl) kZz ?_)
  | (with_reducible refine qpz (by kernel_rfl) 34 _ rfl B _ rfl 5 _ _ hb _ (by assumption) (by omega) _ underlying34 (by kernel_rfl) k0z ?_)
  | ((with_reducible refine qgz (by kernel_rfl) .geq _ _ _ _ rfl _ _ rfl rfl (wuz _ _ _ _ _ _) ?_ ?_) <;> intro hq)
  | ((with_reducible refine qgz (by kernel_rfl) .leq _ _ _ _ rfl _ _ rfl rfl (wfz _ _ _ _ _ _) ?_ ?_) <;> intro hq)
  | ((with_reducible refine qgz (by kernel_rfl) .eql _ _ _ _ rfl _ _ rfl rfl (quz _ _ _ _ _ _) ?_ ?_) <;> intro hq)
  | ((with_reducible refine qgz (by kernel_rfl) .eql _ _ _ _ rfl _ _ rfl rfl (knz _ _ _ _ _ _ _ _ _ _ _ _) ?_ ?_) <;> intro hq)
  | (go_at_call 166; (with_reducible refine (ukz (ThD.four (h.next hk) hb)).on ?_ ?_) <;> (intro w1 hq hb1; replace hb := hb.next hb1; replace hk := btz hk hb1; clear hb1))
  | (go_at_call 167; (with_reducible refine (span_any t.lo t.hi _).on ?_ ?_) <;> (intro w1 hq hb1; replace hb := hb.next hb1; replace hk := btz hk hb1; clear hb1)))
 all_goals go_ret
 all_goals first
  | (refine qrz (wgz.2 ⟨Hid.out (by assumption), Hid.out (by assumption), Hid.out (by assumption), ?_, Hid.out (by assumption), .inl (Hid.out (by assumption))⟩) hk; (have hl : (n28 : Int) ≤ 8 := Hid.out (by assumption)); rw [hn28.out]; omega)
  | (refine qrz (wgz.2 ⟨Hid.out (by assumption), Hid.out (by assumption), Hid.out (by assumption), ?_, Hid.out (by assumption), .inr (Hid.out (by assumption))⟩) hk; (have hl : (n28 : Int) ≤ 8 := Hid.out (by assumption)); rw [hn28.out]; omega)
  | (refine qkz (Y := (t.wc = 0 ∧ t.wi = 0 ∧ t.wx = 0 ∧ t.wv = 0 ∧ t.wd = false)) (by assumption) hk (fun e => ?_); exact (wgz.1 e).2.2.2.2.2.resolve_left (Hid.out (by assumption)))
  | (refine qkz (Y := jjz t.lo t.hi = true) (by assumption) hk (fun e => ?_); exact (wgz.1 e).2.2.2.2.1)
  | (have hl : 8 < (n28 : Int) := Hid.out (by assumption); refine ⟨false, rfl, ⟨fun e => absurd e Bool.false_ne_true, fun e => ?_⟩, hk⟩; exfalso; have := (wgz.1 e).2.2.2.1; rw [hn28.out] at this; omega)
  | (have hl : 2 < t.state := Hid.out (by assumption); refine ⟨false, rfl, ⟨fun e => absurd e Bool.false_ne_true, fun e => ?_⟩, hk⟩; exfalso; have := (wgz.1 e).2.2.1; omega)
  | (have hl : t.state < 0 := Hid.out (by assumption); refine ⟨false, rfl, ⟨fun e => absurd e Bool.false_ne_true, fun e => ?_⟩, hk⟩; exfalso; have := (wgz.1 e).2.1; omega)
  | (refine qkz (Y := ∀ i, i < 4 → qYz (labs t i) = true) (by assumption) hk (fun e => ?_); exact (wgz.1 e).1)
  | fail
theorem kxz {w : World} {T : Array Value} {t : Th} {ao : Option Addr} {n cap : Nat} {l : Lb} (hl : LabD (LtN w) w ao n cap l) (h : ThD (LtN w) w T t) : Asks 28 #[.slice ao n cap, .agg T] (qYz t.clear = true ∧ w2z l t.clear = true ∧ thrB t = true) w := by
 have hz := h.size
 obtain ⟨a17, n17, k17, c17, l17⟩ := h.f.clear
 obtain ⟨a28, n28, k28, c28, l28⟩ := h.f.alerts
 have hn28 : Hid (t.alerts.length = n28) := l28.1
 have x29 := ext2 h.f.lo h.f.hi
 have x23 := ext5 h.f.wc h.f.wi h.f.wx h.f.wv h.f.wd
 have c22 := h.f.state
 have ga0 := isAgg27
 have ga1 := isAgg22
 have ga2 := isAgg3
 have ga3 := isAgg4
 have ga4 := isAgg28
 have ga5 := isAgg29
 unfold Asks
 go_enter func28, ntmps28
 go_wp2_with (first
  | go_skip
  | (with_reducible refine qcz rfl _ _ rfl T rfl ?_; intro B W hB hb hk))
 have hf := ThD.four (h.next hk) hb
 go_loopw [5] (fun i wr => ∃ k : Nat, k ≤ 4 ∧ i = .int .i64 k ∧ Hid (∀ j, j < k → qYz (labs t j) = true) ∧ Below W.heap.size W wr) (fun i _ => 4 - (intOf i).toNat)
 case atStart => exact ⟨0, Nat.zero_le _, rfl, fun j hj => absurd hj (by omega), brz _ _⟩
 case round =>
  obtain ⟨k, hk4, rfl, hal, hbw⟩ := hrel
  by_cases hkn : k < 4
  ·obtain ⟨ai, ni, ci, d1, q2⟩ := (hf.next hbw).2 k hkn
   have hkn' : (k : Int) < 4 := by omega
   clear hf
   go_wp2_with (go_at_call 23; (with_reducible refine (xcz q2 (brz _ _)).on ?_ ?_) <;> intro w1 hq hb1)
   ·go_roundw
    case rel => exact ⟨k + 1, by omega, by go_num, wzz hal.out hq.out, btz hbw hb1⟩
    case measure => simp [intOf]; omega
   ·go_ret
    exact qkz hq (hk.trans ((btz hbw hb1).mono hk.size)) (fun e => (wgz.1 e.2.2).1 k hkn)
  ·obtain rfl : k = 4 := by omega
   replace hb := hb.next hbw
   replace hk := btz hk hbw
   clear hf hbw
   simp only [show ((4 : Nat) : Int) = 4 from rfl]
   go_wp2_with (first
     | go_skip
     | (with_reducible refine qaz (by kernel_rfl) _ _ rfl B _ rfl _ _ hb _ (by assumption) (by assumption) ?_)
     | (with_reducible refine qpz (by kernel_rfl) 34 _ rfl B _ rfl 5 _ _ hb _ (by assumption) (by omega) _ underlying34 (by kernel_rfl) k0z ?_)
     | ((with_reducible refine qgz (by kernel_rfl) .neq _ _ _ _ rfl _ _ rfl rfl (q2z _ _ _ _ _ _) ?_ ?_) <;> intro hq)
     | ((with_reducible refine qgz (by kernel_rfl) .neq _ _ _ _ rfl _ _ rfl rfl (neg_wait _ _ _ _ _ _ _ _ _ _ _ _) ?_ ?_) <;> intro hq)
     | (with_reducible refine qpz (by kernel_rfl) 36 _ rfl B _ rfl 2 _ _ hb _ (by assumption) (by omega) _ underlying36 (by kernel_rfl) kZz ?_)
     | ((with_reducible refine qgz (by kernel_rfl) .geq _ _ _ _ rfl _ _ rfl rfl (wuz _ _ _ _ _ _) ?_ ?_) <;> intro hq)
     | ((with_reducible refine qgz (by kernel_rfl) .leq _ _ _ _ rfl _ _ rfl rfl (wfz _ _ _ _ _ _) ?_ ?_) <;> intro hq)
     | (go_at_call 23; (with_reducible refine (xcz l17 hk).on ?_ ?_) <;> (intro w1 hq hb1; replace hb := hb.next hb1; replace hk := btz hk hb1; clear hb1))
     | (go_at_call 29; (with_reducible refine (Asks.of (kzz (hl.lab' hk) (l17.lab' hk))).on ?_ ?_) <;> (intro w1 hq hb1; replace hb := hb.next hb1; replace hk := btz hk hb1; clear hb1))
     | (go_at_call 54; (with_reducible refine (uQz t.lo t.hi _).on ?_ ?_) <;> (intro w1 hq hb1; replace hb := hb.next hb1; replace hk := btz hk hb1; clear hb1)))
   all_goals (first | go_ret | skip)
   all_goals first
     | (refine qkz (Y := (t.wc = 0 ∧ t.wi = 0 ∧ t.wx = 0 ∧ t.wv = 0 ∧ t.wd = false)) (by assumption) hk (fun e => ?_); exact (wgz.1 e.2.2).2.2.2.2.2.resolve_left (Hid.out (by assumption)))
     | (refine qrz ⟨Hid.out (by assumption), Hid.out (by assumption), wgz.2 ⟨Hid.out (by assumption), Hid.out (by assumption), Hid.out (by assumption), ?_, Hid.out (by assumption), .inl (Classical.not_not.1 (Hid.out (by assumption)))⟩⟩ hk; (have hl : (n28 : Int) ≤ 8 := Hid.out (by assumption)); rw [hn28.out]; omega)
     | (refine qrz ⟨Hid.out (by assumption), Hid.out (by assumption), wgz.2 ⟨Hid.out (by assumption), Hid.out (by assumption), Hid.out (by assumption), ?_, Hid.out (by assumption), .inr (Classical.not_not.1 (Hid.out (by assumption)))⟩⟩ hk; (have hl : (n28 : Int) ≤ 8 := Hid.out (by assumption)); rw [hn28.out]; omega)
     | (refine qkz (Y := jjz t.lo t.hi = true) (by assumption) hk (fun e => ?_); exact (wgz.1 e.2.2).2.2.2.2.1)
     | (have hl : 8 < (n28 : Int) := Hid.out (by assumption); refine ⟨false, rfl, ⟨fun e => absurd e Bool.false_ne_true, fun e => ?_⟩, hk⟩; exfalso; have := (wgz.1 e.2.2).2.2.2.1; rw [hn28.out] at this; omega)
     | (have hl : 2 < t.state := Hid.out (by assumption); refine ⟨false, rfl, ⟨fun e => absurd e Bool.false_ne_true, fun e => ?_⟩, hk⟩; exfalso; have := (wgz.1 e.2.2).2.2.1; omega)
     | (have hl : t.state < 0 := Hid.out (by assumption); refine ⟨false, rfl, ⟨fun e => absurd e Bool.false_ne_true, fun e => ?_⟩, hk⟩; exfalso; have := (wgz.1 e.2.2).2.1; omega)
     | (refine qkz (Y := w2z l t.clear = true) (by assumption) hk (fun e => ?_); exact e.2.1)
     | (refine qkz (Y := qYz t.clear = true) (by assumption) hk (fun e => ?_); exact e.1)
     | fail
section
variable {P : Program} {ops : Array Oper} {rest : List Oper} {op : Oper} {a : Act} {Q : Exit → Act → World → Prop} {w : World}
theorem qdz (hw : Region.wanted op (yielded ops a.tmps) = true) (ty : TypeId) (x : Operand) (ho : op.op = .load ty x) (B : Nat) (hx : a.eval x = .pointer (some ⟨B, 0, none⟩)) (C : Array Value) (hB : Blk w B C ty) (d : TypeDesc)
  (hu : P.underlying ty = some d) (hd : d.isRow = true) (hi : (P.info? ty).map (·.size) = some C.size) (h : wpList P ops Q rest (a.put op.dst (.agg C)) w) : wpList P ops Q (op :: rest) a w := by
 refine q9z hw ?_ h
 have := qyz (S := fun W => W = w) (P := P) (fun _ e => by rw [e]; exact hB) hu hd hi w rfl
 unfold execOp
 simp [ho, hx, Instr.loadAt, Instr.sureAddr, this]
end
variable {x : Ob}
theorem qSz : comB x = true ↔ (idB x.id = true ∧ 1 ≤ x.quota ∧ x.quota ≤ 4096 ∧ qYz x.label = true ∧ (x.kind = 4 ∨ w3z x.label = [])) := by unfold comB; simp
theorem gaz {w0 w : World} {ao : Option Addr} {n cap : Nat} {L : Lb} (h : LabD (LtN w0) w0 ao n cap L) (hk : Below w0.heap.size w0 w) (hn : n < 274877906944) : Calls prog 136 #[.slice ao n cap] w fun e w' => ∃ ao1 cap1, e = .returned (.slice ao1 (w3z L).length cap1) ∧ Below w.heap.size w w' := by
 refine (gbz (h.lab' hk) hn).mono ?_
 rintro e w' ⟨ao1, n1, cap1, rfl, hc, hb⟩
 have e1 := hc.1
 subst e1
 exact ⟨ao1, cap1, rfl, hb⟩
theorem gpz {L : Lb} : ((w3z L).length : Int) = 0 ↔ w3z L = [] := by
 constructor
 ·intro h; exact List.eq_nil_of_length_eq_zero (by omega)
 ·intro h; rw [h]; rfl
theorem kuz {w : World} {C : Array Value} (h : ObD (LtN w) w C x) : Asks 110 #[.agg C] (comB x = true) w := by
 have hz := h.size
 have c0 := h.id
 have c1 := h.kind
 obtain ⟨a2, n2, k2, c2, l2⟩ := h.label
 have hn2 : Hid (x.label.length = n2) := l2.1
 have c3 := h.quota
 have c4 := h.fixed
 obtain ⟨a5, n5, k5, c5, l5⟩ := h.links
 have hn5 : Hid (x.links.length = n5) := l5.1
 obtain ⟨a6, n6, k6, c6, l6⟩ := h.data
 have hn6 : Hid (x.data.length = n6) := l6.1
 obtain ⟨a7, n7, k7, c7, l7⟩ := h.maps
 have hn7 : Hid (x.maps.length = n7) := l7.1
 obtain ⟨a49, n49, k49, c49, l49⟩ := h.inn
 have hn49 : Hid (x.inn.length = n49) := l49.1
 obtain ⟨a50, n50, k50, c50, l50⟩ := h.out
 have hn50 : Hid (x.out.length = n50) := l50.1
 obtain ⟨a25, n25, k25, c25, l25⟩ := h.th.clear
 obtain ⟨a43, n43, k43, c43, l43⟩ := h.gt.grant
 obtain ⟨a44, n44, k44, c44, l44⟩ := h.gt.clear
 replace c25 : C[25]? = some (.slice a25 n25 k25) := c25
 replace c43 : C[43]? = some (.slice a43 n43 k43) := c43
 replace c44 : C[44]? = some (.slice a44 n44 k44) := c44
 have ga0 := isAgg27
 have ga1 := isAgg22
 have ga2 := isAgg3
 have ga3 := isAgg4
 have ga4 := isAgg28
 have ga5 := isAgg29
 have hkl : ∀ (_ : qYz x.label = true), n2 < 274877906944 := fun e => by
  have := (qFz.1 e).1
  rw [hn2.out] at this; omega
 unfold Asks
 go_enter func110, ntmps110
 go_wp2_with (first
  | go_skip
  | (with_reducible refine qcz rfl _ _ rfl C rfl ?_; intro B W hB hb hk)
  | (with_reducible refine qaz (by kernel_rfl) _ _ rfl B _ rfl _ _ hb _ (by assumption) (by assumption) ?_)
  | ((with_reducible refine qgz (by kernel_rfl) .geq _ _ _ _ rfl _ _ rfl rfl (wuz _ _ _ _ _ _) ?_ ?_) <;> intro hq)
  | ((with_reducible refine qgz (by kernel_rfl) .leq _ _ _ _ rfl _ _ rfl rfl (wfz _ _ _ _ _ _) ?_ ?_) <;> intro hq)
  | ((with_reducible refine qgz (by kernel_rfl) .eql _ _ _ _ rfl _ _ rfl rfl (quz _ _ _ _ _ _) ?_ ?_) <;> intro hq)
  | (go_at_call 134; (with_reducible refine (yyz x.id _).on ?_ ?_) <;> (intro w1 hq hb1; replace hb := hb.next hb1; replace hk := btz hk hb1; clear hb1))
  | (go_at_call 135; (with_reducible refine (kiz l2 hk).on ?_ ?_) <;> (intro w1 hq hb1; replace hb := hb.next hb1; replace hk := btz hk hb1; clear hb1))
  | (go_at_call 136; (with_reducible refine (gaz l2 hk ?hn).mono ?_); (case hn => exact hkl (Hid.out (by assumption))); rintro e w1 ⟨ao1, cap1, rfl, hb1⟩; replace hb := hb.next hb1; replace hk := btz hk hb1; clear hb1))
 all_goals go_ret
 all_goals first
  | (exact qrz (qSz.2 ⟨Hid.out (by assumption), Hid.out (by assumption), Hid.out (by assumption), Hid.out (by assumption), .inl (Hid.out (by assumption))⟩) hk)
  | (exact qrz (qSz.2 ⟨Hid.out (by assumption), Hid.out (by assumption), Hid.out (by assumption), Hid.out (by assumption), .inr (gpz.1 (Hid.out (by assumption)))⟩) hk)
  | (refine qkz (Y := ((w3z x.label).length : Int) = 0) (by assumption) hk (fun e => ?_); exact gpz.2 ((qSz.1 e).2.2.2.2.resolve_left (Hid.out (by assumption))))
  | (refine qkz (Y := qYz x.label = true) (by assumption) hk (fun e => ?_); exact (qSz.1 e).2.2.2.1)
  | (have hl : 4096 < x.quota := Hid.out (by assumption); refine ⟨false, rfl, ⟨fun e => absurd e Bool.false_ne_true, fun e => ?_⟩, hk⟩; exfalso; have := (qSz.1 e).2.2.1; omega)
  | (have hl : x.quota < 1 := Hid.out (by assumption); refine ⟨false, rfl, ⟨fun e => absurd e Bool.false_ne_true, fun e => ?_⟩, hk⟩; exfalso; have := (qSz.1 e).2.1; omega)
  | (refine qkz (Y := idB x.id = true) (by assumption) hk (fun e => ?_); exact (qSz.1 e).1)
  | fail
theorem own1 (h : x.kind = 1) : ownB x = true ↔ ((x.data.length : Int) ≤ 16 * (x.quota - 1)) := by unfold ownB; rw [if_pos h]; try simp
theorem own2 (h : x.kind = 2) : ownB x = true ↔ (x.links.length ≤ 64 ∧ allI x.links = true ∧ risB x.links = true) := by unfold ownB; rw [if_neg (by omega), if_pos h]; try simp [allI]
theorem own3 (h : x.kind = 3) : ownB x = true ↔ (PgM.Pg.fitB x.maps = true) := by unfold ownB; rw [if_neg (by omega), if_neg (by omega), if_pos h]; try simp [allI]
theorem own4 (h : x.kind = 4) : ownB x = true ↔ (x.fixed = false ∧ jLz x.label x.th.clear = true ∧ thrB x.th = true) := by unfold ownB; rw [if_neg (by omega), if_neg (by omega), if_neg (by omega), if_pos h]; try simp
theorem own5 (h : x.kind = 5) : ownB x = true ↔ (jLz x.gt.grant x.gt.clear = true) := by unfold ownB; rw [if_neg (by omega), if_neg (by omega), if_neg (by omega), if_neg (by omega), if_pos h]; try simp [allI]
theorem own6 (h : x.kind = 6) : ownB x = true ↔ (x.inn.length ≤ 64 ∧ x.out.length ≤ 1024) := by unfold ownB; rw [if_neg (by omega), if_neg (by omega), if_neg (by omega), if_neg (by omega), if_neg (by omega), if_pos h]; try simp
theorem own7 (h : ¬ (1 ≤ x.kind ∧ x.kind ≤ 6)) : ownB x = true ↔ False := by unfold ownB; rw [if_neg (by omega), if_neg (by omega), if_neg (by omega), if_neg (by omega), if_neg (by omega), if_neg (by omega)]; simp
theorem j0z {w : World} {C : Array Value} (h : ObD (LtN w) w C x) (hq1 : 1 ≤ x.quota) (hq2 : x.quota ≤ 4096) : Asks 111 #[.agg C] (ownB x = true) w := by
 have hz := h.size
 have c0 := h.id
 have c1 := h.kind
 obtain ⟨a2, n2, k2, c2, l2⟩ := h.label
 have hn2 : Hid (x.label.length = n2) := l2.1
 have c3 := h.quota
 have c4 := h.fixed
 obtain ⟨a5, n5, k5, c5, l5⟩ := h.links
 have hn5 : Hid (x.links.length = n5) := l5.1
 obtain ⟨a6, n6, k6, c6, l6⟩ := h.data
 have hn6 : Hid (x.data.length = n6) := l6.1
 obtain ⟨a7, n7, k7, c7, l7⟩ := h.maps
 have hn7 : Hid (x.maps.length = n7) := l7.1
 obtain ⟨a49, n49, k49, c49, l49⟩ := h.inn
 have hn49 : Hid (x.inn.length = n49) := l49.1
 obtain ⟨a50, n50, k50, c50, l50⟩ := h.out
 have hn50 : Hid (x.out.length = n50) := l50.1
 obtain ⟨a25, n25, k25, c25, l25⟩ := h.th.clear
 obtain ⟨a43, n43, k43, c43, l43⟩ := h.gt.grant
 obtain ⟨a44, n44, k44, c44, l44⟩ := h.gt.clear
 replace c25 : C[25]? = some (.slice a25 n25 k25) := c25
 replace c43 : C[43]? = some (.slice a43 n43 k43) := c43
 replace c44 : C[44]? = some (.slice a44 n44 k44) := c44
 have ga0 := isAgg27
 have ga1 := isAgg22
 have ga2 := isAgg3
 have ga3 := isAgg4
 have ga4 := isAgg28
 have ga5 := isAgg29
 have hw1 : IntKind.i64.wrap (x.quota - 1) = x.quota - 1 := by rw [IntKind.wrap_i64]; omega
 have hw2 : IntKind.i64.wrap (16 * (x.quota - 1)) = 16 * (x.quota - 1) := by rw [IntKind.wrap_i64]; omega
 unfold Asks
 by_cases h1 : x.kind = 1
 ·replace c1 : C[1]? = some (.int .i64 1) := c1.trans (by rw [h1])
  rw [own1 h1]
  clear h1
  go_enter func111, ntmps111
  go_wp2_with (first
   | go_skip
   | (with_reducible refine qcz rfl _ _ rfl C rfl ?_; intro B W hB hb hk)
   | (with_reducible refine qaz (by kernel_rfl) _ _ rfl B _ rfl _ _ hb _ (by assumption) (by assumption) ?_)
   | ((with_reducible refine qgz (by kernel_rfl) .leq _ _ _ _ rfl _ _ rfl rfl (wfz _ _ _ _ _ _) ?_ ?_) <;> intro hq))
  all_goals go_ret
  all_goals first
   | (refine qrz ?_ hk; rw [hn6.out]; exact Hid.out (by assumption))
   | (have hl : 16 * (x.quota - 1) < (n6 : Int) := Hid.out (by assumption); refine ⟨false, rfl, ⟨fun e => absurd e Bool.false_ne_true, fun e => ?_⟩, hk⟩; exfalso; rw [hn6.out] at e; omega)
   | fail
 by_cases h2 : x.kind = 2
 ·replace c1 : C[1]? = some (.int .i64 2) := c1.trans (by rw [h2])
  rw [own2 h2]
  clear h1 h2
  go_enter func111, ntmps111
  go_wp2_with (first
   | go_skip
   | (with_reducible refine qcz rfl _ _ rfl C rfl ?_; intro B W hB hb hk)
   | (with_reducible refine qaz (by kernel_rfl) _ _ rfl B _ rfl _ _ hb _ (by assumption) (by assumption) ?_)
   | ((with_reducible refine qgz (by kernel_rfl) .leq _ _ _ _ rfl _ _ rfl rfl (wfz _ _ _ _ _ _) ?_ ?_) <;> intro hq)
   | (with_reducible refine qdz (by kernel_rfl) 43 _ rfl B rfl C hb _ underlying43 (by kernel_rfl) (qez hz) ?_)
   | (go_at_call 137; (with_reducible refine (uhz l5 hk).on ?_ ?_) <;> (intro w1 hq hb1; replace hb := hb.next hb1; replace hk := btz hk hb1; clear hb1))
   | (go_at_call 138; (with_reducible refine (glz (h.next hk) c5).mono ?_); rintro e w1 ⟨rfl, hb1⟩; replace hb := hb.next hb1; replace hk := btz hk hb1; clear hb1)
   | (go_at_call 139; (with_reducible refine (y1z (l5.ct' hk)).on ?_ ?_) <;> (intro w1 hq hb1; replace hb := hb.next hb1; replace hk := btz hk hb1; clear hb1)))
  all_goals go_ret
  all_goals first
   | (refine qrz ⟨?_, Hid.out (by assumption), Hid.out (by assumption)⟩ hk; (have hl : (n5 : Int) ≤ 64 := Hid.out (by assumption)); rw [hn5.out]; omega)
   | (refine qkz (Y := risB x.links = true) (by assumption) hk (fun e => e.2.2))
   | (refine qkz (Y := allI x.links = true) (by assumption) hk (fun e => e.2.1))
   | (have hl : 64 < (n5 : Int) := Hid.out (by assumption); refine ⟨false, rfl, ⟨fun e => absurd e Bool.false_ne_true, fun e => ?_⟩, hk⟩; exfalso; have := e.1; rw [hn5.out] at this; omega)
   | fail
 by_cases h3 : x.kind = 3
 ·replace c1 : C[1]? = some (.int .i64 3) := c1.trans (by rw [h3])
  rw [own3 h3]
  clear h1 h2 h3
  go_enter func111, ntmps111
  go_wp2_with (first
   | go_skip
   | (with_reducible refine qcz rfl _ _ rfl C rfl ?_; intro B W hB hb hk)
   | (with_reducible refine qaz (by kernel_rfl) _ _ rfl B _ rfl _ _ hb _ (by assumption) (by assumption) ?_)
   | (go_at_call 140; (with_reducible refine (Asks.of (PgM.fit_any (MpD.mp' l7 hk))).on ?_ ?_) <;> (intro w1 hq hb1; replace hb := hb.next hb1; replace hk := btz hk hb1; clear hb1)))
  all_goals go_ret
  all_goals first
   | (exact qrz (Hid.out (by assumption)) hk)
   | (exact qkz (by assumption) hk id)
   | fail
 by_cases h4 : x.kind = 4
 ·replace c1 : C[1]? = some (.int .i64 4) := c1.trans (by rw [h4])
  rw [own4 h4]
  clear h1 h2 h3 h4
  cases hfx : x.fixed with
  | false =>
   rw [hfx] at c4
   go_enter func111, ntmps111
   go_wp2_with (first
    | go_skip
    | (with_reducible refine qcz rfl _ _ rfl C rfl ?_; intro B W hB hb hk)
    | (with_reducible refine qaz (by kernel_rfl) _ _ rfl B _ rfl _ _ hb _ (by assumption) (by assumption) ?_)
    | (with_reducible refine qpz (by kernel_rfl) 39 _ rfl B _ rfl 35 _ _ hb _ rfl (by rw [hz]; omega) _ underlying39 (by kernel_rfl) xbz ?_)
    | (go_at_call 141; (with_reducible refine (xCz l2 l25 hk).on ?_ ?_) <;> (intro w1 hq hb1; replace hb := hb.next hb1; replace hk := btz hk hb1; clear hb1))
    | (go_at_call 142; (with_reducible refine (xaz (h.thd.next hk)).on ?_ ?_) <;> (intro w1 hq hb1; replace hb := hb.next hb1; replace hk := btz hk hb1; clear hb1)))
   all_goals go_ret
   all_goals first
    | (exact qrz ⟨trivial, Hid.out (by assumption), Hid.out (by assumption)⟩ hk)
    | (refine qkz (Y := thrB x.th = true) (by assumption) hk (fun e => e.2.2))
    | (refine qkz (Y := jLz x.label x.th.clear = true) (by assumption) hk (fun e => e.2.1))
    | (refine ⟨false, rfl, ⟨fun e => absurd e Bool.false_ne_true, fun e => ?_⟩, hk⟩; exfalso; cases e.1)
    | fail
  | true =>
   rw [hfx] at c4
   go_enter func111, ntmps111
   go_wp2_with (first
    | go_skip
    | (with_reducible refine qcz rfl _ _ rfl C rfl ?_; intro B W hB hb hk)
    | (with_reducible refine qaz (by kernel_rfl) _ _ rfl B _ rfl _ _ hb _ (by assumption) (by assumption) ?_)
    | (with_reducible refine qpz (by kernel_rfl) 39 _ rfl B _ rfl 35 _ _ hb _ rfl (by rw [hz]; omega) _ underlying39 (by kernel_rfl) xbz ?_)
    | (go_at_call 141; (with_reducible refine (xCz l2 l25 hk).on ?_ ?_) <;> (intro w1 hq hb1; replace hb := hb.next hb1; replace hk := btz hk hb1; clear hb1))
    | (go_at_call 142; (with_reducible refine (xaz (h.thd.next hk)).on ?_ ?_) <;> (intro w1 hq hb1; replace hb := hb.next hb1; replace hk := btz hk hb1; clear hb1)))
   all_goals go_ret
   all_goals first
    | (exact qrz ⟨trivial, Hid.out (by assumption), Hid.out (by assumption)⟩ hk)
    | (refine qkz (Y := thrB x.th = true) (by assumption) hk (fun e => e.2.2))
    | (refine qkz (Y := jLz x.label x.th.clear = true) (by assumption) hk (fun e => e.2.1))
    | (refine ⟨false, rfl, ⟨fun e => absurd e Bool.false_ne_true, fun e => ?_⟩, hk⟩; exfalso; cases e.1)
    | fail
 by_cases h5 : x.kind = 5
 ·replace c1 : C[1]? = some (.int .i64 5) := c1.trans (by rw [h5])
  rw [own5 h5]
  clear h1 h2 h3 h4 h5
  go_enter func111, ntmps111
  go_wp2_with (first
   | go_skip
   | (with_reducible refine qcz rfl _ _ rfl C rfl ?_; intro B W hB hb hk)
   | (with_reducible refine qaz (by kernel_rfl) _ _ rfl B _ rfl _ _ hb _ (by assumption) (by assumption) ?_)
   | (go_at_call 141; (with_reducible refine (xCz l43 l44 hk).on ?_ ?_) <;> (intro w1 hq hb1; replace hb := hb.next hb1; replace hk := btz hk hb1; clear hb1)))
  all_goals go_ret
  all_goals first
   | (exact qrz (Hid.out (by assumption)) hk)
   | (exact qkz (by assumption) hk id)
   | fail
 by_cases h6 : x.kind = 6
 ·replace c1 : C[1]? = some (.int .i64 6) := c1.trans (by rw [h6])
  rw [own6 h6]
  clear h1 h2 h3 h4 h5 h6
  go_enter func111, ntmps111
  go_wp2_with (first
   | go_skip
   | (with_reducible refine qcz rfl _ _ rfl C rfl ?_; intro B W hB hb hk)
   | (with_reducible refine qaz (by kernel_rfl) _ _ rfl B _ rfl _ _ hb _ (by assumption) (by assumption) ?_)
   | ((with_reducible refine qgz (by kernel_rfl) .leq _ _ _ _ rfl _ _ rfl rfl (wfz _ _ _ _ _ _) ?_ ?_) <;> intro hq))
  all_goals go_ret
  all_goals first
   | (have h1 : (n49 : Int) ≤ 64 := Hid.out (by assumption); have h2 : (n50 : Int) ≤ 1024 := Hid.out (by assumption); exact qrz ⟨by rw [hn49.out]; omega, by rw [hn50.out]; omega⟩ hk)
   | (have hl : 1024 < (n50 : Int) := Hid.out (by assumption); refine ⟨false, rfl, ⟨fun e => absurd e Bool.false_ne_true, fun e => ?_⟩, hk⟩; exfalso; have := e.2; rw [hn50.out] at this; omega)
   | (have hl : 64 < (n49 : Int) := Hid.out (by assumption); refine ⟨false, rfl, ⟨fun e => absurd e Bool.false_ne_true, fun e => ?_⟩, hk⟩; exfalso; have := e.1; rw [hn49.out] at this; omega)
   | fail
 ·rw [own7 (by omega)]
  have g1 : (x.kind == 1) = false := by rw [beq_eq_false_iff_ne]; exact h1
  have g2 : (x.kind == 2) = false := by rw [beq_eq_false_iff_ne]; exact h2
  have g3 : (x.kind == 3) = false := by rw [beq_eq_false_iff_ne]; exact h3
  have g4 : (x.kind == 4) = false := by rw [beq_eq_false_iff_ne]; exact h4
  have g5 : (x.kind == 5) = false := by rw [beq_eq_false_iff_ne]; exact h5
  have g6 : (x.kind == 6) = false := by rw [beq_eq_false_iff_ne]; exact h6
  clear h1 h2 h3 h4 h5 h6
  go_enter func111, ntmps111
  go_wp2_with (first
   | go_skip
   | (with_reducible refine qcz rfl _ _ rfl C rfl ?_; intro B W hB hb hk)
   | (with_reducible refine qaz (by kernel_rfl) _ _ rfl B _ rfl _ _ hb _ (by assumption) (by assumption) ?_))
  all_goals go_ret
  all_goals first
   | (refine ⟨false, rfl, ⟨fun e => absurd e Bool.false_ne_true, fun e => ?_⟩, hk⟩; exfalso; exact e)
   | fail
section
variable {ops : Array Oper} {Q : Exit → Act → World → Prop} {S : World → Prop} {w : World} {fuel m : Nat} {a : Act} {l : Array Bool}
theorem wSz {i : Nat} {f : FuncId} {vs : List Value} {d : Option Tmp} {R : Ending → World → Prop} {K : Act → World → Prop} (hi : (ops[i]?).bind (fun o => wXz ops o a) = some (f, vs, d))
  (hf : ∀ args w, (callFunc f args).run prog w = .ok (.enter f args) w) (hc : Calls prog f vs.toArray w R)
  (h : ∀ e w', R e w' → ∃ v, e = .returned v ∧ K (a.put d v) w') : wpOp prog ops Q i K a w := by
 cases ho : ops[i]? with
 | none => rw [ho] at hi; cases hi
 | some o =>
  rw [ho] at hi
  obtain ⟨h1, h2, h3⟩ := x3z (show wXz ops o a = _ from hi) hf w
  unfold wpOp
  simp only [ho, h1, if_true]
  left
  unfold Oper.wp
  rw [h3, Oper.upon_enter]
  refine hc.mono ?_
  intro e w' hR
  obtain ⟨v, rfl, h⟩ := h e w' hR
  rw [h2]
  exact h
theorem qnz {i : Nat} {f : FuncId} {vs : List Value} {d : Option Tmp} {R : Ending → World → Prop} (hm : m = fuel + 1) (hr : Region.ready .any ops l = [i]) (hi : (ops[i]?).bind (fun o => wXz ops o a) = some (f, vs, d))
  (hf : ∀ args w, (callFunc f args).run prog w = .ok (.enter f args) w) (hc : Calls prog f vs.toArray w R)
  (h : ∀ e w', R e w' → ∃ v, e = .returned v ∧ S w' ∧ wpAnyH prog .any ops Q S fuel (l.setIfInBounds i true) (a.put d v) w') : wpAnyH prog .any ops Q S m l a w := by
 subst hm
 refine wpAnyH_all hr (by simp) ?_
 intro j hj
 obtain rfl : j = i := by simpa using hj
 exact wSz hi hf hc h
theorem wNz {X : Prop} {i : Nat} {f : FuncId} {vs : List Value} {d : Option Tmp} (hm : m = fuel + 1) (hr : Region.ready .any ops l = [i]) (hi : (ops[i]?).bind (fun o => wXz ops o a) = some (f, vs, d))
  (hf : ∀ args w, (callFunc f args).run prog w = .ok (.enter f args) w) (hc : Asks f vs.toArray X w) (hS : ∀ w', Below w.heap.size w w' → S w')
  (h1 : ∀ w', Hid X → Below w.heap.size w w' → S w' → wpAnyH prog .any ops Q S fuel (l.setIfInBounds i true) (a.put d (.bool true)) w')
  (h0 : ∀ w', Hid (¬ X) → Below w.heap.size w w' → S w' → wpAnyH prog .any ops Q S fuel (l.setIfInBounds i true) (a.put d (.bool false)) w') : wpAnyH prog .any ops Q S m l a w := by
 refine qnz hm hr hi hf hc ?_
 rintro e w' ⟨b, rfl, hb, hk⟩
 refine ⟨_, rfl, hS w' hk, ?_⟩
 cases b with
 | true => exact h1 w' (hb.out.1 rfl) hk (hS w' hk)
 | false => exact h0 w' (fun x => absurd (hb.out.2 x) Bool.false_ne_true) hk (hS w' hk)
end
variable {x : Ob}
theorem qtz : qUz x = true ↔ (comB x = true ∧ ownB x = true ∧ witO x = comO x) := by unfold qUz; simp [uNz]
variable {w : World} {C : Array Value}
theorem uGz (h : ObD (LtN w) w C x) : Asks 89 #[.agg C] (qUz x = true) w := by
 have hmx : prog.follows .mixedOrders = true := by kernel_rfl
 have hz := h.size
 unfold Asks
 go_enter func89, ntmps89
 go_wp2_with (first
  | (with_reducible refine qcz rfl _ _ rfl C rfl ?_; intro B W hB hb hk))
 refine PgM.region_out (S := fun W => Blk W B C 43) hmx (hb.next (brz _ _).drew) (fun hS => ?_)
 replace hk := hk.trans ((brz _ W).drew.mono hk.size)
 generalize W.drew = W1 at hS hk ⊢
 clear hb hB
 have ld : ∀ (S : World → Prop), (∀ w, S w → Blk w B C 43) → Obl.holds prog S (.load 43 B 0 (.agg C)) := fun S hS => qyz hS underlying43 (by kernel_rfl) (qez hz)
 refine qvz (by kernel_rfl) (fun _ _ _ _ _ h => h) hS [(0, some (.agg C))] (obs := [.load 43 B 0 (.agg C)]) (n := 13) (by kernel_rfl) (by kernel_rfl) ⟨ld _ (fun _ h => h), trivial⟩ ?_
 refine wNz (fuel := 12) (i := 1) (f := 110) (vs := [.agg C]) (d := some 4) (by kernel_rfl) (by kernel_rfl) (by kernel_rfl) call110 (kuz (h.next hk)) (fun _ hb => hS.next hb) ?_ ?_
 ·intro W2 q1 hb1 hS
  replace hk := btz hk hb1
  have qc := qSz.1 q1.out
  refine qvz (by kernel_rfl) (fun _ _ _ _ _ h => h) hS [(2, none), (3, some (.agg C))] (obs := [.load 43 B 0 (.agg C)]) (n := 10) (by kernel_rfl) (by kernel_rfl) ⟨ld _ (fun _ h => h), trivial⟩ ?_
  refine wNz (fuel := 9) (i := 4) (f := 111) (vs := [.agg C]) (d := some 7) (by kernel_rfl) (by kernel_rfl) (by kernel_rfl) call111 (j0z (h.next hk) qc.2.1 qc.2.2.1) (fun _ hb => hS.next hb) ?_ ?_
  ·intro W3 q2 hb2 hS
   replace hk := btz hk hb2
   clear hb1 hb2
   refine qvz (by kernel_rfl) (fun _ _ _ _ _ h => h) hS [(5, none), (6, none), (7, some (.agg C)), (9, some (.agg C))] (obs := [.load 43 B 0 (.agg C), .load 43 B 0 (.agg C)]) (n := 5) (by kernel_rfl) (by kernel_rfl) ⟨ld _ (fun _ h => h), ld _ (fun _ h => h), trivial⟩ ?_
   refine qnz (fuel := 4) (i := 8) (f := 113) (vs := [.agg C]) (d := some 11) (by kernel_rfl) (by kernel_rfl) (by kernel_rfl) call113 (vAz (h.next hk)) ?_
   rintro e W4 ⟨C1, rfl, o1, hb1⟩
   refine ⟨_, rfl, hS.next hb1, ?_⟩
   replace hS := hS.next hb1
   replace hk := btz hk hb1
   refine qnz (fuel := 3) (i := 10) (f := 114) (vs := [.agg C]) (d := some 13) (by kernel_rfl) (by kernel_rfl) (by kernel_rfl) call114 (common_any (h.next hk)) ?_
   rintro e W5 ⟨C2, rfl, o2, hb2⟩
   refine ⟨_, rfl, hS.next hb2, ?_⟩
   replace hS := hS.next hb2
   replace hk := btz hk hb2
   refine wNz (fuel := 2) (i := 11) (f := 112) (vs := [.agg C1, .agg C2]) (d := some 14) (by kernel_rfl) (by kernel_rfl) (by kernel_rfl) call112 (vLz (o1.next hb2) o2) (fun _ hb => hS.next hb) ?_ ?_
   ·intro W6 q3 hb3 hS
    replace hk := btz hk hb3
    refine qjz (by kernel_rfl) (fun _ _ _ _ _ h => h) hS [(12, none), (13, none)] (l' := #[tt, tt, tt, tt, tt, tt, tt, tt, tt, tt, tt, tt, tt, tt]) (a' := { tmps := #[.agg C, .pointer (some ⟨B, 0, none⟩), .bool true, .agg C, .bool true, .bool true, .agg C, .bool true, .bool true, .bool true, .agg C, .agg C1, .agg C, .agg C2, .bool true, .bool true], defers := [] }) (obs := []) (n := 0) (by kernel_rfl) (by kernel_rfl) trivial ?_
    refine wpAnyH_done (by kernel_rfl) ?_ _
    go_wp2
    go_ret
    exact qrz (qtz.2 ⟨q1.out, q2.out, q3.out⟩) hk
   ·intro W6 q3 hb3 hS
    replace hk := btz hk hb3
    refine qjz (by kernel_rfl) (fun _ _ _ _ _ h => h) hS [(12, none), (13, none)] (l' := #[tt, tt, tt, tt, tt, tt, tt, tt, tt, tt, tt, tt, tt, tt]) (a' := { tmps := #[.agg C, .pointer (some ⟨B, 0, none⟩), .bool false, .agg C, .bool true, .bool true, .agg C, .bool true, .bool true, .bool true, .agg C, .agg C1, .agg C, .agg C2, .bool false, .bool false], defers := [] }) (obs := []) (n := 0) (by kernel_rfl) (by kernel_rfl) trivial ?_
    refine wpAnyH_done (by kernel_rfl) ?_ _
    go_wp2
    go_ret
    exact qkz q3 hk (fun e => (qtz.1 e).2.2)
  ·intro W3 q2 hb2 hS
   replace hk := btz hk hb2
   refine qjz (by kernel_rfl) (fun _ _ _ _ _ h => h) hS [(5, none), (6, none), (7, none), (8, none), (9, none), (10, none), (11, none), (12, none), (13, none)] (l' := #[tt, tt, tt, tt, tt, tt, tt, tt, tt, tt, tt, tt, tt, tt]) (a' := { tmps := #[.agg C, .pointer (some ⟨B, 0, none⟩), .bool false, .agg C, .bool true, .bool true, .agg C, .bool false, .bool false, .bool false, ud, ud, ud, ud, undef, .bool false], defers := [] }) (obs := []) (n := 0) (by kernel_rfl) (by kernel_rfl) trivial ?_
   refine wpAnyH_done (by kernel_rfl) ?_ _
   go_wp2
   go_ret
   exact qkz q2 hk (fun e => (qtz.1 e).2.1)
 ·intro W2 q1 hb1 hS
  replace hk := btz hk hb1
  refine qjz (by kernel_rfl) (fun _ _ _ _ _ h => h) hS [(2, none), (3, none), (4, none), (5, none), (6, none), (7, none), (8, none), (9, none), (10, none), (11, none), (12, none), (13, none)] (l' := #[tt, tt, tt, tt, tt, tt, tt, tt, tt, tt, tt, tt, tt, tt]) (a' := { tmps := #[.agg C, .pointer (some ⟨B, 0, none⟩), .bool false, .agg C, .bool false, .bool false, ud, undef, .bool false, .bool false, ud, ud, ud, ud, undef, .bool false], defers := [] }) (obs := []) (n := 0) (by kernel_rfl) (by kernel_rfl) trivial ?_
  refine wpAnyH_done (by kernel_rfl) ?_ _
  go_wp2
  go_ret
  exact qkz q1 hk (fun e => (qtz.1 e).1)
theorem rid_q (n : Int) (w : World) : Calls prog 22 #[.int .u64 n] w fun e w' => e = .returned (.bool (idB n)) ∧ w' = w := by
 have hr : Hid (idB n = (decide (1 ≤ n) && decide (n ≤ 2305843009213693952))) := rfl
 go_enter func22, ntmps22
 go_wp2
 all_goals (go_ret; refine ⟨?_, rfl⟩; rw [hr.out]; first | (refine congrArg (fun z => Ending.returned (.bool z)) (?_ : decide (n ≤ 2305843009213693952) = _); rw [Bool.eq_iff_iff]; simp; omega) | (refine congrArg (fun z => Ending.returned (.bool z)) (?_ : false = _); rw [Bool.eq_iff_iff]; simp; omega) | (refine congrArg (fun z => Ending.returned (.bool z)) (?_ : true = _); rw [Bool.eq_iff_iff]; simp; omega))
variable {n cap : Nat}
theorem vNz {w0 w : World} {ao : Option Addr} {L : List Int} (h0 : CtD (LtN w0) w0 ao n cap L) (hk0 : Below w0.heap.size w0 w) : Asks 26 #[.slice ao n cap] (allI L = true ∧ risB L = true) w := by
 have hL := h0.ct' hk0
 clear h0 hk0
 have hn : Hid (L.length = n) := hL.1
 have hnc := hL.2.1
 have hcm := hL.2.2.1.1
 unfold Asks
 go_enter func26, ntmps26
 go_wp2
 go_loopw [3] (fun i wr => ∃ k : Nat, k ≤ n ∧ i = .int .i64 k ∧ Hid ((∀ j, j < k → idB (L.getD j 0) = true) ∧ ∀ j, j + 1 < k → L.getD j 0 < L.getD (j + 1) 0) ∧ Below w.heap.size w wr) (fun i _ => n - (intOf i).toNat)
 case atStart => exact ⟨0, Nat.zero_le _, rfl, ⟨fun j hj => absurd hj (by omega), fun j hj => absurd hj (by omega)⟩, brz _ _⟩
 case round =>
  obtain ⟨k, hk, rfl, hal, hb⟩ := hrel
  by_cases hkn : k < n
  ·have hLw := hL.laterK fun b hb' => hb.block b hb'
   obtain ⟨b, off, y, rfl, hbb, hy, d1⟩ := hLw.at hkn
   have hkn' : (k : Int) < n := by omega
   cases hid : idB y with
   | false =>
    have hq : Hid (¬ allI L = true) := by
     refine (?_ : ¬ allI L = true)
     intro e; have := koz.1 e k (by rw [hn.out]; exact hkn); rw [hy.out, hid] at this; cases this
    have hc := fun w => rid_q y w
    rw [hid] at hc
    clear hLw hid
    go_wp2
    go_quiet (first | (go_at_call 22; refine Calls.quiet_of_same (hc _)))
    go_wp2
    go_ret
    exact qkz hq (PgM.below_drewN hb _) (fun e => e.1)
   | true =>
    have hc := fun w => rid_q y w
    rw [hid] at hc
    by_cases hk0 : k = 0
    ·have hal2 : Hid ((∀ j, j < k + 1 → idB (L.getD j 0) = true) ∧ ∀ j, j + 1 < k + 1 → L.getD j 0 < L.getD (j + 1) 0) := ⟨wzz hal.out.1 (by rw [hy.out]; exact hid), fun j hj => absurd hj (by omega)⟩
     have hk0' : ¬ 0 < k := by omega
     have hk0d : decide ((0 : Int) < (k : Int)) = false := decide_eq_false (by omega)
     clear hLw hid hk0
     go_wp2
     go_quiet (first | (go_at_call 22; refine Calls.quiet_of_same (hc _)))
     go_wp2
     go_roundw
     case rel => exact ⟨k + 1, by omega, by go_num, hal2, PgM.below_drewN hb _⟩
     case measure => simp [intOf]; omega
    ·obtain ⟨j, hj⟩ : ∃ j, Hid (k = j + 1) := ⟨k - 1, by show _ = _; omega⟩
     have hw : IntKind.i64.wrap ((k : Int) - 1) = (j : Int) := by have := hj.out; rw [IntKind.wrap_i64]; omega
     have hjn : j < n := by have := hj.out; omega
     have hjn' : (j : Int) < n := by omega
     have hkp : 0 < k := by omega
     have hk0d : decide ((0 : Int) < (k : Int)) = true := decide_eq_true (by omega)
     obtain ⟨b', off', x, e', hbb', hx, d0⟩ := hLw.at hjn
     cases e'
     clear hLw
     by_cases hxy : x < y
     ·have hal2 : Hid ((∀ j, j < k + 1 → idB (L.getD j 0) = true) ∧ ∀ j, j + 1 < k + 1 → L.getD j 0 < L.getD (j + 1) 0) := by
       refine ⟨wzz hal.out.1 (by rw [hy.out]; exact hid), ?_⟩
       intro i hi
       rcases Nat.lt_or_ge (i + 1) k with h | h
       ·exact hal.out.2 i h
       ·have hij : i = j := by have := hj.out; omega
        rw [hij, hx.out, ← hj.out, hy.out]; exact hxy
      have hd : ¬ (y ≤ x) := by omega
      have hd' : decide (y ≤ x) = false := decide_eq_false hd
      clear hid hk0
      go_wp2
      go_quiet (first | (go_at_call 22; refine Calls.quiet_of_same (hc _)))
      go_wp2
      go_roundw
      case rel => exact ⟨k + 1, by omega, by go_num, hal2, PgM.below_drewN hb _⟩
      case measure => simp [intOf]; omega
     ·have hq : Hid (¬ risB L = true) := by
       refine (?_ : ¬ risB L = true)
       intro e
       have := kAz.1 e j (by rw [hn.out, ← hj.out]; exact hkn)
       rw [hx.out, ← hj.out, hy.out] at this
       exact hxy this
      have hd : y ≤ x := by omega
      have hd' : decide (y ≤ x) = true := decide_eq_true hd
      clear hid hk0
      go_wp2
      go_quiet (first | (go_at_call 22; refine Calls.quiet_of_same (hc _)))
      go_wp2
      go_ret
      exact qkz hq (PgM.below_drewN hb _) (fun e => e.2)
  ·obtain rfl : k = n := by omega
   go_wp2
   go_ret
   exact qrz ⟨koz.2 fun i hi => hal.out.1 i (by rw [hn.out] at hi; exact hi), kAz.2 fun i hi => hal.out.2 i (by rw [hn.out] at hi; exact hi)⟩ hb
theorem y6z (h : ObD (LtN w) w C x) : Asks 24 #[.agg C] (aloO x = x) w := by
 have hz := h.size
 have c0 := h.id
 have c1 := h.kind
 obtain ⟨a2, n2, k2, c2, l2⟩ := h.label
 have hn2 : Hid (x.label.length = n2) := l2.1
 have c3 := h.quota
 have c4 := h.fixed
 obtain ⟨a5, n5, k5, c5, l5⟩ := h.links
 have hn5 : Hid (x.links.length = n5) := l5.1
 obtain ⟨a6, n6, k6, c6, l6⟩ := h.data
 have hn6 : Hid (x.data.length = n6) := l6.1
 obtain ⟨a7, n7, k7, c7, l7⟩ := h.maps
 have hn7 : Hid (x.maps.length = n7) := l7.1
 obtain ⟨a49, n49, k49, c49, l49⟩ := h.inn
 have hn49 : Hid (x.inn.length = n49) := l49.1
 obtain ⟨a50, n50, k50, c50, l50⟩ := h.out
 have hn50 : Hid (x.out.length = n50) := l50.1
 obtain ⟨a25, n25, k25, c25, l25⟩ := h.th.clear
 obtain ⟨a43, n43, k43, c43, l43⟩ := h.gt.grant
 obtain ⟨a44, n44, k44, c44, l44⟩ := h.gt.clear
 replace c25 : C[25]? = some (.slice a25 n25 k25) := c25
 replace c43 : C[43]? = some (.slice a43 n43 k43) := c43
 replace c44 : C[44]? = some (.slice a44 n44 k44) := c44
 have ga0 := isAgg27
 have ga1 := isAgg22
 have ga2 := isAgg3
 have ga3 := isAgg4
 have ga4 := isAgg28
 have ga5 := isAgg29
 unfold Asks
 by_cases h1 : x.kind = 1
 ·replace c1 : C[1]? = some (.int .i64 1) := c1.trans (by rw [h1])
  have halo : aloO x = { (⟨x.id, 1, x.label, x.quota, x.fixed, [], [], [], zTh, zGt, [], []⟩ : Ob) with data := x.data } := by rw [alo1 h1, ← h1]; rfl
  clear h1
  have hcm := wPz (i := x.id) (k := 1) (q := x.quota) (f := x.fixed) l2
  have hcz := hcm.size
  have hd := hcm.set6 ⟨_, _, _, rfl, l6⟩ rfl
  go_enter func24, ntmps24
  go_wp2_with (first
   | go_skip
   | (with_reducible refine qcz rfl _ _ rfl C rfl ?_; intro B W hB hb hk)
   | (with_reducible refine qaz (by kernel_rfl) _ _ rfl B _ rfl _ _ hb _ (by assumption) (by assumption) ?_)
   | (with_reducible refine qaz (by kernel_rfl) _ _ rfl B _ rfl _ _ e2 _ (by assumption) (by assumption) ?_)
   | (with_reducible refine qaz (by kernel_rfl) _ _ rfl B _ rfl _ _ e3 _ (by assumption) (by assumption) ?_)
   | ((with_reducible refine qLz rfl _ _ rfl (comC (.int .u64 x.id) (.int .i64 1) (.slice a2 n2 k2) (.int .i64 x.quota) (.bool x.fixed)) ?hf ?_); (case hf => exact wEz _ _ _ _ _ _ _))
   | (with_reducible refine qfz rfl _ rfl zC qzz ?_; intro B' W' hB' hb' hk'; have hne : B ≠ B' := (by have := hB'.out.1; have := hb.lt; omega); have b1 := btz hk hk'; have hl' : w.heap.size ≤ B' := (by have := hB'.out.1; have := hk.size; omega))
   | ((with_reducible refine qbz rfl _ _ _ rfl B' rfl (comC (.int .u64 x.id) (.int .i64 1) (.slice a2 n2 k2) (.int .i64 x.quota) (.bool x.fixed)) rfl zC hb' (qez hcz) (qoz.trans hcz.symm) hcm.one ?_); intro W2 b2 o2; have e2 := (hb.next hk').other o2 hne; have kb2 := o2.below w.heap.size w hl' b1)
   | ((with_reducible refine qiz rfl _ _ _ rfl B' 6 rfl (.slice a6 n6 k6) rfl rfl _ _ b2 wGz (by first | (rw [hcz]; omega) | (rw [Array.size_setIfInBounds, hcz]; omega)) rfl ?_); intro W3 b3 o3; have e3 := e2.other o3 hne; have kb3 := o3.below w.heap.size w hl' kb2)
   | ((with_reducible refine qlz rfl _ _ rfl B' rfl _ b3 _ underlying43 rfl (qez hd.size) ?_))
   | ((with_reducible refine qlz rfl _ _ rfl B rfl _ e3 _ underlying43 rfl (qez hz) ?_))
   | (go_at_call 46; (with_reducible refine (q3z (hd.next kb3) (h.next kb3)).on ?_ ?_) <;> intro w9 hq hb9))
  ·go_ret
   exact qrz ((show aloO x = x by rw [halo]; exact hq.out)) (btz kb3 hb9)
  ·go_ret
   exact qkz hq (btz kb3 hb9) (fun e => (by rw [halo] at e; exact e))
 by_cases h2 : x.kind = 2
 ·replace c1 : C[1]? = some (.int .i64 2) := c1.trans (by rw [h2])
  have halo : aloO x = { (⟨x.id, 2, x.label, x.quota, x.fixed, [], [], [], zTh, zGt, [], []⟩ : Ob) with links := x.links } := by rw [alo2 h2, ← h2]; rfl
  clear h1 h2
  have hcm := wPz (i := x.id) (k := 2) (q := x.quota) (f := x.fixed) l2
  have hcz := hcm.size
  have hd := hcm.set5 ⟨_, _, _, rfl, l5⟩ rfl
  go_enter func24, ntmps24
  go_wp2_with (first
   | go_skip
   | (with_reducible refine qcz rfl _ _ rfl C rfl ?_; intro B W hB hb hk)
   | (with_reducible refine qaz (by kernel_rfl) _ _ rfl B _ rfl _ _ hb _ (by assumption) (by assumption) ?_)
   | (with_reducible refine qaz (by kernel_rfl) _ _ rfl B _ rfl _ _ e2 _ (by assumption) (by assumption) ?_)
   | (with_reducible refine qaz (by kernel_rfl) _ _ rfl B _ rfl _ _ e3 _ (by assumption) (by assumption) ?_)
   | ((with_reducible refine qLz rfl _ _ rfl (comC (.int .u64 x.id) (.int .i64 2) (.slice a2 n2 k2) (.int .i64 x.quota) (.bool x.fixed)) ?hf ?_); (case hf => exact wEz _ _ _ _ _ _ _))
   | (with_reducible refine qfz rfl _ rfl zC qzz ?_; intro B' W' hB' hb' hk'; have hne : B ≠ B' := (by have := hB'.out.1; have := hb.lt; omega); have b1 := btz hk hk'; have hl' : w.heap.size ≤ B' := (by have := hB'.out.1; have := hk.size; omega))
   | ((with_reducible refine qbz rfl _ _ _ rfl B' rfl (comC (.int .u64 x.id) (.int .i64 2) (.slice a2 n2 k2) (.int .i64 x.quota) (.bool x.fixed)) rfl zC hb' (qez hcz) (qoz.trans hcz.symm) hcm.one ?_); intro W2 b2 o2; have e2 := (hb.next hk').other o2 hne; have kb2 := o2.below w.heap.size w hl' b1)
   | ((with_reducible refine qiz rfl _ _ _ rfl B' 5 rfl (.slice a5 n5 k5) rfl rfl _ _ b2 wGz (by first | (rw [hcz]; omega) | (rw [Array.size_setIfInBounds, hcz]; omega)) rfl ?_); intro W3 b3 o3; have e3 := e2.other o3 hne; have kb3 := o3.below w.heap.size w hl' kb2)
   | ((with_reducible refine qlz rfl _ _ rfl B' rfl _ b3 _ underlying43 rfl (qez hd.size) ?_))
   | ((with_reducible refine qlz rfl _ _ rfl B rfl _ e3 _ underlying43 rfl (qez hz) ?_))
   | (go_at_call 46; (with_reducible refine (q3z (hd.next kb3) (h.next kb3)).on ?_ ?_) <;> intro w9 hq hb9))
  ·go_ret
   exact qrz ((show aloO x = x by rw [halo]; exact hq.out)) (btz kb3 hb9)
  ·go_ret
   exact qkz hq (btz kb3 hb9) (fun e => (by rw [halo] at e; exact e))
 by_cases h3 : x.kind = 3
 ·replace c1 : C[1]? = some (.int .i64 3) := c1.trans (by rw [h3])
  have halo : aloO x = { (⟨x.id, 3, x.label, x.quota, x.fixed, [], [], [], zTh, zGt, [], []⟩ : Ob) with maps := x.maps } := by rw [alo3 h3, ← h3]; rfl
  clear h1 h2 h3
  have hcm := wPz (i := x.id) (k := 3) (q := x.quota) (f := x.fixed) l2
  have hcz := hcm.size
  have hd := hcm.set7 ⟨_, _, _, rfl, l7⟩ rfl
  go_enter func24, ntmps24
  go_wp2_with (first
   | go_skip
   | (with_reducible refine qcz rfl _ _ rfl C rfl ?_; intro B W hB hb hk)
   | (with_reducible refine qaz (by kernel_rfl) _ _ rfl B _ rfl _ _ hb _ (by assumption) (by assumption) ?_)
   | (with_reducible refine qaz (by kernel_rfl) _ _ rfl B _ rfl _ _ e2 _ (by assumption) (by assumption) ?_)
   | (with_reducible refine qaz (by kernel_rfl) _ _ rfl B _ rfl _ _ e3 _ (by assumption) (by assumption) ?_)
   | ((with_reducible refine qLz rfl _ _ rfl (comC (.int .u64 x.id) (.int .i64 3) (.slice a2 n2 k2) (.int .i64 x.quota) (.bool x.fixed)) ?hf ?_); (case hf => exact wEz _ _ _ _ _ _ _))
   | (with_reducible refine qfz rfl _ rfl zC qzz ?_; intro B' W' hB' hb' hk'; have hne : B ≠ B' := (by have := hB'.out.1; have := hb.lt; omega); have b1 := btz hk hk'; have hl' : w.heap.size ≤ B' := (by have := hB'.out.1; have := hk.size; omega))
   | ((with_reducible refine qbz rfl _ _ _ rfl B' rfl (comC (.int .u64 x.id) (.int .i64 3) (.slice a2 n2 k2) (.int .i64 x.quota) (.bool x.fixed)) rfl zC hb' (qez hcz) (qoz.trans hcz.symm) hcm.one ?_); intro W2 b2 o2; have e2 := (hb.next hk').other o2 hne; have kb2 := o2.below w.heap.size w hl' b1)
   | ((with_reducible refine qiz rfl _ _ _ rfl B' 7 rfl (.slice a7 n7 k7) rfl rfl _ _ b2 uKz (by first | (rw [hcz]; omega) | (rw [Array.size_setIfInBounds, hcz]; omega)) rfl ?_); intro W3 b3 o3; have e3 := e2.other o3 hne; have kb3 := o3.below w.heap.size w hl' kb2)
   | ((with_reducible refine qlz rfl _ _ rfl B' rfl _ b3 _ underlying43 rfl (qez hd.size) ?_))
   | ((with_reducible refine qlz rfl _ _ rfl B rfl _ e3 _ underlying43 rfl (qez hz) ?_))
   | (go_at_call 46; (with_reducible refine (q3z (hd.next kb3) (h.next kb3)).on ?_ ?_) <;> intro w9 hq hb9))
  ·go_ret
   exact qrz ((show aloO x = x by rw [halo]; exact hq.out)) (btz kb3 hb9)
  ·go_ret
   exact qkz hq (btz kb3 hb9) (fun e => (by rw [halo] at e; exact e))
 by_cases h4 : x.kind = 4
 ·replace c1 : C[1]? = some (.int .i64 4) := c1.trans (by rw [h4])
  have halo : aloO x = { (⟨x.id, 4, x.label, x.quota, x.fixed, [], [], [], zTh, zGt, [], []⟩ : Ob) with th := x.th } := by rw [alo4 h4, ← h4]; rfl
  clear h1 h2 h3 h4
  have hcm := wPz (i := x.id) (k := 4) (q := x.quota) (f := x.fixed) l2
  have hcz := hcm.size
  have hd := hcm.setT h.thd
  obtain ⟨CT, hCT⟩ : ∃ CT, ((comC (.int .u64 x.id) (.int .i64 4) (.slice a2 n2 k2) (.int .i64 x.quota) (.bool x.fixed)).extract 0 8 ++ C.extract 8 (8 + 35) ++ (comC (.int .u64 x.id) (.int .i64 4) (.slice a2 n2 k2) (.int .i64 x.quota) (.bool x.fixed)).extract (8 + (C.extract 8 (8 + 35)).size) (comC (.int .u64 x.id) (.int .i64 4) (.slice a2 n2 k2) (.int .i64 x.quota) (.bool x.fixed)).size) = CT := ⟨_, rfl⟩
  rw [hCT] at hd
  go_enter func24, ntmps24
  go_wp2_with (first
   | go_skip
   | (with_reducible refine qcz rfl _ _ rfl C rfl ?_; intro B W hB hb hk)
   | (with_reducible refine qaz (by kernel_rfl) _ _ rfl B _ rfl _ _ hb _ (by assumption) (by assumption) ?_)
   | (with_reducible refine qaz (by kernel_rfl) _ _ rfl B _ rfl _ _ e2 _ (by assumption) (by assumption) ?_)
   | (with_reducible refine qaz (by kernel_rfl) _ _ rfl B _ rfl _ _ e3 _ (by assumption) (by assumption) ?_)
   | ((with_reducible refine qLz rfl _ _ rfl (comC (.int .u64 x.id) (.int .i64 4) (.slice a2 n2 k2) (.int .i64 x.quota) (.bool x.fixed)) ?hf ?_); (case hf => exact wEz _ _ _ _ _ _ _))
   | (with_reducible refine qfz rfl _ rfl zC qzz ?_; intro B' W' hB' hb' hk'; have hne : B ≠ B' := (by have := hB'.out.1; have := hb.lt; omega); have b1 := btz hk hk'; have hl' : w.heap.size ≤ B' := (by have := hB'.out.1; have := hk.size; omega))
   | ((with_reducible refine qbz rfl _ _ _ rfl B' rfl (comC (.int .u64 x.id) (.int .i64 4) (.slice a2 n2 k2) (.int .i64 x.quota) (.bool x.fixed)) rfl zC hb' (qez hcz) (qoz.trans hcz.symm) hcm.one ?_); intro W2 b2 o2; have e2 := (hb.next hk').other o2 hne; have kb2 := o2.below w.heap.size w hl' b1)
   | (with_reducible refine qpz (by kernel_rfl) 39 _ rfl B _ rfl 35 _ _ e2 _ rfl (by rw [hz]; omega) _ underlying39 (by kernel_rfl) xbz ?_)
   | ((with_reducible refine wkz rfl _ _ _ rfl B' 8 rfl (C.extract 8 (8 + 35)) rfl _ _ b2 (by rw [h.thd.size]; exact xbz) (by rw [h.thd.size, hcz]; omega) h.thd.one ?_); intro W3 b3 o3; rw [hCT] at b3; have e3 := e2.other o3 hne; have kb3 := o3.below w.heap.size w hl' kb2)
   | ((with_reducible refine qlz rfl _ _ rfl B' rfl _ b3 _ underlying43 rfl (qez hd.size) ?_))
   | ((with_reducible refine qlz rfl _ _ rfl B rfl _ e3 _ underlying43 rfl (qez hz) ?_))
   | (go_at_call 46; (with_reducible refine (q3z (hd.next kb3) (h.next kb3)).on ?_ ?_) <;> intro w9 hq hb9))
  ·go_ret
   exact qrz ((show aloO x = x by rw [halo]; exact hq.out)) (btz kb3 hb9)
  ·go_ret
   exact qkz hq (btz kb3 hb9) (fun e => (by rw [halo] at e; exact e))
 by_cases h5 : x.kind = 5
 ·replace c1 : C[1]? = some (.int .i64 5) := c1.trans (by rw [h5])
  have halo : aloO x = { (⟨x.id, 5, x.label, x.quota, x.fixed, [], [], [], zTh, zGt, [], []⟩ : Ob) with gt := x.gt } := by rw [alo5 h5, ← h5]; rfl
  clear h1 h2 h3 h4 h5
  have hcm := wPz (i := x.id) (k := 5) (q := x.quota) (f := x.fixed) l2
  have hcz := hcm.size
  have hd := hcm.setG h.gtd
  obtain ⟨CT, hCT⟩ : ∃ CT, ((comC (.int .u64 x.id) (.int .i64 5) (.slice a2 n2 k2) (.int .i64 x.quota) (.bool x.fixed)).extract 0 43 ++ C.extract 43 (43 + 6) ++ (comC (.int .u64 x.id) (.int .i64 5) (.slice a2 n2 k2) (.int .i64 x.quota) (.bool x.fixed)).extract (43 + (C.extract 43 (43 + 6)).size) (comC (.int .u64 x.id) (.int .i64 5) (.slice a2 n2 k2) (.int .i64 x.quota) (.bool x.fixed)).size) = CT := ⟨_, rfl⟩
  rw [hCT] at hd
  go_enter func24, ntmps24
  go_wp2_with (first
   | go_skip
   | (with_reducible refine qcz rfl _ _ rfl C rfl ?_; intro B W hB hb hk)
   | (with_reducible refine qaz (by kernel_rfl) _ _ rfl B _ rfl _ _ hb _ (by assumption) (by assumption) ?_)
   | (with_reducible refine qaz (by kernel_rfl) _ _ rfl B _ rfl _ _ e2 _ (by assumption) (by assumption) ?_)
   | (with_reducible refine qaz (by kernel_rfl) _ _ rfl B _ rfl _ _ e3 _ (by assumption) (by assumption) ?_)
   | ((with_reducible refine qLz rfl _ _ rfl (comC (.int .u64 x.id) (.int .i64 5) (.slice a2 n2 k2) (.int .i64 x.quota) (.bool x.fixed)) ?hf ?_); (case hf => exact wEz _ _ _ _ _ _ _))
   | (with_reducible refine qfz rfl _ rfl zC qzz ?_; intro B' W' hB' hb' hk'; have hne : B ≠ B' := (by have := hB'.out.1; have := hb.lt; omega); have b1 := btz hk hk'; have hl' : w.heap.size ≤ B' := (by have := hB'.out.1; have := hk.size; omega))
   | ((with_reducible refine qbz rfl _ _ _ rfl B' rfl (comC (.int .u64 x.id) (.int .i64 5) (.slice a2 n2 k2) (.int .i64 x.quota) (.bool x.fixed)) rfl zC hb' (qez hcz) (qoz.trans hcz.symm) hcm.one ?_); intro W2 b2 o2; have e2 := (hb.next hk').other o2 hne; have kb2 := o2.below w.heap.size w hl' b1)
   | (with_reducible refine qpz (by kernel_rfl) 41 _ rfl B _ rfl 6 _ _ e2 _ rfl (by rw [hz]; omega) _ underlying41 (by kernel_rfl) kwz ?_)
   | ((with_reducible refine wkz rfl _ _ _ rfl B' 43 rfl (C.extract 43 (43 + 6)) rfl _ _ b2 (by rw [h.gtd.size]; exact kwz) (by rw [h.gtd.size, hcz]; omega) h.gtd.one ?_); intro W3 b3 o3; rw [hCT] at b3; have e3 := e2.other o3 hne; have kb3 := o3.below w.heap.size w hl' kb2)
   | ((with_reducible refine qlz rfl _ _ rfl B' rfl _ b3 _ underlying43 rfl (qez hd.size) ?_))
   | ((with_reducible refine qlz rfl _ _ rfl B rfl _ e3 _ underlying43 rfl (qez hz) ?_))
   | (go_at_call 46; (with_reducible refine (q3z (hd.next kb3) (h.next kb3)).on ?_ ?_) <;> intro w9 hq hb9))
  ·go_ret
   exact qrz ((show aloO x = x by rw [halo]; exact hq.out)) (btz kb3 hb9)
  ·go_ret
   exact qkz hq (btz kb3 hb9) (fun e => (by rw [halo] at e; exact e))
 by_cases h6 : x.kind = 6
 ·replace c1 : C[1]? = some (.int .i64 6) := c1.trans (by rw [h6])
  have halo : aloO x = { (⟨x.id, 6, x.label, x.quota, x.fixed, [], [], [], zTh, zGt, [], []⟩ : Ob) with inn := x.inn, out := x.out } := by rw [alo6 h6, ← h6]; rfl
  clear h1 h2 h3 h4 h5 h6
  have hcm := wPz (i := x.id) (k := 6) (q := x.quota) (f := x.fixed) l2
  have hcz := hcm.size
  have hd := (hcm.set49 ⟨_, _, _, rfl, l49⟩ rfl).set50 ⟨_, _, _, rfl, l50⟩ rfl
  go_enter func24, ntmps24
  go_wp2_with (first
   | go_skip
   | (with_reducible refine qcz rfl _ _ rfl C rfl ?_; intro B W hB hb hk)
   | (with_reducible refine qaz (by kernel_rfl) _ _ rfl B _ rfl _ _ hb _ (by assumption) (by assumption) ?_)
   | (with_reducible refine qaz (by kernel_rfl) _ _ rfl B _ rfl _ _ e2 _ (by assumption) (by assumption) ?_)
   | (with_reducible refine qaz (by kernel_rfl) _ _ rfl B _ rfl _ _ e3 _ (by assumption) (by assumption) ?_)
   | ((with_reducible refine qLz rfl _ _ rfl (comC (.int .u64 x.id) (.int .i64 6) (.slice a2 n2 k2) (.int .i64 x.quota) (.bool x.fixed)) ?hf ?_); (case hf => exact wEz _ _ _ _ _ _ _))
   | (with_reducible refine qfz rfl _ rfl zC qzz ?_; intro B' W' hB' hb' hk'; have hne : B ≠ B' := (by have := hB'.out.1; have := hb.lt; omega); have b1 := btz hk hk'; have hl' : w.heap.size ≤ B' := (by have := hB'.out.1; have := hk.size; omega))
   | ((with_reducible refine qbz rfl _ _ _ rfl B' rfl (comC (.int .u64 x.id) (.int .i64 6) (.slice a2 n2 k2) (.int .i64 x.quota) (.bool x.fixed)) rfl zC hb' (qez hcz) (qoz.trans hcz.symm) hcm.one ?_); intro W2 b2 o2; have e2 := (hb.next hk').other o2 hne; have kb2 := o2.below w.heap.size w hl' b1)
   | ((with_reducible refine qiz rfl _ _ _ rfl B' 49 rfl (.slice a49 n49 k49) rfl rfl _ _ b2 wGz (by first | (rw [hcz]; omega) | (rw [Array.size_setIfInBounds, hcz]; omega)) rfl ?_); intro W3 b3 o3; have e3 := e2.other o3 hne; have kb3 := o3.below w.heap.size w hl' kb2)
   | ((with_reducible refine qiz rfl _ _ _ rfl B' 50 rfl (.slice a50 n50 k50) rfl rfl _ _ b3 wGz (by first | (rw [hcz]; omega) | (rw [Array.size_setIfInBounds, hcz]; omega)) rfl ?_); intro W4 b4 o4; have e4 := e3.other o4 hne; have kb4 := o4.below w.heap.size w hl' kb3)
   | ((with_reducible refine qlz rfl _ _ rfl B' rfl _ b4 _ underlying43 rfl (qez hd.size) ?_))
   | ((with_reducible refine qlz rfl _ _ rfl B rfl _ e4 _ underlying43 rfl (qez hz) ?_))
   | (go_at_call 46; (with_reducible refine (q3z (hd.next kb4) (h.next kb4)).on ?_ ?_) <;> intro w9 hq hb9))
  ·go_ret
   exact qrz ((show aloO x = x by rw [halo]; exact hq.out)) (btz kb4 hb9)
  ·go_ret
   exact qkz hq (btz kb4 hb9) (fun e => (by rw [halo] at e; exact e))
 ·have halo : aloO x = comO x := alo7 (by omega)
  have g1 : (x.kind == 1) = false := by rw [beq_eq_false_iff_ne]; exact h1
  have g2 : (x.kind == 2) = false := by rw [beq_eq_false_iff_ne]; exact h2
  have g3 : (x.kind == 3) = false := by rw [beq_eq_false_iff_ne]; exact h3
  have g4 : (x.kind == 4) = false := by rw [beq_eq_false_iff_ne]; exact h4
  have g5 : (x.kind == 5) = false := by rw [beq_eq_false_iff_ne]; exact h5
  have g6 : (x.kind == 6) = false := by rw [beq_eq_false_iff_ne]; exact h6
  clear h1 h2 h3 h4 h5 h6
  have hcm := wPz (i := x.id) (k := x.kind) (q := x.quota) (f := x.fixed) l2
  have hcz := hcm.size
  have hd := hcm
  go_enter func24, ntmps24
  go_wp2_with (first
   | go_skip
   | (with_reducible refine qcz rfl _ _ rfl C rfl ?_; intro B W hB hb hk)
   | (with_reducible refine qaz (by kernel_rfl) _ _ rfl B _ rfl _ _ hb _ (by assumption) (by assumption) ?_)
   | (with_reducible refine qaz (by kernel_rfl) _ _ rfl B _ rfl _ _ e2 _ (by assumption) (by assumption) ?_)
   | (with_reducible refine qaz (by kernel_rfl) _ _ rfl B _ rfl _ _ e3 _ (by assumption) (by assumption) ?_)
   | ((with_reducible refine qLz rfl _ _ rfl (comC (.int .u64 x.id) (.int .i64 x.kind) (.slice a2 n2 k2) (.int .i64 x.quota) (.bool x.fixed)) ?hf ?_); (case hf => exact wEz _ _ _ _ _ _ _))
   | (with_reducible refine qfz rfl _ rfl zC qzz ?_; intro B' W' hB' hb' hk'; have hne : B ≠ B' := (by have := hB'.out.1; have := hb.lt; omega); have b1 := btz hk hk'; have hl' : w.heap.size ≤ B' := (by have := hB'.out.1; have := hk.size; omega))
   | ((with_reducible refine qbz rfl _ _ _ rfl B' rfl (comC (.int .u64 x.id) (.int .i64 x.kind) (.slice a2 n2 k2) (.int .i64 x.quota) (.bool x.fixed)) rfl zC hb' (qez hcz) (qoz.trans hcz.symm) hcm.one ?_); intro W2 b2 o2; have e2 := (hb.next hk').other o2 hne; have kb2 := o2.below w.heap.size w hl' b1)
   | ((with_reducible refine qlz rfl _ _ rfl B' rfl _ b2 _ underlying43 rfl (qez hd.size) ?_))
   | ((with_reducible refine qlz rfl _ _ rfl B rfl _ e2 _ underlying43 rfl (qez hz) ?_))
   | (go_at_call 46; (with_reducible refine (q3z (hd.next kb2) (h.next kb2)).on ?_ ?_) <;> intro w9 hq hb9))
  ·go_ret
   exact qrz ((show aloO x = x by rw [halo]; exact hq.out)) (btz kb2 hb9)
  ·go_ret
   exact qkz hq (btz kb2 hb9) (fun e => (by rw [halo] at e; exact e))
theorem wUz {w0 w : World} {ao : Option Addr} {L : Lb} (h : LabD (LtN w0) w0 ao n cap L) (hk : Below w0.heap.size w0 w) (hn : n < 274877906944) : Calls prog 25 #[.slice ao n cap] w fun e w' => ∃ ao1 cap1, e = .returned (.slice ao1 (w3z L).length cap1) ∧ Below w.heap.size w w' := by
 refine (yWz (h.lab' hk) hn).mono ?_
 rintro e w' ⟨ao1, n1, cap1, rfl, hc, hb⟩
 have e1 := hc.1
 subst e1
 exact ⟨ao1, cap1, rfl, hb⟩
theorem kBz (hk : ¬ x.kind = 4) (hl : 0 < ((w3z x.label).length : Int)) (e : qUz x = true) : False := by
 rcases (qSz.1 (qtz.1 e).1).2.2.2.2 with e1 | e1
 ·exact hk e1
 ·rw [e1] at hl; simp at hl
theorem xJz {L : Lb} (h : ((w3z L).length : Int) ≤ 0) : w3z L = [] := List.eq_nil_of_length_eq_zero (by omega)
theorem k2z (h : ObD (LtN w) w C x) : Asks 6 #[.agg C] (qUz x = true) w := by
 have hz := h.size
 have c0 := h.id
 have c1 := h.kind
 obtain ⟨a2, n2, k2, c2, l2⟩ := h.label
 have hn2 : Hid (x.label.length = n2) := l2.1
 have c3 := h.quota
 have c4 := h.fixed
 obtain ⟨a5, n5, k5, c5, l5⟩ := h.links
 have hn5 : Hid (x.links.length = n5) := l5.1
 obtain ⟨a6, n6, k6, c6, l6⟩ := h.data
 have hn6 : Hid (x.data.length = n6) := l6.1
 obtain ⟨a7, n7, k7, c7, l7⟩ := h.maps
 have hn7 : Hid (x.maps.length = n7) := l7.1
 obtain ⟨a49, n49, k49, c49, l49⟩ := h.inn
 have hn49 : Hid (x.inn.length = n49) := l49.1
 obtain ⟨a50, n50, k50, c50, l50⟩ := h.out
 have hn50 : Hid (x.out.length = n50) := l50.1
 obtain ⟨a25, n25, k25, c25, l25⟩ := h.th.clear
 obtain ⟨a43, n43, k43, c43, l43⟩ := h.gt.grant
 obtain ⟨a44, n44, k44, c44, l44⟩ := h.gt.clear
 replace c25 : C[25]? = some (.slice a25 n25 k25) := c25
 replace c43 : C[43]? = some (.slice a43 n43 k43) := c43
 replace c44 : C[44]? = some (.slice a44 n44 k44) := c44
 have ga0 := isAgg27
 have ga1 := isAgg22
 have ga2 := isAgg3
 have ga3 := isAgg4
 have ga4 := isAgg28
 have ga5 := isAgg29
 unfold Asks
 go_enter func6, ntmps6
 try simp only [List.append]
 go_upto_region 1 with (first
  | (with_reducible refine qcz rfl _ _ rfl C rfl ?_; intro B W hB hb hk))
 refine xjz ?_
 refine qDz [none, some (.int .u64 x.id)] 0 (obs := [.load 22 (B) (0) (.int .u64 x.id)]) (by kernel_rfl) ⟨qhz (fun _ e => by rw [e]; exact hb) c0 ga1, trivial⟩ ?_
 refine q4z (i := 2) (f := 22) (vs := [.int .u64 x.id]) (d := some 5) (by kernel_rfl) call22 (rid_any x.id _) ?_ ?_
 ·intro w0 q0 hb1; replace hb := hb.next hb1; replace hk := btz hk hb1; clear hb1
  refine qDz [none, none, none, some (.int .i64 x.kind)] 3 (obs := [.load 3 (B) (1) (.int .i64 x.kind)]) (by kernel_rfl) ⟨qhz (fun _ e => by rw [e]; exact hb) c1 ga2, trivial⟩ ?_
  by_cases q1 : x.kind < 1
  ·replace q1 : Hid (x.kind < 1) := q1
   refine qIz (some (.bool true) :: nl 27) 7 (a' := { tmps := #[.agg C, pt B 0, .bool false, pt B 0, .int .u64 x.id, .bool true, .bool false, .bool false, pt B 1, .int .i64 x.kind, .bool true, .bool true, .bool true, ud, ud, ud, .bool true, .bool true, ud, ud, ud, ud, .bool true, .bool true, ud, ud, ud, .bool true, .bool true, ud, ud, ud, .bool true, .bool true, ud, ud, ud, .bool true, ud, ud, ud, ud, ud, ud, ud, ud, ud, ud, ud, ud, ud, ud, ud, ud, ud, ud, ud, ud, ud, ud, ud, ud, ud, ud, ud, ud, ud, ud, ud, ud, ud, ud, ud, ud, ud, ud, ud, ud, ud, ud, ud, ud, ud, ud, ud, ud, ud, ud, ud, ud, ud, ud, ud, ud, ud, ud, ud, ud, ud, ud, ud, ud, ud, ud, ud, ud, ud, ud, ud, ud, ud, ud, ud, ud, ud, ud, ud, ud, ud], defers := [] }) (obs := [.test .lss 3 (.tmp 9) (.const (.int .i64 1)) (.int .i64 x.kind) (.int .i64 1) (.bool true)]) (by kernel_rfl) ⟨qEz (fun _ => wez _ _ _ _ _ _) q1, trivial⟩ ?_
   refine qJz (by kernel_rfl) ?_
   go_wp2
   go_ret
   refine ⟨false, rfl, ⟨fun e => absurd e Bool.false_ne_true, fun e => ?_⟩, hk⟩; exfalso; exact (own7 (by have := q1.out; omega)).1 (qtz.1 e).2.1
  ·replace q1 : Hid (¬ (x.kind < 1)) := q1
   refine qDz [some (.bool false), none, none, none, some (.int .i64 x.kind)] 7 (obs := [.test .lss 3 (.tmp 9) (.const (.int .i64 1)) (.int .i64 x.kind) (.int .i64 1) (.bool false), .load 3 (B) (1) (.int .i64 x.kind)]) (by kernel_rfl) ⟨qVz (fun _ => wez _ _ _ _ _ _) q1, qhz (fun _ e => by rw [e]; exact hb) c1 ga2, trivial⟩ ?_
   by_cases q2 : 6 < x.kind
   ·replace q2 : Hid (6 < x.kind) := q2
    refine qIz (some (.bool true) :: nl 22) 12 (a' := { tmps := #[.agg C, pt B 0, .bool false, pt B 0, .int .u64 x.id, .bool true, .bool false, .bool false, pt B 1, .int .i64 x.kind, .bool false, .bool false, .bool false, pt B 1, .int .i64 x.kind, .bool true, .bool true, .bool true, ud, ud, ud, ud, .bool true, .bool true, ud, ud, ud, .bool true, .bool true, ud, ud, ud, .bool true, .bool true, ud, ud, ud, .bool true, ud, ud, ud, ud, ud, ud, ud, ud, ud, ud, ud, ud, ud, ud, ud, ud, ud, ud, ud, ud, ud, ud, ud, ud, ud, ud, ud, ud, ud, ud, ud, ud, ud, ud, ud, ud, ud, ud, ud, ud, ud, ud, ud, ud, ud, ud, ud, ud, ud, ud, ud, ud, ud, ud, ud, ud, ud, ud, ud, ud, ud, ud, ud, ud, ud, ud, ud, ud, ud, ud, ud, ud, ud, ud, ud, ud, ud, ud, ud, ud, ud], defers := [] }) (obs := [.test .gtr 3 (.tmp 14) (.const (.int .i64 6)) (.int .i64 x.kind) (.int .i64 6) (.bool true)]) (by kernel_rfl) ⟨qEz (fun _ => qxz _ _ _ _ _ _) q2, trivial⟩ ?_
    refine qJz (by kernel_rfl) ?_
    go_wp2
    go_ret
    refine ⟨false, rfl, ⟨fun e => absurd e Bool.false_ne_true, fun e => ?_⟩, hk⟩; exfalso; exact (own7 (by have := q2.out; omega)).1 (qtz.1 e).2.1
   ·replace q2 : Hid (¬ (6 < x.kind)) := q2
    refine qDz [some (.bool false), none, none, none, some (.slice a2 n2 k2)] 12 (obs := [.test .gtr 3 (.tmp 14) (.const (.int .i64 6)) (.int .i64 x.kind) (.int .i64 6) (.bool false), .load 27 (B) (2) (.slice a2 n2 k2)]) (by kernel_rfl) ⟨qVz (fun _ => qxz _ _ _ _ _ _) q2, qhz (fun _ e => by rw [e]; exact hb) c2 ga0, trivial⟩ ?_
    refine q4z (i := 17) (f := 23) (vs := [.slice a2 n2 k2]) (d := some 20) (by kernel_rfl) call23 (xcz l2 hk) ?_ ?_
    ·intro w3 q3 hb1; replace hb := hb.next hb1; replace hk := btz hk hb1; clear hb1
     refine qDz [none, none, none, none, some (.int .i64 x.quota)] 18 (obs := [.load 3 (B) (3) (.int .i64 x.quota)]) (by kernel_rfl) ⟨qhz (fun _ e => by rw [e]; exact hb) c3 ga2, trivial⟩ ?_
     by_cases q4 : x.quota < 1
     ·replace q4 : Hid (x.quota < 1) := q4
      refine qIz (some (.bool true) :: nl 11) 23 (a' := { tmps := #[.agg C, pt B 0, .bool false, pt B 0, .int .u64 x.id, .bool true, .bool false, .bool false, pt B 1, .int .i64 x.kind, .bool false, .bool false, .bool false, pt B 1, .int .i64 x.kind, .bool false, .bool false, .bool false, pt B 2, .slice a2 n2 k2, .bool true, .bool false, .bool false, .bool false, pt B 3, .int .i64 x.quota, .bool true, .bool true, .bool true, ud, ud, ud, .bool true, .bool true, ud, ud, ud, .bool true, ud, ud, ud, ud, ud, ud, ud, ud, ud, ud, ud, ud, ud, ud, ud, ud, ud, ud, ud, ud, ud, ud, ud, ud, ud, ud, ud, ud, ud, ud, ud, ud, ud, ud, ud, ud, ud, ud, ud, ud, ud, ud, ud, ud, ud, ud, ud, ud, ud, ud, ud, ud, ud, ud, ud, ud, ud, ud, ud, ud, ud, ud, ud, ud, ud, ud, ud, ud, ud, ud, ud, ud, ud, ud, ud, ud, ud, ud, ud, ud, ud], defers := [] }) (obs := [.test .lss 3 (.tmp 25) (.const (.int .i64 1)) (.int .i64 x.quota) (.int .i64 1) (.bool true)]) (by kernel_rfl) ⟨qEz (fun _ => wez _ _ _ _ _ _) q4, trivial⟩ ?_
      refine qJz (by kernel_rfl) ?_
      go_wp2
      go_ret
      refine ⟨false, rfl, ⟨fun e => absurd e Bool.false_ne_true, fun e => ?_⟩, hk⟩; exfalso; have := qSz.1 (qtz.1 e).1; have := q4.out; omega
     ·replace q4 : Hid (¬ (x.quota < 1)) := q4
      refine qDz [some (.bool false), none, none, none, some (.int .i64 x.quota)] 23 (obs := [.test .lss 3 (.tmp 25) (.const (.int .i64 1)) (.int .i64 x.quota) (.int .i64 1) (.bool false), .load 3 (B) (3) (.int .i64 x.quota)]) (by kernel_rfl) ⟨qVz (fun _ => wez _ _ _ _ _ _) q4, qhz (fun _ e => by rw [e]; exact hb) c3 ga2, trivial⟩ ?_
      by_cases q5 : 4096 < x.quota
      ·replace q5 : Hid (4096 < x.quota) := q5
       refine qIz [some (.bool true), none, none, none, none, none, none] 28 (a' := { tmps := #[.agg C, pt B 0, .bool false, pt B 0, .int .u64 x.id, .bool true, .bool false, .bool false, pt B 1, .int .i64 x.kind, .bool false, .bool false, .bool false, pt B 1, .int .i64 x.kind, .bool false, .bool false, .bool false, pt B 2, .slice a2 n2 k2, .bool true, .bool false, .bool false, .bool false, pt B 3, .int .i64 x.quota, .bool false, .bool false, .bool false, pt B 3, .int .i64 x.quota, .bool true, .bool true, .bool true, ud, ud, ud, .bool true, ud, ud, ud, ud, ud, ud, ud, ud, ud, ud, ud, ud, ud, ud, ud, ud, ud, ud, ud, ud, ud, ud, ud, ud, ud, ud, ud, ud, ud, ud, ud, ud, ud, ud, ud, ud, ud, ud, ud, ud, ud, ud, ud, ud, ud, ud, ud, ud, ud, ud, ud, ud, ud, ud, ud, ud, ud, ud, ud, ud, ud, ud, ud, ud, ud, ud, ud, ud, ud, ud, ud, ud, ud, ud, ud, ud, ud, ud, ud, ud, ud], defers := [] }) (obs := [.test .gtr 3 (.tmp 30) (.const (.int .i64 4096)) (.int .i64 x.quota) (.int .i64 4096) (.bool true)]) (by kernel_rfl) ⟨qEz (fun _ => qxz _ _ _ _ _ _) q5, trivial⟩ ?_
       refine qJz (by kernel_rfl) ?_
       go_wp2
       go_ret
       refine ⟨false, rfl, ⟨fun e => absurd e Bool.false_ne_true, fun e => ?_⟩, hk⟩; exfalso; have := qSz.1 (qtz.1 e).1; have := q5.out; omega
      ·replace q5 : Hid (¬ (4096 < x.quota)) := q5
       refine qDz [some (.bool false), none, none, some (.agg C)] 28 (obs := [.test .gtr 3 (.tmp 30) (.const (.int .i64 4096)) (.int .i64 x.quota) (.int .i64 4096) (.bool false), .load 43 (B) (0) (.agg C)]) (by kernel_rfl) ⟨qVz (fun _ => qxz _ _ _ _ _ _) q5, qyz (fun _ e => by rw [e]; exact hb) underlying43 (by kernel_rfl) (qez hz), trivial⟩ ?_
       refine q4z (i := 32) (f := 24) (vs := [.agg C]) (d := some 35) (by kernel_rfl) call24 (y6z (h.next hk)) ?_ ?_
       ·intro w6 q6 hb1; replace hb := hb.next hb1; replace hk := btz hk hb1; clear hb1
        refine qIz [none, none] 33 (a' := { tmps := #[.agg C, pt B 0, .bool false, pt B 0, .int .u64 x.id, .bool true, .bool false, .bool false, pt B 1, .int .i64 x.kind, .bool false, .bool false, .bool false, pt B 1, .int .i64 x.kind, .bool false, .bool false, .bool false, pt B 2, .slice a2 n2 k2, .bool true, .bool false, .bool false, .bool false, pt B 3, .int .i64 x.quota, .bool false, .bool false, .bool false, pt B 3, .int .i64 x.quota, .bool false, .bool false, .bool false, .agg C, .bool true, .bool false, .bool false, ud, ud, ud, ud, ud, ud, ud, ud, ud, ud, ud, ud, ud, ud, ud, ud, ud, ud, ud, ud, ud, ud, ud, ud, ud, ud, ud, ud, ud, ud, ud, ud, ud, ud, ud, ud, ud, ud, ud, ud, ud, ud, ud, ud, ud, ud, ud, ud, ud, ud, ud, ud, ud, ud, ud, ud, ud, ud, ud, ud, ud, ud, ud, ud, ud, ud, ud, ud, ud, ud, ud, ud, ud, ud, ud, ud, ud, ud, ud, ud, ud], defers := [] }) (obs := []) (by kernel_rfl) trivial ?_
        refine qJz (by kernel_rfl) ?_
        have hqa : 1 ≤ x.quota := by have := q4.out; omega
        have hqb : x.quota ≤ 4096 := by have := q5.out; omega
        have hka : 1 ≤ x.kind := by have := q1.out; omega
        have hkb : x.kind ≤ 6 := by have := q2.out; omega
        have hkl : n2 < 274877906944 := by have := (qFz.1 q3.out).1; rw [hn2.out] at this; omega
        have hw1 : IntKind.i64.wrap (x.quota - 1) = x.quota - 1 := by rw [IntKind.wrap_i64]; omega
        have hw2 : IntKind.i64.wrap (16 * (x.quota - 1)) = 16 * (x.quota - 1) := by rw [IntKind.wrap_i64]; omega
        by_cases hk1 : x.kind = 1
        ·have hkd0 := hk1
         replace c1 : C[1]? = some (.int .i64 1) := c1.trans (by rw [hkd0])
         have hkd : x.kind = 1 := hkd0
         have hkH : Hid (x.kind = 1) := hkd
         clear hkd hkd0 hka hkb hk1
         go_wp2_with (first
          | go_skip
          | (with_reducible refine qaz (by kernel_rfl) _ _ rfl B _ rfl _ _ hb _ (by assumption) (by assumption) ?_)
          | ((with_reducible refine qgz (by kernel_rfl) .leq _ _ _ _ rfl _ _ rfl rfl (wfz _ _ _ _ _ _) ?_ ?_) <;> intro hq)
          | (go_at_call 25; (with_reducible refine (wUz l2 hk hkl).mono ?_); rintro e w1 ⟨ao1, cap1, rfl, hb1⟩; replace hb := hb.next hb1; replace hk := btz hk hb1; clear hb1)
          | ((with_reducible refine qgz (by kernel_rfl) .gtr _ _ _ _ rfl _ _ rfl rfl (qxz _ _ _ _ _ _) ?_ ?_) <;> intro hq))
         all_goals go_ret
         all_goals first
          | (refine qrz (qtz.2 ⟨qSz.2 ⟨q0.out, hqa, hqb, q3.out, .inr (xJz (Hid.out (by assumption)))⟩, (own1 hkH.out).2 ?_, (q8z x).2 q6.out⟩) hk; rw [hn6.out]; exact Hid.out (by assumption))
          | (have hl : 16 * (x.quota - 1) < (n6 : Int) := Hid.out (by assumption); refine ⟨false, rfl, ⟨fun e => absurd e Bool.false_ne_true, fun e => ?_⟩, hk⟩; exfalso; replace e := ((own1 hkH.out).1 (qtz.1 e).2.1); rw [hn6.out] at e; omega)
          | (have hl : 0 < ((w3z x.label).length : Int) := Hid.out (by assumption); refine ⟨false, rfl, ⟨fun e => absurd e Bool.false_ne_true, fun e => ?_⟩, hk⟩; exact (kBz (by have := hkH.out; omega) hl e).elim)
          | fail
        by_cases hk2 : x.kind = 2
        ·have hkd0 := hk2
         replace c1 : C[1]? = some (.int .i64 2) := c1.trans (by rw [hkd0])
         have hkd : x.kind = 2 := hkd0
         have hkH : Hid (x.kind = 2) := hkd
         clear hkd hkd0 hka hkb hk1 hk2
         go_wp2_with (first
          | go_skip
          | (with_reducible refine qaz (by kernel_rfl) _ _ rfl B _ rfl _ _ hb _ (by assumption) (by assumption) ?_)
          | ((with_reducible refine qgz (by kernel_rfl) .leq _ _ _ _ rfl _ _ rfl rfl (wfz _ _ _ _ _ _) ?_ ?_) <;> intro hq)
          | (go_at_call 26; (with_reducible refine (vNz l5 hk).on ?_ ?_) <;> (intro w1 hq hb1; replace hb := hb.next hb1; replace hk := btz hk hb1; clear hb1))
          | (go_at_call 25; (with_reducible refine (wUz l2 hk hkl).mono ?_); rintro e w1 ⟨ao1, cap1, rfl, hb1⟩; replace hb := hb.next hb1; replace hk := btz hk hb1; clear hb1)
          | ((with_reducible refine qgz (by kernel_rfl) .gtr _ _ _ _ rfl _ _ rfl rfl (qxz _ _ _ _ _ _) ?_ ?_) <;> intro hq))
         all_goals go_ret
         all_goals first
          | (refine qrz (qtz.2 ⟨qSz.2 ⟨q0.out, hqa, hqb, q3.out, .inr (xJz (Hid.out (by assumption)))⟩, (own2 hkH.out).2 ⟨?_, (Hid.out (by assumption) : allI x.links = true ∧ risB x.links = true).1, (Hid.out (by assumption) : allI x.links = true ∧ risB x.links = true).2⟩, (q8z x).2 q6.out⟩) hk; (have hl : (n5 : Int) ≤ 64 := Hid.out (by assumption)); rw [hn5.out]; omega)
          | (refine qkz (Y := allI x.links = true ∧ risB x.links = true) (by assumption) hk (fun e => ((own2 hkH.out).1 (qtz.1 e).2.1).2))
          | (have hl : 64 < (n5 : Int) := Hid.out (by assumption); refine ⟨false, rfl, ⟨fun e => absurd e Bool.false_ne_true, fun e => ?_⟩, hk⟩; exfalso; replace e := ((own2 hkH.out).1 (qtz.1 e).2.1); have := e.1; rw [hn5.out] at this; omega)
          | (have hl : 0 < ((w3z x.label).length : Int) := Hid.out (by assumption); refine ⟨false, rfl, ⟨fun e => absurd e Bool.false_ne_true, fun e => ?_⟩, hk⟩; exact (kBz (by have := hkH.out; omega) hl e).elim)
          | fail
        by_cases hk3 : x.kind = 3
        ·have hkd0 := hk3
         replace c1 : C[1]? = some (.int .i64 3) := c1.trans (by rw [hkd0])
         have hkd : x.kind = 3 := hkd0
         have hkH : Hid (x.kind = 3) := hkd
         clear hkd hkd0 hka hkb hk1 hk2 hk3
         go_wp2_with (first
          | go_skip
          | (with_reducible refine qaz (by kernel_rfl) _ _ rfl B _ rfl _ _ hb _ (by assumption) (by assumption) ?_)
          | (go_at_call 27; (with_reducible refine (Asks.of (PgM.rfit_any (MpD.mp' l7 hk))).on ?_ ?_) <;> (intro w1 hq hb1; replace hb := hb.next hb1; replace hk := btz hk hb1; clear hb1))
          | (go_at_call 25; (with_reducible refine (wUz l2 hk hkl).mono ?_); rintro e w1 ⟨ao1, cap1, rfl, hb1⟩; replace hb := hb.next hb1; replace hk := btz hk hb1; clear hb1)
          | ((with_reducible refine qgz (by kernel_rfl) .gtr _ _ _ _ rfl _ _ rfl rfl (qxz _ _ _ _ _ _) ?_ ?_) <;> intro hq))
         all_goals go_ret
         all_goals first
          | (refine qrz (qtz.2 ⟨qSz.2 ⟨q0.out, hqa, hqb, q3.out, .inr (xJz (Hid.out (by assumption)))⟩, (own3 hkH.out).2 (Hid.out (by assumption)), (q8z x).2 q6.out⟩) hk)
          | (refine qkz (Y := PgM.Pg.fitB x.maps = true) (by assumption) hk (fun e => (own3 hkH.out).1 (qtz.1 e).2.1))
          | (have hl : 0 < ((w3z x.label).length : Int) := Hid.out (by assumption); refine ⟨false, rfl, ⟨fun e => absurd e Bool.false_ne_true, fun e => ?_⟩, hk⟩; exact (kBz (by have := hkH.out; omega) hl e).elim)
          | fail
        by_cases hk4 : x.kind = 4
        ·have hkd0 := hk4
         replace c1 : C[1]? = some (.int .i64 4) := c1.trans (by rw [hkd0])
         have hkd : x.kind = 4 := hkd0
         have hkH : Hid (x.kind = 4) := hkd
         clear hkd hkd0 hka hkb hk1 hk2 hk3 hk4
         cases hfx : x.fixed with
         | false =>
          rw [hfx] at c4
          go_wp2_with (first
           | go_skip
           | (with_reducible refine qaz (by kernel_rfl) _ _ rfl B _ rfl _ _ hb _ (by assumption) (by assumption) ?_)
           | (with_reducible refine qpz (by kernel_rfl) 39 _ rfl B _ rfl 35 _ _ hb _ rfl (by rw [hz]; omega) _ underlying39 (by kernel_rfl) xbz ?_)
           | (go_at_call 28; (with_reducible refine (kxz (gtz l2 hk) (h.thd.next hk)).on ?_ ?_) <;> (intro w1 hq hb1; replace hb := hb.next hb1; replace hk := btz hk hb1; clear hb1)))
          all_goals go_ret
          all_goals first
           | (refine qrz (qtz.2 ⟨qSz.2 ⟨q0.out, hqa, hqb, q3.out, .inl hkH.out⟩, (own4 hkH.out).2 ⟨hfx, wdz.2 ⟨q3.out, (Hid.out (by assumption) : (qYz x.th.clear = true ∧ w2z x.label x.th.clear = true ∧ thrB x.th = true)).1, by rw [← xAz (wAz (qFz.1 q3.out).2.1) (wAz (qFz.1 (Hid.out (by assumption) : (qYz x.th.clear = true ∧ w2z x.label x.th.clear = true ∧ thrB x.th = true)).1).2.1)]; exact (Hid.out (by assumption) : (qYz x.th.clear = true ∧ w2z x.label x.th.clear = true ∧ thrB x.th = true)).2.1⟩, (Hid.out (by assumption) : (qYz x.th.clear = true ∧ w2z x.label x.th.clear = true ∧ thrB x.th = true)).2.2⟩, (q8z x).2 q6.out⟩) hk)
           | (refine qkz (Y := (qYz x.th.clear = true ∧ w2z x.label x.th.clear = true ∧ thrB x.th = true)) (by assumption) hk (fun e => ?_); have e4 := (own4 hkH.out).1 (qtz.1 e).2.1; have e5 := wdz.1 e4.2.1; exact ⟨e5.2.1, (by rw [xAz (wAz (qFz.1 e5.1).2.1) (wAz (qFz.1 e5.2.1).2.1)]; exact e5.2.2), e4.2.2⟩)
           | (refine ⟨false, rfl, ⟨fun e => absurd e Bool.false_ne_true, fun e => ?_⟩, hk⟩; exfalso; replace e := ((own4 hkH.out).1 (qtz.1 e).2.1); rw [hfx] at e; cases e.1)
           | fail
         | true =>
          rw [hfx] at c4
          go_wp2_with (first
           | go_skip
           | (with_reducible refine qaz (by kernel_rfl) _ _ rfl B _ rfl _ _ hb _ (by assumption) (by assumption) ?_)
           | (with_reducible refine qpz (by kernel_rfl) 39 _ rfl B _ rfl 35 _ _ hb _ rfl (by rw [hz]; omega) _ underlying39 (by kernel_rfl) xbz ?_)
           | (go_at_call 28; (with_reducible refine (kxz (gtz l2 hk) (h.thd.next hk)).on ?_ ?_) <;> (intro w1 hq hb1; replace hb := hb.next hb1; replace hk := btz hk hb1; clear hb1)))
          all_goals go_ret
          all_goals first
           | (refine qrz (qtz.2 ⟨qSz.2 ⟨q0.out, hqa, hqb, q3.out, .inl hkH.out⟩, (own4 hkH.out).2 ⟨hfx, wdz.2 ⟨q3.out, (Hid.out (by assumption) : (qYz x.th.clear = true ∧ w2z x.label x.th.clear = true ∧ thrB x.th = true)).1, by rw [← xAz (wAz (qFz.1 q3.out).2.1) (wAz (qFz.1 (Hid.out (by assumption) : (qYz x.th.clear = true ∧ w2z x.label x.th.clear = true ∧ thrB x.th = true)).1).2.1)]; exact (Hid.out (by assumption) : (qYz x.th.clear = true ∧ w2z x.label x.th.clear = true ∧ thrB x.th = true)).2.1⟩, (Hid.out (by assumption) : (qYz x.th.clear = true ∧ w2z x.label x.th.clear = true ∧ thrB x.th = true)).2.2⟩, (q8z x).2 q6.out⟩) hk)
           | (refine qkz (Y := (qYz x.th.clear = true ∧ w2z x.label x.th.clear = true ∧ thrB x.th = true)) (by assumption) hk (fun e => ?_); have e4 := (own4 hkH.out).1 (qtz.1 e).2.1; have e5 := wdz.1 e4.2.1; exact ⟨e5.2.1, (by rw [xAz (wAz (qFz.1 e5.1).2.1) (wAz (qFz.1 e5.2.1).2.1)]; exact e5.2.2), e4.2.2⟩)
           | (refine ⟨false, rfl, ⟨fun e => absurd e Bool.false_ne_true, fun e => ?_⟩, hk⟩; exfalso; replace e := ((own4 hkH.out).1 (qtz.1 e).2.1); rw [hfx] at e; cases e.1)
           | fail
        by_cases hk5 : x.kind = 5
        ·have hkd0 := hk5
         replace c1 : C[1]? = some (.int .i64 5) := c1.trans (by rw [hkd0])
         have hkd : x.kind = 5 := hkd0
         have hkH : Hid (x.kind = 5) := hkd
         clear hkd hkd0 hka hkb hk1 hk2 hk3 hk4 hk5
         go_wp2_with (first
          | go_skip
          | (with_reducible refine qaz (by kernel_rfl) _ _ rfl B _ rfl _ _ hb _ (by assumption) (by assumption) ?_)
          | (go_at_call 23; (with_reducible refine (xcz l43 hk).on ?_ ?_) <;> (intro w1 hq hb1; replace hb := hb.next hb1; replace hk := btz hk hb1; clear hb1))
          | (go_at_call 23; (with_reducible refine (xcz l44 hk).on ?_ ?_) <;> (intro w1 hq hb1; replace hb := hb.next hb1; replace hk := btz hk hb1; clear hb1))
          | (go_at_call 29; (with_reducible refine (Asks.of (kzz (l43.lab' hk) (l44.lab' hk))).on ?_ ?_) <;> (intro w1 hq hb1; replace hb := hb.next hb1; replace hk := btz hk hb1; clear hb1))
          | (go_at_call 25; (with_reducible refine (wUz l2 hk hkl).mono ?_); rintro e w1 ⟨ao1, cap1, rfl, hb1⟩; replace hb := hb.next hb1; replace hk := btz hk hb1; clear hb1)
          | ((with_reducible refine qgz (by kernel_rfl) .gtr _ _ _ _ rfl _ _ rfl rfl (qxz _ _ _ _ _ _) ?_ ?_) <;> intro hq))
         all_goals go_ret
         all_goals first
          | (refine qrz (qtz.2 ⟨qSz.2 ⟨q0.out, hqa, hqb, q3.out, .inr (xJz (Hid.out (by assumption)))⟩, (own5 hkH.out).2 (wdz.2 ⟨Hid.out (by assumption), Hid.out (by assumption), by rw [← xAz (wAz (qFz.1 (Hid.out (by assumption) : qYz x.gt.grant = true)).2.1) (wAz (qFz.1 (Hid.out (by assumption) : qYz x.gt.clear = true)).2.1)]; exact Hid.out (by assumption)⟩), (q8z x).2 q6.out⟩) hk)
          | (refine qkz (Y := w2z x.gt.grant x.gt.clear = true) (by assumption) hk (fun e => ?_); have e5 := wdz.1 ((own5 hkH.out).1 (qtz.1 e).2.1); rw [xAz (wAz (qFz.1 e5.1).2.1) (wAz (qFz.1 e5.2.1).2.1)]; exact e5.2.2)
          | (refine qkz (Y := qYz x.gt.clear = true) (by assumption) hk (fun e => (wdz.1 ((own5 hkH.out).1 (qtz.1 e).2.1)).2.1))
          | (refine qkz (Y := qYz x.gt.grant = true) (by assumption) hk (fun e => (wdz.1 ((own5 hkH.out).1 (qtz.1 e).2.1)).1))
          | (have hl : 0 < ((w3z x.label).length : Int) := Hid.out (by assumption); refine ⟨false, rfl, ⟨fun e => absurd e Bool.false_ne_true, fun e => ?_⟩, hk⟩; exact (kBz (by have := hkH.out; omega) hl e).elim)
          | fail
        ·have hkd0 : x.kind = 6 := by omega
         replace c1 : C[1]? = some (.int .i64 6) := c1.trans (by rw [hkd0])
         have hkd : x.kind = 6 := hkd0
         have hkH : Hid (x.kind = 6) := hkd
         clear hkd hkd0 hka hkb hk1 hk2 hk3 hk4 hk5
         go_wp2_with (first
          | go_skip
          | (with_reducible refine qaz (by kernel_rfl) _ _ rfl B _ rfl _ _ hb _ (by assumption) (by assumption) ?_)
          | ((with_reducible refine qgz (by kernel_rfl) .leq _ _ _ _ rfl _ _ rfl rfl (wfz _ _ _ _ _ _) ?_ ?_) <;> intro hq)
          | (go_at_call 25; (with_reducible refine (wUz l2 hk hkl).mono ?_); rintro e w1 ⟨ao1, cap1, rfl, hb1⟩; replace hb := hb.next hb1; replace hk := btz hk hb1; clear hb1)
          | ((with_reducible refine qgz (by kernel_rfl) .gtr _ _ _ _ rfl _ _ rfl rfl (qxz _ _ _ _ _ _) ?_ ?_) <;> intro hq))
         all_goals go_ret
         all_goals first
          | (have h1 : (n49 : Int) ≤ 64 := Hid.out (by assumption); have h2 : (n50 : Int) ≤ 1024 := Hid.out (by assumption); exact qrz (qtz.2 ⟨qSz.2 ⟨q0.out, hqa, hqb, q3.out, .inr (xJz (Hid.out (by assumption)))⟩, (own6 hkH.out).2 ⟨by rw [hn49.out]; omega, by rw [hn50.out]; omega⟩, (q8z x).2 q6.out⟩) hk)
          | (have hl : 1024 < (n50 : Int) := Hid.out (by assumption); refine ⟨false, rfl, ⟨fun e => absurd e Bool.false_ne_true, fun e => ?_⟩, hk⟩; exfalso; replace e := ((own6 hkH.out).1 (qtz.1 e).2.1); have := e.2; rw [hn50.out] at this; omega)
          | (have hl : 64 < (n49 : Int) := Hid.out (by assumption); refine ⟨false, rfl, ⟨fun e => absurd e Bool.false_ne_true, fun e => ?_⟩, hk⟩; exfalso; replace e := ((own6 hkH.out).1 (qtz.1 e).2.1); have := e.1; rw [hn49.out] at this; omega)
          | (have hl : 0 < ((w3z x.label).length : Int) := Hid.out (by assumption); refine ⟨false, rfl, ⟨fun e => absurd e Bool.false_ne_true, fun e => ?_⟩, hk⟩; exact (kBz (by have := hkH.out; omega) hl e).elim)
          | fail
       ·intro w6 q6 hb1; replace hb := hb.next hb1; replace hk := btz hk hb1; clear hb1
        refine qIz [none, none] 33 (a' := { tmps := #[.agg C, pt B 0, .bool false, pt B 0, .int .u64 x.id, .bool true, .bool false, .bool false, pt B 1, .int .i64 x.kind, .bool false, .bool false, .bool false, pt B 1, .int .i64 x.kind, .bool false, .bool false, .bool false, pt B 2, .slice a2 n2 k2, .bool true, .bool false, .bool false, .bool false, pt B 3, .int .i64 x.quota, .bool false, .bool false, .bool false, pt B 3, .int .i64 x.quota, .bool false, .bool false, .bool false, .agg C, .bool false, .bool true, .bool true, ud, ud, ud, ud, ud, ud, ud, ud, ud, ud, ud, ud, ud, ud, ud, ud, ud, ud, ud, ud, ud, ud, ud, ud, ud, ud, ud, ud, ud, ud, ud, ud, ud, ud, ud, ud, ud, ud, ud, ud, ud, ud, ud, ud, ud, ud, ud, ud, ud, ud, ud, ud, ud, ud, ud, ud, ud, ud, ud, ud, ud, ud, ud, ud, ud, ud, ud, ud, ud, ud, ud, ud, ud, ud, ud, ud, ud, ud, ud, ud, ud], defers := [] }) (obs := []) (by kernel_rfl) trivial ?_
        refine qJz (by kernel_rfl) ?_
        go_wp2
        go_ret
        exact qkz q6 hk (fun e => (q8z x).1 (qtz.1 e).2.2)
    ·intro w3 q3 hb1; replace hb := hb.next hb1; replace hk := btz hk hb1; clear hb1
     refine qIz (nl 17) 18 (a' := { tmps := #[.agg C, pt B 0, .bool false, pt B 0, .int .u64 x.id, .bool true, .bool false, .bool false, pt B 1, .int .i64 x.kind, .bool false, .bool false, .bool false, pt B 1, .int .i64 x.kind, .bool false, .bool false, .bool false, pt B 2, .slice a2 n2 k2, .bool false, .bool true, .bool true, .bool true, ud, ud, ud, .bool true, .bool true, ud, ud, ud, .bool true, .bool true, ud, ud, ud, .bool true, ud, ud, ud, ud, ud, ud, ud, ud, ud, ud, ud, ud, ud, ud, ud, ud, ud, ud, ud, ud, ud, ud, ud, ud, ud, ud, ud, ud, ud, ud, ud, ud, ud, ud, ud, ud, ud, ud, ud, ud, ud, ud, ud, ud, ud, ud, ud, ud, ud, ud, ud, ud, ud, ud, ud, ud, ud, ud, ud, ud, ud, ud, ud, ud, ud, ud, ud, ud, ud, ud, ud, ud, ud, ud, ud, ud, ud, ud, ud, ud, ud], defers := [] }) (obs := []) (by kernel_rfl) trivial ?_
     refine qJz (by kernel_rfl) ?_
     go_wp2
     go_ret
     exact qkz q3 hk (fun e => (qSz.1 (qtz.1 e).1).2.2.2.1)
 ·intro w0 q0 hb1; replace hb := hb.next hb1; replace hk := btz hk hb1; clear hb1
  refine qIz (nl 32) 3 (a' := { tmps := #[.agg C, pt B 0, .bool false, pt B 0, .int .u64 x.id, .bool false, .bool true, .bool true, ud, ud, ud, .bool true, .bool true, ud, ud, ud, .bool true, .bool true, ud, ud, ud, ud, .bool true, .bool true, ud, ud, ud, .bool true, .bool true, ud, ud, ud, .bool true, .bool true, ud, ud, ud, .bool true, ud, ud, ud, ud, ud, ud, ud, ud, ud, ud, ud, ud, ud, ud, ud, ud, ud, ud, ud, ud, ud, ud, ud, ud, ud, ud, ud, ud, ud, ud, ud, ud, ud, ud, ud, ud, ud, ud, ud, ud, ud, ud, ud, ud, ud, ud, ud, ud, ud, ud, ud, ud, ud, ud, ud, ud, ud, ud, ud, ud, ud, ud, ud, ud, ud, ud, ud, ud, ud, ud, ud, ud, ud, ud, ud, ud, ud, ud, ud, ud, ud], defers := [] }) (obs := []) (by kernel_rfl) trivial ?_
  refine qJz (by kernel_rfl) ?_
  go_wp2
  go_ret
  exact qkz q0 hk (fun e => (qSz.1 (qtz.1 e).1).1)
def RowC (k : Nat) (D : Nat → Prop) (w : World) (ao : Option Addr) (n cap : Nat) (cs : List Value) : Prop :=
 cs.length = n * k ∧ n ≤ cap ∧ (cap ≤ 9223372036854775807 ∧ (ao = none → cap = 0)) ∧ (0 < n → ∃ b off, ao = some ⟨b, off, none⟩ ∧ D b ∧ w.rangeAt b off cs)
theorem RowC.cells {k : Nat} {D : Nat → Prop} {ad : Addr} {cs : List Value} (h : RowC k D w (some ad) n cap cs) : ∀ j u, cs[j]? = some u → w.cell? (ad.add j) = some u := by
 intro j u hj
 have hl := (List.getElem?_eq_some_iff.1 hj).1
 have hn : 0 < n := by
  rcases Nat.eq_zero_or_pos n with h0 | h0
  ·have := h.1; rw [h0] at this; omega
  ·exact h0
 obtain ⟨b, off, e, _, hr⟩ := h.2.2.2 hn
 cases e
 rw [Addr.add_mid]
 exact hr j u hj
theorem RowC.of_owns {k base : Nat} {e : TypeId} {v : Value} {n : Nat} {cs : List Value} (h : w.ownsRow base e k v n cs) : ∃ ao cap, v = .slice ao n cap ∧ RowC k (fun b => base ≤ b ∧ b < w.heap.size) w ao n cap cs := by
 have hl := h
 rcases h.2 with ⟨rfl, h0⟩ | ⟨g, c, cur, rfl, hb, hg, hkc, hcm, hcs, htk⟩
 ·subst h0
  exact ⟨none, 0, rfl, h.1, lrz _, ⟨by omega, fun _ => rfl⟩, fun hn => absurd hn (by omega)⟩
 ·refine ⟨some ⟨g, 0, none⟩, c, rfl, h.1, hkc, ⟨by unfold maxLen at hcm; omega, fun e => by cases e⟩, fun hn => ⟨g, 0, rfl, ⟨hb, (Array.getElem?_eq_some_iff.1 hg).1⟩, fun j u hj => ?_⟩⟩
  have := hl.cells (g := g) rfl j u hj
  rw [Addr.add_mid] at this
  exact this
section
variable {D : Nat → Prop} {w : World} {ao : Option Addr} {n cap : Nat}
theorem x2z (L : Lb) : (cellsOf L).length = L.length * 2 := by
 induction L with
 | nil => rfl
 | cons p r ih => simp [cellsOf, ih]; omega
theorem vuz {L : Lb} : ∀ {i : Nat}, i < L.length → (cellsOf L)[i * 2]? = some (.int .u64 (L.getD i (0, 0)).1) ∧ (cellsOf L)[i * 2 + 1]? = some (.int .i64 (L.getD i (0, 0)).2) := by
 induction L with
 | nil => intro i hi; simp at hi
 | cons p r ih =>
  intro i hi
  cases i with
  | zero => exact ⟨rfl, rfl⟩
  | succ i =>
   have := ih (i := i) (by simpa using hi)
   rw [show (i + 1) * 2 = i * 2 + 1 + 1 by omega]
   exact ⟨this.1, this.2⟩
theorem LabD.row {L : Lb} (h : LabD D w ao n cap L) : RowC 2 D w ao n cap (cellsOf L) := by
 refine ⟨by rw [x2z, h.1], h.2.1, h.2.2.1, fun hn => ?_⟩
 obtain ⟨b, off, e, hb, hc⟩ := h.2.2.2 hn
 refine ⟨b, off, e, hb, fun j u hj => ?_⟩
 have hl : j < L.length * 2 := by rw [← x2z]; exact (List.getElem?_eq_some_iff.1 hj).1
 have hi : j / 2 < L.length := by omega
 have c := vuz hi
 have q := hc (j / 2) (by rw [← h.1]; exact hi)
 rcases Nat.mod_two_eq_zero_or_one j with h0 | h1
 ·rw [show j / 2 * 2 = j by omega] at c q
  rw [hj] at c
  cases c.1
  exact q.1
 ·have e1 : j / 2 * 2 + 1 = j := by omega
  have q2 := q.2
  rw [show off + j / 2 * 2 + 1 = off + j by omega] at q2
  rw [e1, hj] at c
  cases c.2
  exact q2
theorem RowC.lab {L : Lb} (h : RowC 2 D w ao n cap (cellsOf L)) : LabD D w ao n cap L := by
 have hl := h.1
 rw [x2z] at hl
 refine ⟨by omega, h.2.1, h.2.2.1, fun hn => ?_⟩
 obtain ⟨b, off, e, hb, hc⟩ := h.2.2.2 hn
 refine ⟨b, off, e, hb, fun i hi => ?_⟩
 have c := vuz (L := L) (i := i) (by omega)
 exact ⟨hc _ _ c.1, hc _ _ c.2⟩
def qNz (L : List Int) : List Value := L.map (Value.int .u64)
theorem CtD.row {L : List Int} (h : CtD D w ao n cap L) : RowC 1 D w ao n cap (qNz L) := by
 refine ⟨by simp [qNz, h.1], h.2.1, h.2.2.1, fun hn => ?_⟩
 obtain ⟨b, off, e, hb, hc⟩ := h.2.2.2 hn
 refine ⟨b, off, e, hb, fun j u hj => ?_⟩
 have hl : j < L.length := by have := (List.getElem?_eq_some_iff.1 hj).1; simpa [qNz] using this
 rw [hc j (by rw [← h.1]; exact hl), ← hj]
 simp [qNz, List.getD_eq_getElem?_getD, List.getElem?_eq_getElem hl]
theorem RowC.ct {L : List Int} (h : RowC 1 D w ao n cap (qNz L)) : CtD D w ao n cap L := by
 have hl := h.1
 simp [qNz] at hl
 refine ⟨hl, h.2.1, h.2.2.1, fun hn => ?_⟩
 obtain ⟨b, off, e, hb, hc⟩ := h.2.2.2 hn
 refine ⟨b, off, e, hb, fun i hi => hc i _ ?_⟩
 have hi' : i < L.length := by omega
 simp [qNz, List.getD_eq_getElem?_getD, List.getElem?_eq_getElem hi']
theorem MpD.row {L : List PgM.Pg.Mp} (h : MpD D w ao n cap L) : RowC 6 D w ao n cap (PgM.mpC L) := by
 refine ⟨by rw [PgM.mpC_len, h.1], h.2.1, h.2.2.1, fun hn => ?_⟩
 obtain ⟨b, off, e, hb, hc⟩ := h.2.2.2 hn
 refine ⟨b, off, e, hb, fun j u hj => ?_⟩
 obtain ⟨h1, h2⟩ := PgM.mpC_back hj
 have := hc (j / 6) (by rw [← h.1]; exact h1) (j % 6) u h2
 rwa [show off + j / 6 * 6 + j % 6 = off + j by omega] at this
theorem RowC.mp {L : List PgM.Pg.Mp} (h : RowC 6 D w ao n cap (PgM.mpC L)) : MpD D w ao n cap L := by
 have hl := h.1
 rw [PgM.mpC_len] at hl
 refine ⟨by omega, h.2.1, h.2.2.1, fun hn => ?_⟩
 obtain ⟨b, off, e, hb, hc⟩ := h.2.2.2 hn
 refine ⟨b, off, e, hb, fun i hi j v hv => ?_⟩
 have := hc (i * 6 + j) v (PgM.mpC_at (by omega) hv)
 rwa [show off + (i * 6 + j) = off + i * 6 + j by omega] at this
end
section
variable {ops : Array Oper} {rest : List Oper} {o : Oper} {a : Act} {Q : Exit → Act → World → Prop} {w : World}
theorem qwz {t e : TypeId} {z : Value} {k by_ : Nat} (hinfo : (prog.info? e).map (fun i => (i.zero, i.size, i.bytes)) = some (some z, k, by_)) (ht : prog.underlying t = some (.slice e)) (hzs : z.cells.size = k) (hk : 0 < k) (hgd : o.guard = none) (s x : Operand) (ho : o.op = .call { callee := .builtin .append, args := #[s, x], argTypes := #[t, t] })
  (base : Nat) (v : Value) (m : Nat) (cs' : List Value) (hs : a.eval s = v) (hown : w.ownsRow base e k v m cs') (D : Nat → Prop) (ao : Option Addr) (n cap : Nat) (cs : List Value) (hx : a.eval x = .slice ao n cap) (hL : RowC k D w ao n cap cs) (h1 : ∀ u ∈ cs, u.oneCell' = true) (h63 : m + n ≤ maxLen) (hby : (m + n) * by_ ≤ 140737488355328) (hbase : base ≤ w.heap.size)
  (h : ∀ v' w', w'.ownsRow base e k v' (m + n) (cs' ++ cs) → w.grownBy w' v.ownBlock → wpList prog ops Q rest (a.put o.dst v') w') : wpList prog ops Q (o :: rest) a w := by
 obtain ⟨i0, hi, hz0, hz1, hz2⟩ := info_parts hinfo
 cases ao with
 | none =>
  have h0 := hL.2.2.1.2 rfl
  have hn0 : n = 0 := by have := hL.2.1; omega
  subst hn0
  have hl : cs = [] := List.eq_nil_of_length_eq_zero (by have := hL.1; omega)
  subst hl
  subst h0
  refine wpList_append_own_none hgd s x t ho base e i0 k ht hi v _ _ hs hown hx ?_
  exact h v w (by simpa using hown) (PgM.grownBy_refl _ _)
 | some ad =>
  refine wpList_append_own w hgd s x t ho base e i0 z k by_ ht hi hz0 hz1 hz2 hzs hk v _ _ hs hown ad n cap cs hx hL.1 hL.cells h1 h63 hby hbase ?_
  intro v' w' h2 h3 _
  exact h v' w' h2 h3
end
theorem ubz : (prog.info? 22).map (fun i => (i.zero, i.size, i.bytes)) = some (some (.int .u64 0), 1, 8) := by kernel_rfl
theorem infoP : (prog.info? 88).map (fun i => (i.zero, i.size, i.bytes)) = some (some (.agg #[.int .u64 0, .int .i64 0]), 2, 16) := by kernel_rfl
theorem infoM : (prog.info? 91).map (fun i => (i.zero, i.size, i.bytes)) = some (some (.agg #[.int .i64 0, .int .i64 0, .int .u64 0, .int .u64 0, .int .i64 0, .bool false]), 6, 48) := by kernel_rfl
theorem uoz (L : Lb) : ∀ u ∈ cellsOf L, u.oneCell' = true := by
 induction L with
 | nil => intro u hu; cases hu
 | cons p r ih =>
  intro u hu
  simp [cellsOf] at hu
  rcases hu with rfl | rfl | hu
  ·rfl
  ·rfl
  ·exact ih u hu
theorem yPz (L : List Int) : ∀ u ∈ qNz L, u.oneCell' = true := by
 intro u hu
 simp [qNz] at hu
 obtain ⟨x, _, rfl⟩ := hu
 rfl
abbrev New (w w' : World) : Nat → Prop := fun b => w.heap.size ≤ b ∧ b < w'.heap.size
theorem xBz {w w' : World} (h : w.grownBy w' (Value.ownBlock (.slice none 0 0))) : Below w.heap.size w w' := (brz _ _).grown h (lrz _) (fun j e => by have e' : none = some j := e; cases e')
variable {ao : Option Addr} {n cap : Nat} {w0 w : World}
theorem kbz {L : Lb} (h : LabD (LtN w0) w0 ao n cap L) (hk : Below w0.heap.size w0 w) (hn : n < 8796093022208) :
  Calls prog 130 #[.slice ao n cap] w fun e w' => ∃ ao1 cap1, e = .returned (.slice ao1 n cap1) ∧ LabD (New w w') w' ao1 n cap1 L ∧ Below w.heap.size w w' := by
 have hL := (gtz h hk).row
 go_enter func130, ntmps130
 go_wp2_with (at_builtin; refine qwz infoP underlying27 rfl (by omega) rfl _ _ rfl w.heap.size _ 0 [] rfl (World.ownsRow_nil _ _ _ _) _ _ _ _ (cellsOf L) rfl hL (uoz L) (by unfold maxLen; omega) (by omega) (lrz _) ?_; intro v' w1 hown hgrow)
 go_ret
 rw [Nat.zero_add, List.nil_append] at hown
 obtain ⟨ao1, cap1, rfl, hr⟩ := RowC.of_owns hown
 exact ⟨ao1, cap1, rfl, hr.lab, xBz hgrow⟩
variable {L : List Int}
theorem gOz {w : World} {base : Nat} (h : w.ownsRow base 22 1 (.slice ao n cap) n (qNz L)) : CtD (fun b => base ≤ b ∧ b < w.heap.size) w ao n cap L := by
 obtain ⟨a, c, e, hr⟩ := RowC.of_owns h
 cases e
 exact hr.ct
theorem xTz {w w' : World} {base k n : Nat} {e : TypeId} {v : Value} {cs : List Value} (h : w.ownsRow base e k v n cs) (hk : ∀ b, base ≤ b → b < w.heap.size → w'.heap[b]? = w.heap[b]?) : w'.ownsRow base e k v n cs := by
 refine ⟨h.1, ?_⟩
 rcases h.2 with h0 | ⟨g, c, cur, e1, hb, hg, hr⟩
 ·exact .inl h0
 ·exact .inr ⟨g, c, cur, e1, hb, (hk g hb (Array.getElem?_eq_some_iff.1 hg).1).trans hg, hr⟩
theorem vrz (h : CtD (LtN w0) w0 ao n cap L) (hk : Below w0.heap.size w0 w) (hn : n < 4294967296) :
  Calls prog 131 #[.slice ao n cap] w fun e w' => ∃ ao1 cap1, e = .returned (.slice ao1 n cap1) ∧ w'.ownsRow w.heap.size 22 1 (.slice ao1 n cap1) n (qNz L) ∧ Below w.heap.size w w' := by
 have hL := (h.ct' hk).row
 go_enter func131, ntmps131
 go_wp2_with (at_builtin; refine qwz ubz underlying28 rfl (by omega) rfl _ _ rfl w.heap.size _ 0 [] rfl (World.ownsRow_nil _ _ _ _) _ _ _ _ (qNz L) rfl hL (yPz L) (by unfold maxLen; omega) (by omega) (lrz _) ?_; intro v' w1 hown hgrow)
 go_ret
 rw [Nat.zero_add, List.nil_append] at hown
 obtain ⟨ao1, cap1, rfl, hr⟩ := RowC.of_owns hown
 exact ⟨ao1, cap1, rfl, hown, xBz hgrow⟩
theorem copyU (h : CtD (LtN w0) w0 ao n cap L) (hk : Below w0.heap.size w0 w) (hn : n < 4294967296) :
  Calls prog 131 #[.slice ao n cap] w fun e w' => ∃ ao1 cap1, e = .returned (.slice ao1 n cap1) ∧ CtD (New w w') w' ao1 n cap1 L ∧ Below w.heap.size w w' :=
 (vrz h hk hn).mono fun e w' ⟨ao1, cap1, he, ho, hb⟩ => ⟨ao1, cap1, he, gOz ho, hb⟩
theorem copyM {L : List PgM.Pg.Mp} (h : MpD (LtN w0) w0 ao n cap L) (hk : Below w0.heap.size w0 w) (hn : n < 4294967296) :
  Calls prog 132 #[.slice ao n cap] w fun e w' => ∃ ao1 cap1, e = .returned (.slice ao1 n cap1) ∧ MpD (New w w') w' ao1 n cap1 L ∧ Below w.heap.size w w' := by
 have hL := MpD.row (MpD.mp' h hk)
 go_enter func132, ntmps132
 go_wp2_with (at_builtin; refine qwz infoM underlying29 rfl (by omega) rfl _ _ rfl w.heap.size _ 0 [] rfl (World.ownsRow_nil _ _ _ _) _ _ _ _ (PgM.mpC L) rfl hL (PgM.mpC_one L) (by unfold maxLen; omega) (by omega) (lrz _) ?_; intro v' w1 hown hgrow)
 go_ret
 rw [Nat.zero_add, List.nil_append] at hown
 obtain ⟨ao1, cap1, rfl, hr⟩ := RowC.of_owns hown
 exact ⟨ao1, cap1, rfl, hr.mp, xBz hgrow⟩
theorem size34 : (prog.info? 37).map (·.size) = some 4 := by kernel_rfl
variable {C : Array Value}
theorem ext4 {o : Nat} {a b c d : Value} (h0 : C[o]? = some a) (h1 : C[o + 1]? = some b) (h2 : C[o + 2]? = some c) (h3 : C[o + 3]? = some d) : C.extract o (o + 4) = #[a, b, c, d] := by
 have hs : o + 3 < C.size := (Array.getElem?_eq_some_iff.1 h3).1
 apply Array.ext_getElem?
 intro i
 rcases i with _ | _ | _ | _ | i
 ·rw [wpz (n := 4) (by omega) (by omega)]; exact h0
 ·rw [wpz (n := 4) (by omega) (by omega)]; exact h1
 ·rw [wpz (n := 4) (by omega) (by omega)]; exact h2
 ·rw [wpz (n := 4) (by omega) (by omega)]; exact h3
 ·rw [Array.getElem?_extract, if_neg (by omega)]; simp
theorem ix_0 (a b c d : Value) (w : World) : (Instr.index 37 (.agg #[a, b, c, d]) (.int .i64 0)).run prog w = .ok a w := by kernel_rfl
theorem ix_1 (a b c d : Value) (w : World) : (Instr.index 37 (.agg #[a, b, c, d]) (.int .i64 1)).run prog w = .ok b w := by kernel_rfl
theorem ix_2 (a b c d : Value) (w : World) : (Instr.index 37 (.agg #[a, b, c, d]) (.int .i64 2)).run prog w = .ok c w := by kernel_rfl
theorem ix_3 (a b c d : Value) (w : World) : (Instr.index 37 (.agg #[a, b, c, d]) (.int .i64 3)).run prog w = .ok d w := by kernel_rfl
def Cel (D : Nat → Prop) (w : World) (C : Array Value) (x : Ob) (j : Nat) : Prop :=
 match j with
 | 2 => LbV D w C[2]? x.label
 | 5 => CtV D w C[5]? x.links
 | 6 => CtV D w C[6]? x.data
 | 7 => MpV D w C[7]? x.maps
 | 25 => LbV D w C[25]? x.th.clear
 | 36 => CtV D w C[36]? x.th.alerts
 | 39 => LbV D w C[39]? x.th.l0
 | 40 => LbV D w C[40]? x.th.l1
 | 41 => LbV D w C[41]? x.th.l2
 | 42 => LbV D w C[42]? x.th.l3
 | 43 => LbV D w C[43]? x.gt.grant
 | 44 => LbV D w C[44]? x.gt.clear
 | 49 => CtV D w C[49]? x.inn
 | 50 => CtV D w C[50]? x.out
 | _ => True
theorem Cel.laterK {D : Nat → Prop} {w w' : World} {x : Ob} {j : Nat} (h : Cel D w C x j) (k : ∀ b, D b → w'.heap[b]? = w.heap[b]?) : Cel D w' C x j := by
 unfold Cel at h ⊢
 split at h <;> first | exact LbV.laterK h k | exact CtV.laterK h k | exact MpV.laterK h k | trivial
theorem Cel.wide {D D' : Nat → Prop} {w : World} {x : Ob} {j : Nat} (h : Cel D w C x j) (k : ∀ b, D b → D' b) : Cel D' w C x j := by
 unfold Cel at h ⊢
 split at h <;> first | exact LbV.wide h k | exact CtV.wide h k | exact MpV.wide h k | trivial
theorem Cel.congr {D : Nat → Prop} {w : World} {C C' : Array Value} {x : Ob} {j : Nat} (h : Cel D w C x j) (e : C'[j]? = C[j]?) : Cel D w C' x j := by
 unfold Cel at h ⊢
 split at h <;> first | (rw [e]; exact h) | trivial
structure Small (x : Ob) : Prop where
 c2 : x.label.length < 4294967296
 c5 : x.links.length < 4294967296
 c6 : x.data.length < 4294967296
 c7 : x.maps.length < 4294967296
 c25 : x.th.clear.length < 8796093022208
 c36 : x.th.alerts.length < 4294967296
 c39 : x.th.l0.length < 8796093022208
 c40 : x.th.l1.length < 8796093022208
 c41 : x.th.l2.length < 8796093022208
 c42 : x.th.l3.length < 8796093022208
 c43 : x.gt.grant.length < 8796093022208
 c44 : x.gt.clear.length < 8796093022208
 c49 : x.inn.length < 4294967296
 c50 : x.out.length < 4294967296
structure Cp (N : Nat) (w W : World) (B : Nat) (C : Array Value) (x : Ob) (Dn : Nat → Prop) : Prop where
 bx : Bx W B C x
 dn : ∀ j, Dn j → Cel (fun b => (N ≤ b ∧ b < W.heap.size) ∧ b ≠ B) W C x j
 be : Below w.heap.size w W
 le : w.heap.size ≤ B
 nl : N ≤ W.heap.size
 nw : w.heap.size ≤ N
section
variable {N : Nat} {w W W1 W2 : World} {B : Nat} {C : Array Value} {x : Ob} {Dn : Nat → Prop}
theorem Cp.next (h : Cp N w W B C x Dn) (k : Below W.heap.size W W1) : Cp N w W1 B C x Dn :=
 ⟨h.bx.next k, fun j hj => ((h.dn j hj).laterK fun b hb => k.block b hb.1.2).wide fun b hb => ⟨⟨hb.1.1, ltz hb.1.2 k.size⟩, hb.2⟩, h.be.trans (k.mono h.be.size), h.le, Nat.le_trans h.nl k.size, h.nw⟩
theorem Cp.st2 (h : Cp N w W B C x Dn) (k : Below W.heap.size W W1) {a : Option Addr} {n c : Nat} (l : LabD (New W W1) W1 a n c x.label) (o : Oth B W1 W2) (b : Blk W2 B (C.setIfInBounds 2 (.slice a n c)) 43) : Cp N w W2 B (C.setIfInBounds 2 (.slice a n c)) x (fun j => Dn j ∨ j = 2) := by
 have h1 := h.next k
 have hlt := h.bx.blk.lt
 have lz : LbV (Ex B W1) W1 (some (.slice a n c)) x.label := ⟨a, n, c, rfl, LabD.wide l fun b hb => ⟨hb.2, by have := hb.1; omega⟩⟩
 refine ⟨⟨b, ?_⟩, ?_, o.below _ _ h.le h1.be, h.le, by rw [o.size]; exact h1.nl, h.nw⟩
 ·exact ((h1.bx.ob.set2 lz rfl).laterK fun b hb => o.block b hb.2).wide fun b hb => ⟨by rw [o.size]; exact hb.1, hb.2⟩
 ·intro j hj
  by_cases e : j = 2
  ·subst e
   have q : (C.setIfInBounds 2 (Value.slice a n c))[2]? = some (.slice a n c) := by rw [qHz (by rw [h.bx.ob.size]; omega), if_pos rfl]
   show LbV _ _ ((C.setIfInBounds 2 (Value.slice a n c))[2]?) x.label
   rw [q]
   exact ⟨a, n, c, rfl, LabD.wide (LabD.laterK l fun b hb => o.block b (by have := hb.1; omega)) fun b hb => ⟨⟨Nat.le_trans h.nl hb.1, by rw [o.size]; exact hb.2⟩, by have := hb.1; omega⟩⟩
  ·have hj' := hj.resolve_right e
   refine ((Cel.congr (h1.dn j hj') ?_).laterK fun b hb => o.block b hb.2).wide fun b hb => ⟨⟨hb.1.1, by rw [o.size]; exact hb.1.2⟩, hb.2⟩
   rw [qHz (by rw [h.bx.ob.size]; omega), if_neg (fun q => e q.symm)]
theorem Cp.st5 (h : Cp N w W B C x Dn) (k : Below W.heap.size W W1) {a : Option Addr} {n c : Nat} (l : CtD (New W W1) W1 a n c x.links) (o : Oth B W1 W2) (b : Blk W2 B (C.setIfInBounds 5 (.slice a n c)) 43) : Cp N w W2 B (C.setIfInBounds 5 (.slice a n c)) x (fun j => Dn j ∨ j = 5) := by
 have h1 := h.next k
 have hlt := h.bx.blk.lt
 have lz : CtV (Ex B W1) W1 (some (.slice a n c)) x.links := ⟨a, n, c, rfl, CtD.wide l fun b hb => ⟨hb.2, by have := hb.1; omega⟩⟩
 refine ⟨⟨b, ?_⟩, ?_, o.below _ _ h.le h1.be, h.le, by rw [o.size]; exact h1.nl, h.nw⟩
 ·exact ((h1.bx.ob.set5 lz rfl).laterK fun b hb => o.block b hb.2).wide fun b hb => ⟨by rw [o.size]; exact hb.1, hb.2⟩
 ·intro j hj
  by_cases e : j = 5
  ·subst e
   have q : (C.setIfInBounds 5 (Value.slice a n c))[5]? = some (.slice a n c) := by rw [qHz (by rw [h.bx.ob.size]; omega), if_pos rfl]
   show CtV _ _ ((C.setIfInBounds 5 (Value.slice a n c))[5]?) x.links
   rw [q]
   exact ⟨a, n, c, rfl, CtD.wide (CtD.laterK l fun b hb => o.block b (by have := hb.1; omega)) fun b hb => ⟨⟨Nat.le_trans h.nl hb.1, by rw [o.size]; exact hb.2⟩, by have := hb.1; omega⟩⟩
  ·have hj' := hj.resolve_right e
   refine ((Cel.congr (h1.dn j hj') ?_).laterK fun b hb => o.block b hb.2).wide fun b hb => ⟨⟨hb.1.1, by rw [o.size]; exact hb.1.2⟩, hb.2⟩
   rw [qHz (by rw [h.bx.ob.size]; omega), if_neg (fun q => e q.symm)]
theorem Cp.st6 (h : Cp N w W B C x Dn) (k : Below W.heap.size W W1) {a : Option Addr} {n c : Nat} (l : CtD (New W W1) W1 a n c x.data) (o : Oth B W1 W2) (b : Blk W2 B (C.setIfInBounds 6 (.slice a n c)) 43) : Cp N w W2 B (C.setIfInBounds 6 (.slice a n c)) x (fun j => Dn j ∨ j = 6) := by
 have h1 := h.next k
 have hlt := h.bx.blk.lt
 have lz : CtV (Ex B W1) W1 (some (.slice a n c)) x.data := ⟨a, n, c, rfl, CtD.wide l fun b hb => ⟨hb.2, by have := hb.1; omega⟩⟩
 refine ⟨⟨b, ?_⟩, ?_, o.below _ _ h.le h1.be, h.le, by rw [o.size]; exact h1.nl, h.nw⟩
 ·exact ((h1.bx.ob.set6 lz rfl).laterK fun b hb => o.block b hb.2).wide fun b hb => ⟨by rw [o.size]; exact hb.1, hb.2⟩
 ·intro j hj
  by_cases e : j = 6
  ·subst e
   have q : (C.setIfInBounds 6 (Value.slice a n c))[6]? = some (.slice a n c) := by rw [qHz (by rw [h.bx.ob.size]; omega), if_pos rfl]
   show CtV _ _ ((C.setIfInBounds 6 (Value.slice a n c))[6]?) x.data
   rw [q]
   exact ⟨a, n, c, rfl, CtD.wide (CtD.laterK l fun b hb => o.block b (by have := hb.1; omega)) fun b hb => ⟨⟨Nat.le_trans h.nl hb.1, by rw [o.size]; exact hb.2⟩, by have := hb.1; omega⟩⟩
  ·have hj' := hj.resolve_right e
   refine ((Cel.congr (h1.dn j hj') ?_).laterK fun b hb => o.block b hb.2).wide fun b hb => ⟨⟨hb.1.1, by rw [o.size]; exact hb.1.2⟩, hb.2⟩
   rw [qHz (by rw [h.bx.ob.size]; omega), if_neg (fun q => e q.symm)]
theorem Cp.st7 (h : Cp N w W B C x Dn) (k : Below W.heap.size W W1) {a : Option Addr} {n c : Nat} (l : MpD (New W W1) W1 a n c x.maps) (o : Oth B W1 W2) (b : Blk W2 B (C.setIfInBounds 7 (.slice a n c)) 43) : Cp N w W2 B (C.setIfInBounds 7 (.slice a n c)) x (fun j => Dn j ∨ j = 7) := by
 have h1 := h.next k
 have hlt := h.bx.blk.lt
 have lz : MpV (Ex B W1) W1 (some (.slice a n c)) x.maps := ⟨a, n, c, rfl, PgM.MpsD.wide l fun b hb => ⟨hb.2, by have := hb.1; omega⟩⟩
 refine ⟨⟨b, ?_⟩, ?_, o.below _ _ h.le h1.be, h.le, by rw [o.size]; exact h1.nl, h.nw⟩
 ·exact ((h1.bx.ob.set7 lz rfl).laterK fun b hb => o.block b hb.2).wide fun b hb => ⟨by rw [o.size]; exact hb.1, hb.2⟩
 ·intro j hj
  by_cases e : j = 7
  ·subst e
   have q : (C.setIfInBounds 7 (Value.slice a n c))[7]? = some (.slice a n c) := by rw [qHz (by rw [h.bx.ob.size]; omega), if_pos rfl]
   show MpV _ _ ((C.setIfInBounds 7 (Value.slice a n c))[7]?) x.maps
   rw [q]
   exact ⟨a, n, c, rfl, PgM.MpsD.wide (PgM.MpsD.laterK l fun b hb => o.block b (by have := hb.1; omega)) fun b hb => ⟨⟨Nat.le_trans h.nl hb.1, by rw [o.size]; exact hb.2⟩, by have := hb.1; omega⟩⟩
  ·have hj' := hj.resolve_right e
   refine ((Cel.congr (h1.dn j hj') ?_).laterK fun b hb => o.block b hb.2).wide fun b hb => ⟨⟨hb.1.1, by rw [o.size]; exact hb.1.2⟩, hb.2⟩
   rw [qHz (by rw [h.bx.ob.size]; omega), if_neg (fun q => e q.symm)]
theorem Cp.st25 (h : Cp N w W B C x Dn) (k : Below W.heap.size W W1) {a : Option Addr} {n c : Nat} (l : LabD (New W W1) W1 a n c x.th.clear) (o : Oth B W1 W2) (b : Blk W2 B (C.setIfInBounds 25 (.slice a n c)) 43) : Cp N w W2 B (C.setIfInBounds 25 (.slice a n c)) x (fun j => Dn j ∨ j = 25) := by
 have h1 := h.next k
 have hlt := h.bx.blk.lt
 have lz : LbV (Ex B W1) W1 (some (.slice a n c)) x.th.clear := ⟨a, n, c, rfl, LabD.wide l fun b hb => ⟨hb.2, by have := hb.1; omega⟩⟩
 refine ⟨⟨b, ?_⟩, ?_, o.below _ _ h.le h1.be, h.le, by rw [o.size]; exact h1.nl, h.nw⟩
 ·exact ((h1.bx.ob.set25 lz rfl).laterK fun b hb => o.block b hb.2).wide fun b hb => ⟨by rw [o.size]; exact hb.1, hb.2⟩
 ·intro j hj
  by_cases e : j = 25
  ·subst e
   have q : (C.setIfInBounds 25 (Value.slice a n c))[25]? = some (.slice a n c) := by rw [qHz (by rw [h.bx.ob.size]; omega), if_pos rfl]
   show LbV _ _ ((C.setIfInBounds 25 (Value.slice a n c))[25]?) x.th.clear
   rw [q]
   exact ⟨a, n, c, rfl, LabD.wide (LabD.laterK l fun b hb => o.block b (by have := hb.1; omega)) fun b hb => ⟨⟨Nat.le_trans h.nl hb.1, by rw [o.size]; exact hb.2⟩, by have := hb.1; omega⟩⟩
  ·have hj' := hj.resolve_right e
   refine ((Cel.congr (h1.dn j hj') ?_).laterK fun b hb => o.block b hb.2).wide fun b hb => ⟨⟨hb.1.1, by rw [o.size]; exact hb.1.2⟩, hb.2⟩
   rw [qHz (by rw [h.bx.ob.size]; omega), if_neg (fun q => e q.symm)]
theorem Cp.st36 (h : Cp N w W B C x Dn) (k : Below W.heap.size W W1) {a : Option Addr} {n c : Nat} (l : CtD (New W W1) W1 a n c x.th.alerts) (o : Oth B W1 W2) (b : Blk W2 B (C.setIfInBounds 36 (.slice a n c)) 43) : Cp N w W2 B (C.setIfInBounds 36 (.slice a n c)) x (fun j => Dn j ∨ j = 36) := by
 have h1 := h.next k
 have hlt := h.bx.blk.lt
 have lz : CtV (Ex B W1) W1 (some (.slice a n c)) x.th.alerts := ⟨a, n, c, rfl, CtD.wide l fun b hb => ⟨hb.2, by have := hb.1; omega⟩⟩
 refine ⟨⟨b, ?_⟩, ?_, o.below _ _ h.le h1.be, h.le, by rw [o.size]; exact h1.nl, h.nw⟩
 ·exact ((h1.bx.ob.set36 lz rfl).laterK fun b hb => o.block b hb.2).wide fun b hb => ⟨by rw [o.size]; exact hb.1, hb.2⟩
 ·intro j hj
  by_cases e : j = 36
  ·subst e
   have q : (C.setIfInBounds 36 (Value.slice a n c))[36]? = some (.slice a n c) := by rw [qHz (by rw [h.bx.ob.size]; omega), if_pos rfl]
   show CtV _ _ ((C.setIfInBounds 36 (Value.slice a n c))[36]?) x.th.alerts
   rw [q]
   exact ⟨a, n, c, rfl, CtD.wide (CtD.laterK l fun b hb => o.block b (by have := hb.1; omega)) fun b hb => ⟨⟨Nat.le_trans h.nl hb.1, by rw [o.size]; exact hb.2⟩, by have := hb.1; omega⟩⟩
  ·have hj' := hj.resolve_right e
   refine ((Cel.congr (h1.dn j hj') ?_).laterK fun b hb => o.block b hb.2).wide fun b hb => ⟨⟨hb.1.1, by rw [o.size]; exact hb.1.2⟩, hb.2⟩
   rw [qHz (by rw [h.bx.ob.size]; omega), if_neg (fun q => e q.symm)]
theorem Cp.st39 (h : Cp N w W B C x Dn) (k : Below W.heap.size W W1) {a : Option Addr} {n c : Nat} (l : LabD (New W W1) W1 a n c x.th.l0) (o : Oth B W1 W2) (b : Blk W2 B (C.setIfInBounds 39 (.slice a n c)) 43) : Cp N w W2 B (C.setIfInBounds 39 (.slice a n c)) x (fun j => Dn j ∨ j = 39) := by
 have h1 := h.next k
 have hlt := h.bx.blk.lt
 have lz : LbV (Ex B W1) W1 (some (.slice a n c)) x.th.l0 := ⟨a, n, c, rfl, LabD.wide l fun b hb => ⟨hb.2, by have := hb.1; omega⟩⟩
 refine ⟨⟨b, ?_⟩, ?_, o.below _ _ h.le h1.be, h.le, by rw [o.size]; exact h1.nl, h.nw⟩
 ·exact ((h1.bx.ob.set39 lz rfl).laterK fun b hb => o.block b hb.2).wide fun b hb => ⟨by rw [o.size]; exact hb.1, hb.2⟩
 ·intro j hj
  by_cases e : j = 39
  ·subst e
   have q : (C.setIfInBounds 39 (Value.slice a n c))[39]? = some (.slice a n c) := by rw [qHz (by rw [h.bx.ob.size]; omega), if_pos rfl]
   show LbV _ _ ((C.setIfInBounds 39 (Value.slice a n c))[39]?) x.th.l0
   rw [q]
   exact ⟨a, n, c, rfl, LabD.wide (LabD.laterK l fun b hb => o.block b (by have := hb.1; omega)) fun b hb => ⟨⟨Nat.le_trans h.nl hb.1, by rw [o.size]; exact hb.2⟩, by have := hb.1; omega⟩⟩
  ·have hj' := hj.resolve_right e
   refine ((Cel.congr (h1.dn j hj') ?_).laterK fun b hb => o.block b hb.2).wide fun b hb => ⟨⟨hb.1.1, by rw [o.size]; exact hb.1.2⟩, hb.2⟩
   rw [qHz (by rw [h.bx.ob.size]; omega), if_neg (fun q => e q.symm)]
theorem Cp.st40 (h : Cp N w W B C x Dn) (k : Below W.heap.size W W1) {a : Option Addr} {n c : Nat} (l : LabD (New W W1) W1 a n c x.th.l1) (o : Oth B W1 W2) (b : Blk W2 B (C.setIfInBounds 40 (.slice a n c)) 43) : Cp N w W2 B (C.setIfInBounds 40 (.slice a n c)) x (fun j => Dn j ∨ j = 40) := by
 have h1 := h.next k
 have hlt := h.bx.blk.lt
 have lz : LbV (Ex B W1) W1 (some (.slice a n c)) x.th.l1 := ⟨a, n, c, rfl, LabD.wide l fun b hb => ⟨hb.2, by have := hb.1; omega⟩⟩
 refine ⟨⟨b, ?_⟩, ?_, o.below _ _ h.le h1.be, h.le, by rw [o.size]; exact h1.nl, h.nw⟩
 ·exact ((h1.bx.ob.set40 lz rfl).laterK fun b hb => o.block b hb.2).wide fun b hb => ⟨by rw [o.size]; exact hb.1, hb.2⟩
 ·intro j hj
  by_cases e : j = 40
  ·subst e
   have q : (C.setIfInBounds 40 (Value.slice a n c))[40]? = some (.slice a n c) := by rw [qHz (by rw [h.bx.ob.size]; omega), if_pos rfl]
   show LbV _ _ ((C.setIfInBounds 40 (Value.slice a n c))[40]?) x.th.l1
   rw [q]
   exact ⟨a, n, c, rfl, LabD.wide (LabD.laterK l fun b hb => o.block b (by have := hb.1; omega)) fun b hb => ⟨⟨Nat.le_trans h.nl hb.1, by rw [o.size]; exact hb.2⟩, by have := hb.1; omega⟩⟩
  ·have hj' := hj.resolve_right e
   refine ((Cel.congr (h1.dn j hj') ?_).laterK fun b hb => o.block b hb.2).wide fun b hb => ⟨⟨hb.1.1, by rw [o.size]; exact hb.1.2⟩, hb.2⟩
   rw [qHz (by rw [h.bx.ob.size]; omega), if_neg (fun q => e q.symm)]
theorem Cp.st41 (h : Cp N w W B C x Dn) (k : Below W.heap.size W W1) {a : Option Addr} {n c : Nat} (l : LabD (New W W1) W1 a n c x.th.l2) (o : Oth B W1 W2) (b : Blk W2 B (C.setIfInBounds 41 (.slice a n c)) 43) : Cp N w W2 B (C.setIfInBounds 41 (.slice a n c)) x (fun j => Dn j ∨ j = 41) := by
 have h1 := h.next k
 have hlt := h.bx.blk.lt
 have lz : LbV (Ex B W1) W1 (some (.slice a n c)) x.th.l2 := ⟨a, n, c, rfl, LabD.wide l fun b hb => ⟨hb.2, by have := hb.1; omega⟩⟩
 refine ⟨⟨b, ?_⟩, ?_, o.below _ _ h.le h1.be, h.le, by rw [o.size]; exact h1.nl, h.nw⟩
 ·exact ((h1.bx.ob.set41 lz rfl).laterK fun b hb => o.block b hb.2).wide fun b hb => ⟨by rw [o.size]; exact hb.1, hb.2⟩
 ·intro j hj
  by_cases e : j = 41
  ·subst e
   have q : (C.setIfInBounds 41 (Value.slice a n c))[41]? = some (.slice a n c) := by rw [qHz (by rw [h.bx.ob.size]; omega), if_pos rfl]
   show LbV _ _ ((C.setIfInBounds 41 (Value.slice a n c))[41]?) x.th.l2
   rw [q]
   exact ⟨a, n, c, rfl, LabD.wide (LabD.laterK l fun b hb => o.block b (by have := hb.1; omega)) fun b hb => ⟨⟨Nat.le_trans h.nl hb.1, by rw [o.size]; exact hb.2⟩, by have := hb.1; omega⟩⟩
  ·have hj' := hj.resolve_right e
   refine ((Cel.congr (h1.dn j hj') ?_).laterK fun b hb => o.block b hb.2).wide fun b hb => ⟨⟨hb.1.1, by rw [o.size]; exact hb.1.2⟩, hb.2⟩
   rw [qHz (by rw [h.bx.ob.size]; omega), if_neg (fun q => e q.symm)]
theorem Cp.st42 (h : Cp N w W B C x Dn) (k : Below W.heap.size W W1) {a : Option Addr} {n c : Nat} (l : LabD (New W W1) W1 a n c x.th.l3) (o : Oth B W1 W2) (b : Blk W2 B (C.setIfInBounds 42 (.slice a n c)) 43) : Cp N w W2 B (C.setIfInBounds 42 (.slice a n c)) x (fun j => Dn j ∨ j = 42) := by
 have h1 := h.next k
 have hlt := h.bx.blk.lt
 have lz : LbV (Ex B W1) W1 (some (.slice a n c)) x.th.l3 := ⟨a, n, c, rfl, LabD.wide l fun b hb => ⟨hb.2, by have := hb.1; omega⟩⟩
 refine ⟨⟨b, ?_⟩, ?_, o.below _ _ h.le h1.be, h.le, by rw [o.size]; exact h1.nl, h.nw⟩
 ·exact ((h1.bx.ob.set42 lz rfl).laterK fun b hb => o.block b hb.2).wide fun b hb => ⟨by rw [o.size]; exact hb.1, hb.2⟩
 ·intro j hj
  by_cases e : j = 42
  ·subst e
   have q : (C.setIfInBounds 42 (Value.slice a n c))[42]? = some (.slice a n c) := by rw [qHz (by rw [h.bx.ob.size]; omega), if_pos rfl]
   show LbV _ _ ((C.setIfInBounds 42 (Value.slice a n c))[42]?) x.th.l3
   rw [q]
   exact ⟨a, n, c, rfl, LabD.wide (LabD.laterK l fun b hb => o.block b (by have := hb.1; omega)) fun b hb => ⟨⟨Nat.le_trans h.nl hb.1, by rw [o.size]; exact hb.2⟩, by have := hb.1; omega⟩⟩
  ·have hj' := hj.resolve_right e
   refine ((Cel.congr (h1.dn j hj') ?_).laterK fun b hb => o.block b hb.2).wide fun b hb => ⟨⟨hb.1.1, by rw [o.size]; exact hb.1.2⟩, hb.2⟩
   rw [qHz (by rw [h.bx.ob.size]; omega), if_neg (fun q => e q.symm)]
theorem Cp.st43 (h : Cp N w W B C x Dn) (k : Below W.heap.size W W1) {a : Option Addr} {n c : Nat} (l : LabD (New W W1) W1 a n c x.gt.grant) (o : Oth B W1 W2) (b : Blk W2 B (C.setIfInBounds 43 (.slice a n c)) 43) : Cp N w W2 B (C.setIfInBounds 43 (.slice a n c)) x (fun j => Dn j ∨ j = 43) := by
 have h1 := h.next k
 have hlt := h.bx.blk.lt
 have lz : LbV (Ex B W1) W1 (some (.slice a n c)) x.gt.grant := ⟨a, n, c, rfl, LabD.wide l fun b hb => ⟨hb.2, by have := hb.1; omega⟩⟩
 refine ⟨⟨b, ?_⟩, ?_, o.below _ _ h.le h1.be, h.le, by rw [o.size]; exact h1.nl, h.nw⟩
 ·exact ((h1.bx.ob.set43 lz rfl).laterK fun b hb => o.block b hb.2).wide fun b hb => ⟨by rw [o.size]; exact hb.1, hb.2⟩
 ·intro j hj
  by_cases e : j = 43
  ·subst e
   have q : (C.setIfInBounds 43 (Value.slice a n c))[43]? = some (.slice a n c) := by rw [qHz (by rw [h.bx.ob.size]; omega), if_pos rfl]
   show LbV _ _ ((C.setIfInBounds 43 (Value.slice a n c))[43]?) x.gt.grant
   rw [q]
   exact ⟨a, n, c, rfl, LabD.wide (LabD.laterK l fun b hb => o.block b (by have := hb.1; omega)) fun b hb => ⟨⟨Nat.le_trans h.nl hb.1, by rw [o.size]; exact hb.2⟩, by have := hb.1; omega⟩⟩
  ·have hj' := hj.resolve_right e
   refine ((Cel.congr (h1.dn j hj') ?_).laterK fun b hb => o.block b hb.2).wide fun b hb => ⟨⟨hb.1.1, by rw [o.size]; exact hb.1.2⟩, hb.2⟩
   rw [qHz (by rw [h.bx.ob.size]; omega), if_neg (fun q => e q.symm)]
theorem Cp.st44 (h : Cp N w W B C x Dn) (k : Below W.heap.size W W1) {a : Option Addr} {n c : Nat} (l : LabD (New W W1) W1 a n c x.gt.clear) (o : Oth B W1 W2) (b : Blk W2 B (C.setIfInBounds 44 (.slice a n c)) 43) : Cp N w W2 B (C.setIfInBounds 44 (.slice a n c)) x (fun j => Dn j ∨ j = 44) := by
 have h1 := h.next k
 have hlt := h.bx.blk.lt
 have lz : LbV (Ex B W1) W1 (some (.slice a n c)) x.gt.clear := ⟨a, n, c, rfl, LabD.wide l fun b hb => ⟨hb.2, by have := hb.1; omega⟩⟩
 refine ⟨⟨b, ?_⟩, ?_, o.below _ _ h.le h1.be, h.le, by rw [o.size]; exact h1.nl, h.nw⟩
 ·exact ((h1.bx.ob.set44 lz rfl).laterK fun b hb => o.block b hb.2).wide fun b hb => ⟨by rw [o.size]; exact hb.1, hb.2⟩
 ·intro j hj
  by_cases e : j = 44
  ·subst e
   have q : (C.setIfInBounds 44 (Value.slice a n c))[44]? = some (.slice a n c) := by rw [qHz (by rw [h.bx.ob.size]; omega), if_pos rfl]
   show LbV _ _ ((C.setIfInBounds 44 (Value.slice a n c))[44]?) x.gt.clear
   rw [q]
   exact ⟨a, n, c, rfl, LabD.wide (LabD.laterK l fun b hb => o.block b (by have := hb.1; omega)) fun b hb => ⟨⟨Nat.le_trans h.nl hb.1, by rw [o.size]; exact hb.2⟩, by have := hb.1; omega⟩⟩
  ·have hj' := hj.resolve_right e
   refine ((Cel.congr (h1.dn j hj') ?_).laterK fun b hb => o.block b hb.2).wide fun b hb => ⟨⟨hb.1.1, by rw [o.size]; exact hb.1.2⟩, hb.2⟩
   rw [qHz (by rw [h.bx.ob.size]; omega), if_neg (fun q => e q.symm)]
theorem Cp.st49 (h : Cp N w W B C x Dn) (k : Below W.heap.size W W1) {a : Option Addr} {n c : Nat} (l : CtD (New W W1) W1 a n c x.inn) (o : Oth B W1 W2) (b : Blk W2 B (C.setIfInBounds 49 (.slice a n c)) 43) : Cp N w W2 B (C.setIfInBounds 49 (.slice a n c)) x (fun j => Dn j ∨ j = 49) := by
 have h1 := h.next k
 have hlt := h.bx.blk.lt
 have lz : CtV (Ex B W1) W1 (some (.slice a n c)) x.inn := ⟨a, n, c, rfl, CtD.wide l fun b hb => ⟨hb.2, by have := hb.1; omega⟩⟩
 refine ⟨⟨b, ?_⟩, ?_, o.below _ _ h.le h1.be, h.le, by rw [o.size]; exact h1.nl, h.nw⟩
 ·exact ((h1.bx.ob.set49 lz rfl).laterK fun b hb => o.block b hb.2).wide fun b hb => ⟨by rw [o.size]; exact hb.1, hb.2⟩
 ·intro j hj
  by_cases e : j = 49
  ·subst e
   have q : (C.setIfInBounds 49 (Value.slice a n c))[49]? = some (.slice a n c) := by rw [qHz (by rw [h.bx.ob.size]; omega), if_pos rfl]
   show CtV _ _ ((C.setIfInBounds 49 (Value.slice a n c))[49]?) x.inn
   rw [q]
   exact ⟨a, n, c, rfl, CtD.wide (CtD.laterK l fun b hb => o.block b (by have := hb.1; omega)) fun b hb => ⟨⟨Nat.le_trans h.nl hb.1, by rw [o.size]; exact hb.2⟩, by have := hb.1; omega⟩⟩
  ·have hj' := hj.resolve_right e
   refine ((Cel.congr (h1.dn j hj') ?_).laterK fun b hb => o.block b hb.2).wide fun b hb => ⟨⟨hb.1.1, by rw [o.size]; exact hb.1.2⟩, hb.2⟩
   rw [qHz (by rw [h.bx.ob.size]; omega), if_neg (fun q => e q.symm)]
theorem Cp.st50 (h : Cp N w W B C x Dn) (k : Below W.heap.size W W1) {a : Option Addr} {n c : Nat} (l : CtD (New W W1) W1 a n c x.out) (o : Oth B W1 W2) (b : Blk W2 B (C.setIfInBounds 50 (.slice a n c)) 43) : Cp N w W2 B (C.setIfInBounds 50 (.slice a n c)) x (fun j => Dn j ∨ j = 50) := by
 have h1 := h.next k
 have hlt := h.bx.blk.lt
 have lz : CtV (Ex B W1) W1 (some (.slice a n c)) x.out := ⟨a, n, c, rfl, CtD.wide l fun b hb => ⟨hb.2, by have := hb.1; omega⟩⟩
 refine ⟨⟨b, ?_⟩, ?_, o.below _ _ h.le h1.be, h.le, by rw [o.size]; exact h1.nl, h.nw⟩
 ·exact ((h1.bx.ob.set50 lz rfl).laterK fun b hb => o.block b hb.2).wide fun b hb => ⟨by rw [o.size]; exact hb.1, hb.2⟩
 ·intro j hj
  by_cases e : j = 50
  ·subst e
   have q : (C.setIfInBounds 50 (Value.slice a n c))[50]? = some (.slice a n c) := by rw [qHz (by rw [h.bx.ob.size]; omega), if_pos rfl]
   show CtV _ _ ((C.setIfInBounds 50 (Value.slice a n c))[50]?) x.out
   rw [q]
   exact ⟨a, n, c, rfl, CtD.wide (CtD.laterK l fun b hb => o.block b (by have := hb.1; omega)) fun b hb => ⟨⟨Nat.le_trans h.nl hb.1, by rw [o.size]; exact hb.2⟩, by have := hb.1; omega⟩⟩
  ·have hj' := hj.resolve_right e
   refine ((Cel.congr (h1.dn j hj') ?_).laterK fun b hb => o.block b hb.2).wide fun b hb => ⟨⟨hb.1.1, by rw [o.size]; exact hb.1.2⟩, hb.2⟩
   rw [qHz (by rw [h.bx.ob.size]; omega), if_neg (fun q => e q.symm)]
theorem Cp.all (h : Cp N w W B C x Dn) (hd : ∀ j, j ∈ [2, 5, 6, 7, 25, 36, 39, 40, 41, 42, 43, 44, 49, 50] → Dn j) : ObD (fun b => N ≤ b ∧ b < W.heap.size) W C x := by
 have q : ∀ j, j ∈ [2, 5, 6, 7, 25, 36, 39, 40, 41, 42, 43, 44, 49, 50] → Cel (fun b => N ≤ b ∧ b < W.heap.size) W C x j := fun j hj => (h.dn j (hd j hj)).wide fun b hb => hb.1
 have o := h.bx.ob
 exact ⟨o.size, o.one, o.id, o.kind, q 2 (by decide), o.quota, o.fixed, q 5 (by decide), q 6 (by decide), q 7 (by decide),
  ⟨o.th.rlen, o.th.regs, o.th.pc, q 25 (by decide), o.th.sc, o.th.si, o.th.handler, o.th.vector, o.th.state, o.th.wc, o.th.wi, o.th.wx, o.th.wv, o.th.wd, q 36 (by decide), o.th.lo, o.th.hi, q 39 (by decide), q 40 (by decide), q 41 (by decide), q 42 (by decide)⟩,
  ⟨q 43 (by decide), q 44 (by decide), o.gt.sc, o.gt.si, o.gt.pc, o.gt.arg⟩, q 49 (by decide), q 50 (by decide)⟩
def Ap (N : Nat) (W : World) (B M : Nat) (C : Array Value) (x : Ob) : Prop :=
 LbV (fun b => (N ≤ b ∧ b < M) ∧ b ≠ B) W C[2]? x.label ∧ (∃ ao n cap, C[6]? = some (.slice ao n cap) ∧ W.ownsRow M 22 1 (.slice ao n cap) n (qNz x.data)) ∧ N ≤ M ∧ M ≤ W.heap.size ∧ B < M
theorem Ap.of (h : Cp N w W B C x Dn) (hd : Dn 2) (k : Below W.heap.size W W1) {a : Option Addr} {n c : Nat} (l : W1.ownsRow W.heap.size 22 1 (.slice a n c) n (qNz x.data)) (o : Oth B W1 W2) : Ap N W2 B W.heap.size (C.setIfInBounds 6 (.slice a n c)) x := by
 have hz := h.bx.ob.size
 have hB : B < W.heap.size := h.bx.blk.lt
 refine ⟨?_, ⟨a, n, c, by rw [qHz (by omega), if_pos rfl], xTz l fun b hb _ => o.block b (by omega)⟩, h.nl, by rw [o.size]; exact k.size, hB⟩
 have h2 : LbV (fun b => (N ≤ b ∧ b < W.heap.size) ∧ b ≠ B) W C[2]? x.label := h.dn 2 hd
 rw [qHz (by omega), if_neg (by omega)]
 exact LbV.laterK h2 fun b hb => (o.block b hb.2).trans (k.block b hb.1.2)
theorem Ap.st {M : Nat} (h : Ap N W B M C x) (k : Below W.heap.size W W1) (o : Oth B W1 W2) (hz : C.size = 51) {j : Nat} {v : Value} (hj : j < 51 ∧ j ≠ 2 ∧ j ≠ 6) : Ap N W2 B M (C.setIfInBounds j v) x := by
 obtain ⟨h1, ⟨a, n, c, h2, h6⟩, h3, h4, h5⟩ := h
 refine ⟨?_, ⟨a, n, c, ?_, ?_⟩, h3, Nat.le_trans h4 (by rw [o.size]; exact k.size), h5⟩
 ·rw [qHz (by omega), if_neg (by omega)]
  exact LbV.laterK h1 fun b hb => (o.block b hb.2).trans (k.block b (ltz hb.1.2 h4))
 ·rw [qHz (by omega), if_neg (by omega)]
  exact h2
 ·exact xTz h6 fun b hb hl => (o.block b (by omega)).trans (k.block b hl)
end
variable {C : Array Value} {w : World} {x : Ob}
theorem vsz (h : ObD (LtN w) w C x) (hs : Small x) :
  Calls prog 104 #[.agg C] w fun e w' => ∃ C', e = .returned (.agg C') ∧ ObD (New w w') w' C' x ∧ Below w.heap.size w w' ∧ ∃ M, LbV (fun b => New w w' b ∧ b < M) w' C'[2]? x.label ∧ (∃ ao n cap, C'[6]? = some (.slice ao n cap) ∧ w'.ownsRow M 22 1 (.slice ao n cap) n (qNz x.data)) ∧ w.heap.size ≤ M := by
 have ga0 := isAgg27
 have ga1 := isAgg22
 have ga2 := isAgg3
 have ga3 := isAgg4
 have ga4 := isAgg28
 have ga5 := isAgg29
 go_enter func104, ntmps104
 go_wp2_with (first
  | go_skip
  | (with_reducible refine qcz rfl _ _ rfl C rfl ?_; intro B W hB hb hk)
  | ((with_reducible refine qfz rfl _ rfl zC qzz ?_); intro R W' hB' hR0 hk'; have hne : B ≠ R := (by have := hB'.out.1; have := hb.lt; omega); have hC0 : Cp W'.heap.size w W' B C x (fun _ => False) := ⟨(Bx.of h hB hb hk).next hk', fun j hj => False.elim hj, btz hk hk', (by have := hB.out.1; omega), lrz _, (btz hk hk').size⟩; obtain ⟨a2, n2, k2, c2, l2⟩ := hC0.bx.ob.label; (have e2 : n2 < 8796093022208 := (by have := hs.c2; have := l2.1; omega)))
  | (with_reducible refine qaz (by kernel_rfl) _ _ rfl B 2 rfl _ _ hC0.bx.blk _ c2 ga0 ?_)
  | (go_at_call 130; (with_reducible refine (kbz (LabD.wide l2 fun _ hb => hb.1) (brz _ _) e2).mono ?_); rintro e w2 ⟨b2, m2, rfl, z2, kb2⟩; have bl2 := hC0.bx.blk.next kb2)
  | ((with_reducible refine qiz rfl _ _ _ rfl B 2 rfl (.slice b2 n2 m2) rfl rfl _ _ bl2 x6z (by rw [hC0.bx.ob.size]; omega) rfl ?_); intro W2' bb2 oo2; have hC1 := hC0.st2 kb2 z2 oo2 bb2; have hR1 := (hR0.next kb2).other oo2 hne.symm; obtain ⟨a5, n5, k5, c5, l5⟩ := hC1.bx.ob.links; (have e5 : n5 < 4294967296 := (by have := hs.c5; have := l5.1; omega)))
  | (with_reducible refine qaz (by kernel_rfl) _ _ rfl B 5 rfl _ _ hC1.bx.blk _ c5 ga4 ?_)
  | (go_at_call 131; (with_reducible refine (copyU (CtD.wide l5 fun _ hb => hb.1) (brz _ _) e5).mono ?_); rintro e w5 ⟨b5, m5, rfl, z5, kb5⟩; have bl5 := hC1.bx.blk.next kb5)
  | ((with_reducible refine qiz rfl _ _ _ rfl B 5 rfl (.slice b5 n5 m5) rfl rfl _ _ bl5 wGz (by rw [hC1.bx.ob.size]; omega) rfl ?_); intro W5' bb5 oo5; have hC2 := hC1.st5 kb5 z5 oo5 bb5; have hR2 := (hR1.next kb5).other oo5 hne.symm; obtain ⟨a6, n6, k6, c6, l6⟩ := hC2.bx.ob.data; (have e6 : n6 < 4294967296 := (by have := hs.c6; have := l6.1; omega)))
  | (with_reducible refine qaz (by kernel_rfl) _ _ rfl B 6 rfl _ _ hC2.bx.blk _ c6 ga4 ?_)
  | (go_at_call 131; (with_reducible refine (vrz (CtD.wide l6 fun _ hb => hb.1) (brz _ _) e6).mono ?_); rintro e w6 ⟨b6, m6, rfl, z6, kb6⟩; have bl6 := hC2.bx.blk.next kb6)
  | ((with_reducible refine qiz rfl _ _ _ rfl B 6 rfl (.slice b6 n6 m6) rfl rfl _ _ bl6 wGz (by rw [hC2.bx.ob.size]; omega) rfl ?_); intro W6' bb6 oo6; have hC3 := hC2.st6 kb6 (gOz z6) oo6 bb6; have hA3 := Ap.of hC2 (by simp) kb6 z6 oo6; have hR3 := (hR2.next kb6).other oo6 hne.symm; obtain ⟨a7, n7, k7, c7, l7⟩ := hC3.bx.ob.maps; (have e7 : n7 < 4294967296 := (by have := hs.c7; have := l7.1; omega)))
  | (with_reducible refine qaz (by kernel_rfl) _ _ rfl B 7 rfl _ _ hC3.bx.blk _ c7 ga5 ?_)
  | (go_at_call 132; (with_reducible refine (copyM (PgM.MpsD.wide l7 fun _ hb => hb.1) (brz _ _) e7).mono ?_); rintro e w7 ⟨b7, m7, rfl, z7, kb7⟩; have bl7 := hC3.bx.blk.next kb7)
  | ((with_reducible refine qiz rfl _ _ _ rfl B 7 rfl (.slice b7 n7 m7) rfl rfl _ _ bl7 uKz (by rw [hC3.bx.ob.size]; omega) rfl ?_); intro W7' bb7 oo7; have hC4 := hC3.st7 kb7 z7 oo7 bb7; have hA4 := hA3.st kb7 oo7 hC3.bx.ob.size (j := 7) (v := .slice b7 n7 m7) (by omega); have hR4 := (hR3.next kb7).other oo7 hne.symm; obtain ⟨a25, n25, k25, c25, l25⟩ := hC4.bx.ob.th.clear; (have e25 : n25 < 8796093022208 := (by have := hs.c25; have := l25.1; omega)))
  | (with_reducible refine qaz (by kernel_rfl) _ _ rfl B 25 rfl _ _ hC4.bx.blk _ c25 ga0 ?_)
  | (go_at_call 130; (with_reducible refine (kbz (LabD.wide l25 fun _ hb => hb.1) (brz _ _) e25).mono ?_); rintro e w25 ⟨b25, m25, rfl, z25, kb25⟩; have bl25 := hC4.bx.blk.next kb25)
  | ((with_reducible refine qiz rfl _ _ _ rfl B 25 rfl (.slice b25 n25 m25) rfl rfl _ _ bl25 x6z (by rw [hC4.bx.ob.size]; omega) rfl ?_); intro W25' bb25 oo25; have hC5 := hC4.st25 kb25 z25 oo25 bb25; have hA5 := hA4.st kb25 oo25 hC4.bx.ob.size (j := 25) (v := .slice b25 n25 m25) (by omega); have hR5 := (hR4.next kb25).other oo25 hne.symm; obtain ⟨a36, n36, k36, c36, l36⟩ := hC5.bx.ob.th.alerts; (have e36 : n36 < 4294967296 := (by have := hs.c36; have := l36.1; omega)))
  | (with_reducible refine qaz (by kernel_rfl) _ _ rfl B 36 rfl _ _ hC5.bx.blk _ c36 ga4 ?_)
  | (go_at_call 131; (with_reducible refine (copyU (CtD.wide l36 fun _ hb => hb.1) (brz _ _) e36).mono ?_); rintro e w36 ⟨b36, m36, rfl, z36, kb36⟩; have bl36 := hC5.bx.blk.next kb36)
  | ((with_reducible refine qiz rfl _ _ _ rfl B 36 rfl (.slice b36 n36 m36) rfl rfl _ _ bl36 wGz (by rw [hC5.bx.ob.size]; omega) rfl ?_); intro W36' bb36 oo36; have hC6 := hC5.st36 kb36 z36 oo36 bb36; have hA6 := hA5.st kb36 oo36 hC5.bx.ob.size (j := 36) (v := .slice b36 n36 m36) (by omega); have hR6 := (hR5.next kb36).other oo36 hne.symm; obtain ⟨a39, n39, k39, c39, l39⟩ := hC6.bx.ob.th.l0; (have e39 : n39 < 8796093022208 := (by have := hs.c39; have := l39.1; omega)); obtain ⟨a40, n40, k40, c40, l40⟩ := hC6.bx.ob.th.l1; (have e40 : n40 < 8796093022208 := (by have := hs.c40; have := l40.1; omega)); obtain ⟨a41, n41, k41, c41, l41⟩ := hC6.bx.ob.th.l2; (have e41 : n41 < 8796093022208 := (by have := hs.c41; have := l41.1; omega)); obtain ⟨a42, n42, k42, c42, l42⟩ := hC6.bx.ob.th.l3; (have e42 : n42 < 8796093022208 := (by have := hs.c42; have := l42.1; omega)))
  | (with_reducible refine qpz (by kernel_rfl) 37 _ rfl B 39 rfl 4 _ _ hC6.bx.blk _ (ext4 c39 c40 c41 c42) (by rw [hC6.bx.ob.size]; omega) _ underlying37 (by kernel_rfl) size34 ?_))
 have kb0 : W36'.heap.size ≤ W36'.heap.size ∧ ∀ b, Ex B W36' b → W36'.heap[b]? = W36'.heap[b]? := ⟨lrz _, fun _ _ => rfl⟩
 go_loopw [36] (fun i wr => ∃ (k : Nat) (C' : Array Value), k ≤ 4 ∧ i = .int .i64 k ∧ Hid (Cp W'.heap.size w wr B C' x (fun j => j ∈ [2, 5, 6, 7, 25, 36] ∨ (39 ≤ j ∧ j < 39 + k))) ∧ Hid (∃ M, Ap W'.heap.size wr B M C' x) ∧ Blk wr R zC 43 ∧ (W36'.heap.size ≤ wr.heap.size ∧ ∀ b, Ex B W36' b → wr.heap[b]? = W36'.heap[b]?)) (fun i _ => 4 - (intOf i).toNat)
 case atStart =>
  refine ⟨0, _, Nat.zero_le _, rfl, (⟨hC6.bx, fun j hj => ?_, hC6.be, hC6.le, hC6.nl, hC6.nw⟩ : Cp W'.heap.size w W36' B _ x _), ⟨_, hA6⟩, hR6, kb0⟩
  rcases hj with hj | hj
  ·exact hC6.dn j (by simp at hj; rcases hj with rfl | rfl | rfl | rfl | rfl | rfl <;> simp)
  ·omega
 case round =>
  obtain ⟨k, C', hk4, rfl, hCk, hAk, hRk, hkb⟩ := hrel
  obtain ⟨M, hA0⟩ := hAk.out
  have hC0 := hCk.out
  by_cases hkn : k < 4
  ·obtain hcs | hcs | hcs | hcs : k = 0 ∨ k = 1 ∨ k = 2 ∨ k = 3 := by omega
   ·subst hcs
    have ixk := ix_0 (.slice a39 n39 k39) (.slice a40 n40 k40) (.slice a41 n41 k41) (.slice a42 n42 k42)
    have lk : LabD (LtN wr) wr a39 n39 k39 x.th.l0 := (l39.laterK fun b hb => hkb.2 b hb).wide fun b hb => ltz hb.1 hkb.1
    simp only [show (((0 : Nat) : Int)) = 0 from rfl]
    go_wp2_with (first
     | (go_at_call 130; (with_reducible refine (kbz lk (brz _ _) e39).mono ?_); rintro e w39 ⟨b39, m39, rfl, z39, kb39⟩; have bl39 := hC0.bx.blk.next kb39)
     | ((with_reducible refine qiz rfl _ _ _ rfl B 39 rfl (.slice b39 n39 m39) rfl rfl _ _ bl39 x6z (by rw [hC0.bx.ob.size]; omega) rfl ?_); intro W39' bb39 oo39; have hC1 := hC0.st39 kb39 z39 oo39 bb39; have hA1 := hA0.st kb39 oo39 hC0.bx.ob.size (j := 39) (v := .slice b39 n39 m39) (by omega); have hR1 := (hRk.next kb39).other oo39 hne.symm))
    go_roundw
    case rel =>
     refine ⟨1, _, by omega, by go_num, (⟨hC1.bx, fun j hj => hC1.dn j ?_, hC1.be, hC1.le, hC1.nl, hC1.nw⟩ : Cp W'.heap.size w W39' B _ x _), ⟨_, hA1⟩, hR1, Nat.le_trans hkb.1 (by rw [oo39.size]; exact kb39.size), fun b hb => ((oo39.block b hb.2).trans (kb39.block b (ltz hb.1 hkb.1))).trans (hkb.2 b hb)⟩
     rcases hj with hj | hj
     ·exact .inl (.inl hj)
     ·rcases Nat.lt_or_ge j 39 with h' | h'
      ·exact .inl (.inr (by omega))
      ·exact .inr (by omega)
    case measure => simp [intOf]
   ·subst hcs
    have ixk := ix_1 (.slice a39 n39 k39) (.slice a40 n40 k40) (.slice a41 n41 k41) (.slice a42 n42 k42)
    have lk : LabD (LtN wr) wr a40 n40 k40 x.th.l1 := (l40.laterK fun b hb => hkb.2 b hb).wide fun b hb => ltz hb.1 hkb.1
    simp only [show (((1 : Nat) : Int)) = 1 from rfl]
    go_wp2_with (first
     | (go_at_call 130; (with_reducible refine (kbz lk (brz _ _) e40).mono ?_); rintro e w40 ⟨b40, m40, rfl, z40, kb40⟩; have bl40 := hC0.bx.blk.next kb40)
     | ((with_reducible refine qiz rfl _ _ _ rfl B 40 rfl (.slice b40 n40 m40) rfl rfl _ _ bl40 x6z (by rw [hC0.bx.ob.size]; omega) rfl ?_); intro W40' bb40 oo40; have hC1 := hC0.st40 kb40 z40 oo40 bb40; have hA1 := hA0.st kb40 oo40 hC0.bx.ob.size (j := 40) (v := .slice b40 n40 m40) (by omega); have hR1 := (hRk.next kb40).other oo40 hne.symm))
    go_roundw
    case rel =>
     refine ⟨2, _, by omega, by go_num, (⟨hC1.bx, fun j hj => hC1.dn j ?_, hC1.be, hC1.le, hC1.nl, hC1.nw⟩ : Cp W'.heap.size w W40' B _ x _), ⟨_, hA1⟩, hR1, Nat.le_trans hkb.1 (by rw [oo40.size]; exact kb40.size), fun b hb => ((oo40.block b hb.2).trans (kb40.block b (ltz hb.1 hkb.1))).trans (hkb.2 b hb)⟩
     rcases hj with hj | hj
     ·exact .inl (.inl hj)
     ·rcases Nat.lt_or_ge j 40 with h' | h'
      ·exact .inl (.inr (by omega))
      ·exact .inr (by omega)
    case measure => simp [intOf]
   ·subst hcs
    have ixk := ix_2 (.slice a39 n39 k39) (.slice a40 n40 k40) (.slice a41 n41 k41) (.slice a42 n42 k42)
    have lk : LabD (LtN wr) wr a41 n41 k41 x.th.l2 := (l41.laterK fun b hb => hkb.2 b hb).wide fun b hb => ltz hb.1 hkb.1
    simp only [show (((2 : Nat) : Int)) = 2 from rfl]
    go_wp2_with (first
     | (go_at_call 130; (with_reducible refine (kbz lk (brz _ _) e41).mono ?_); rintro e w41 ⟨b41, m41, rfl, z41, kb41⟩; have bl41 := hC0.bx.blk.next kb41)
     | ((with_reducible refine qiz rfl _ _ _ rfl B 41 rfl (.slice b41 n41 m41) rfl rfl _ _ bl41 x6z (by rw [hC0.bx.ob.size]; omega) rfl ?_); intro W41' bb41 oo41; have hC1 := hC0.st41 kb41 z41 oo41 bb41; have hA1 := hA0.st kb41 oo41 hC0.bx.ob.size (j := 41) (v := .slice b41 n41 m41) (by omega); have hR1 := (hRk.next kb41).other oo41 hne.symm))
    go_roundw
    case rel =>
     refine ⟨3, _, by omega, by go_num, (⟨hC1.bx, fun j hj => hC1.dn j ?_, hC1.be, hC1.le, hC1.nl, hC1.nw⟩ : Cp W'.heap.size w W41' B _ x _), ⟨_, hA1⟩, hR1, Nat.le_trans hkb.1 (by rw [oo41.size]; exact kb41.size), fun b hb => ((oo41.block b hb.2).trans (kb41.block b (ltz hb.1 hkb.1))).trans (hkb.2 b hb)⟩
     rcases hj with hj | hj
     ·exact .inl (.inl hj)
     ·rcases Nat.lt_or_ge j 41 with h' | h'
      ·exact .inl (.inr (by omega))
      ·exact .inr (by omega)
    case measure => simp [intOf]
   ·subst hcs
    have ixk := ix_3 (.slice a39 n39 k39) (.slice a40 n40 k40) (.slice a41 n41 k41) (.slice a42 n42 k42)
    have lk : LabD (LtN wr) wr a42 n42 k42 x.th.l3 := (l42.laterK fun b hb => hkb.2 b hb).wide fun b hb => ltz hb.1 hkb.1
    simp only [show (((3 : Nat) : Int)) = 3 from rfl]
    go_wp2_with (first
     | (go_at_call 130; (with_reducible refine (kbz lk (brz _ _) e42).mono ?_); rintro e w42 ⟨b42, m42, rfl, z42, kb42⟩; have bl42 := hC0.bx.blk.next kb42)
     | ((with_reducible refine qiz rfl _ _ _ rfl B 42 rfl (.slice b42 n42 m42) rfl rfl _ _ bl42 x6z (by rw [hC0.bx.ob.size]; omega) rfl ?_); intro W42' bb42 oo42; have hC1 := hC0.st42 kb42 z42 oo42 bb42; have hA1 := hA0.st kb42 oo42 hC0.bx.ob.size (j := 42) (v := .slice b42 n42 m42) (by omega); have hR1 := (hRk.next kb42).other oo42 hne.symm))
    go_roundw
    case rel =>
     refine ⟨4, _, by omega, by go_num, (⟨hC1.bx, fun j hj => hC1.dn j ?_, hC1.be, hC1.le, hC1.nl, hC1.nw⟩ : Cp W'.heap.size w W42' B _ x _), ⟨_, hA1⟩, hR1, Nat.le_trans hkb.1 (by rw [oo42.size]; exact kb42.size), fun b hb => ((oo42.block b hb.2).trans (kb42.block b (ltz hb.1 hkb.1))).trans (hkb.2 b hb)⟩
     rcases hj with hj | hj
     ·exact .inl (.inl hj)
     ·rcases Nat.lt_or_ge j 42 with h' | h'
      ·exact .inl (.inr (by omega))
      ·exact .inr (by omega)
    case measure => simp [intOf]
  ·obtain rfl : k = 4 := by omega
   simp only [show (((4 : Nat) : Int)) = 4 from rfl]
   have hR0 := hRk
   clear c39 l39 e39 c40 l40 e40 c41 l41 e41 c42 l42 e42
   obtain ⟨a43, n43, k43, c43, l43⟩ := hC0.bx.ob.gt.grant; (have e43 : n43 < 8796093022208 := (by have := hs.c43; have := l43.1; omega))
   go_wp2_with (first
    | go_skip
    | (with_reducible refine qaz (by kernel_rfl) _ _ rfl B 43 rfl _ _ hC0.bx.blk _ c43 ga0 ?_)
    | (go_at_call 130; (with_reducible refine (kbz (LabD.wide l43 fun _ hb => hb.1) (brz _ _) e43).mono ?_); rintro e w43 ⟨b43, m43, rfl, z43, kb43⟩; have bl43 := hC0.bx.blk.next kb43)
    | ((with_reducible refine qiz rfl _ _ _ rfl B 43 rfl (.slice b43 n43 m43) rfl rfl _ _ bl43 x6z (by rw [hC0.bx.ob.size]; omega) rfl ?_); intro W43' bb43 oo43; have hC1 := hC0.st43 kb43 z43 oo43 bb43; have hA1 := hA0.st kb43 oo43 hC0.bx.ob.size (j := 43) (v := .slice b43 n43 m43) (by omega); have hR1 := (hR0.next kb43).other oo43 hne.symm; obtain ⟨a44, n44, k44, c44, l44⟩ := hC1.bx.ob.gt.clear; (have e44 : n44 < 8796093022208 := (by have := hs.c44; have := l44.1; omega)))
    | (with_reducible refine qaz (by kernel_rfl) _ _ rfl B 44 rfl _ _ hC1.bx.blk _ c44 ga0 ?_)
    | (go_at_call 130; (with_reducible refine (kbz (LabD.wide l44 fun _ hb => hb.1) (brz _ _) e44).mono ?_); rintro e w44 ⟨b44, m44, rfl, z44, kb44⟩; have bl44 := hC1.bx.blk.next kb44)
    | ((with_reducible refine qiz rfl _ _ _ rfl B 44 rfl (.slice b44 n44 m44) rfl rfl _ _ bl44 x6z (by rw [hC1.bx.ob.size]; omega) rfl ?_); intro W44' bb44 oo44; have hC2 := hC1.st44 kb44 z44 oo44 bb44; have hA2 := hA1.st kb44 oo44 hC1.bx.ob.size (j := 44) (v := .slice b44 n44 m44) (by omega); have hR2 := (hR1.next kb44).other oo44 hne.symm; obtain ⟨a49, n49, k49, c49, l49⟩ := hC2.bx.ob.inn; (have e49 : n49 < 4294967296 := (by have := hs.c49; have := l49.1; omega)))
    | (with_reducible refine qaz (by kernel_rfl) _ _ rfl B 49 rfl _ _ hC2.bx.blk _ c49 ga4 ?_)
    | (go_at_call 131; (with_reducible refine (copyU (CtD.wide l49 fun _ hb => hb.1) (brz _ _) e49).mono ?_); rintro e w49 ⟨b49, m49, rfl, z49, kb49⟩; have bl49 := hC2.bx.blk.next kb49)
    | ((with_reducible refine qiz rfl _ _ _ rfl B 49 rfl (.slice b49 n49 m49) rfl rfl _ _ bl49 wGz (by rw [hC2.bx.ob.size]; omega) rfl ?_); intro W49' bb49 oo49; have hC3 := hC2.st49 kb49 z49 oo49 bb49; have hA3 := hA2.st kb49 oo49 hC2.bx.ob.size (j := 49) (v := .slice b49 n49 m49) (by omega); have hR3 := (hR2.next kb49).other oo49 hne.symm; obtain ⟨a50, n50, k50, c50, l50⟩ := hC3.bx.ob.out; (have e50 : n50 < 4294967296 := (by have := hs.c50; have := l50.1; omega)))
    | (with_reducible refine qaz (by kernel_rfl) _ _ rfl B 50 rfl _ _ hC3.bx.blk _ c50 ga4 ?_)
    | (go_at_call 131; (with_reducible refine (copyU (CtD.wide l50 fun _ hb => hb.1) (brz _ _) e50).mono ?_); rintro e w50 ⟨b50, m50, rfl, z50, kb50⟩; have bl50 := hC3.bx.blk.next kb50)
    | ((with_reducible refine qiz rfl _ _ _ rfl B 50 rfl (.slice b50 n50 m50) rfl rfl _ _ bl50 wGz (by rw [hC3.bx.ob.size]; omega) rfl ?_); intro W50' bb50 oo50; have hC4 := hC3.st50 kb50 z50 oo50 bb50; have hA4 := hA3.st kb50 oo50 hC3.bx.ob.size (j := 50) (v := .slice b50 n50 m50) (by omega); have hR4 := (hR3.next kb50).other oo50 hne.symm; skip)
    | ((with_reducible refine qlz rfl _ _ rfl B rfl _ hC4.bx.blk _ underlying43 rfl (qez hC4.bx.ob.size) ?_))
    | ((with_reducible refine qbz rfl _ _ _ rfl R rfl _ rfl zC hR4 (qez hC4.bx.ob.size) (qoz.trans hC4.bx.ob.size.symm) hC4.bx.ob.one ?_); intro W9 b9 o9))
   have hob := hC4.all (fun j hj => by
    simp at hj
    rcases hj with rfl | rfl | rfl | rfl | rfl | rfl | rfl | rfl | rfl | rfl | rfl | rfl | rfl | rfl <;> simp)
   have hlR : w.heap.size ≤ R := by have := hB'.out.1; have := hk.size; omega
   have bz := o9.below w.heap.size w hlR hC4.be
   refine bodyPost_ret (v := .agg _) (jpz results104 rfl b9 hob.size) rfl ?_
   refine ⟨_, rfl, ?_, bz, M, ?_, ?_⟩
   rotate_left
   ·exact (LbV.laterK hA4.1 fun b hb => o9.block b (by have := hB'.out; have := hb.1; omega)).wide fun b hb => ⟨⟨Nat.le_trans hC4.nw hb.1.1, by rw [o9.size]; exact ltz hb.1.2 hA4.2.2.2.1⟩, hb.1.2⟩
   ·obtain ⟨a, n, c, e1, e2⟩ := hA4.2.1
    exact ⟨⟨a, n, c, e1, xTz e2 fun b hb _ => o9.block b (by have := hB'.out; have := hA4.2.2.1; omega)⟩, Nat.le_trans hC4.nw hA4.2.2.1⟩
   exact (hob.laterK fun b hb => o9.block b (by have := hB'.out; have := hb.1; omega)).wide fun b hb => ⟨Nat.le_trans hC4.nw hb.1, by rw [o9.size]; exact hb.2⟩
theorem jJz (h : ObD (LtN w) w C x) (hs : Small x) :
  Calls prog 104 #[.agg C] w fun e w' => ∃ C', e = .returned (.agg C') ∧ ObD (New w w') w' C' x ∧ Below w.heap.size w w' :=
 (vsz h hs).mono fun _ _ ⟨C', e, ho, hk, _⟩ => ⟨C', e, ho, hk⟩
def pagO (x : Ob) : Int := if x.kind = 1 then pagN x else 1
theorem u8z (h : ObD (LtN w) w C x) (hs : Small x) : Calls prog 73 #[.agg C] w fun e w' => e = .returned (.int .i64 (pagO x)) ∧ Below w.heap.size w w' := by
 have hz := h.size
 have c0 := h.id
 have c1 := h.kind
 obtain ⟨a2, n2, k2, c2, l2⟩ := h.label
 have hn2 : Hid (x.label.length = n2) := l2.1
 have c3 := h.quota
 have c4 := h.fixed
 obtain ⟨a5, n5, k5, c5, l5⟩ := h.links
 have hn5 : Hid (x.links.length = n5) := l5.1
 obtain ⟨a6, n6, k6, c6, l6⟩ := h.data
 have hn6 : Hid (x.data.length = n6) := l6.1
 obtain ⟨a7, n7, k7, c7, l7⟩ := h.maps
 have hn7 : Hid (x.maps.length = n7) := l7.1
 obtain ⟨a49, n49, k49, c49, l49⟩ := h.inn
 have hn49 : Hid (x.inn.length = n49) := l49.1
 obtain ⟨a50, n50, k50, c50, l50⟩ := h.out
 have hn50 : Hid (x.out.length = n50) := l50.1
 obtain ⟨a25, n25, k25, c25, l25⟩ := h.th.clear
 obtain ⟨a43, n43, k43, c43, l43⟩ := h.gt.grant
 obtain ⟨a44, n44, k44, c44, l44⟩ := h.gt.clear
 replace c25 : C[25]? = some (.slice a25 n25 k25) := c25
 replace c43 : C[43]? = some (.slice a43 n43 k43) := c43
 replace c44 : C[44]? = some (.slice a44 n44 k44) := c44
 have ga0 := isAgg27
 have ga1 := isAgg22
 have ga2 := isAgg3
 have ga3 := isAgg4
 have ga4 := isAgg28
 have ga5 := isAgg29
 have hs6 := hs.c6
 rw [hn6.out] at hs6
 have hq : ((n6 : Int) + 16 - 1) / 16 = (((n6 + 15) / 16 : Nat) : Int) := by omega
 by_cases hk1 : x.kind = 1
 have hr : Hid (pagO x = 1 + ((n6 : Int) + 15) / 16) := by show _ = _; unfold pagO pagN; rw [if_pos hk1, hn6.out]
 replace c1 : C[1]? = some (.int .i64 1) := c1.trans (by rw [hk1])
 clear hk1
 rotate_left
 have hr : Hid (pagO x = 1) := by show _ = _; unfold pagO; rw [if_neg hk1]
 have g1 : (x.kind == 1) = false := by rw [beq_eq_false_iff_ne]; exact hk1
 clear hk1
 rotate_left
 all_goals go_enter func73, ntmps73
 all_goals go_wp2_with (first
  | go_skip
  | (with_reducible refine qcz rfl _ _ rfl C rfl ?_; intro B W hB hb hk)
  | (with_reducible refine qaz (by kernel_rfl) _ _ rfl B _ rfl _ _ hb _ (by assumption) (by assumption) ?_))
 ·go_ret
  refine ⟨?_, hk⟩
  rw [hr.out]
  refine congrArg (fun z => Ending.returned (.int .i64 z)) ?_
  omega
 ·go_ret
  exact ⟨by rw [hr.out]; rfl, hk⟩
theorem yVz (h : ObD (LtN w) w C x) (hs : Small x) : Calls prog 75 #[.agg C] w fun e w' => e = .returned (.int .i64 (pagN x)) ∧ Below w.heap.size w w' := by
 have hz := h.size
 have c0 := h.id
 have c1 := h.kind
 obtain ⟨a2, n2, k2, c2, l2⟩ := h.label
 have hn2 : Hid (x.label.length = n2) := l2.1
 have c3 := h.quota
 have c4 := h.fixed
 obtain ⟨a5, n5, k5, c5, l5⟩ := h.links
 have hn5 : Hid (x.links.length = n5) := l5.1
 obtain ⟨a6, n6, k6, c6, l6⟩ := h.data
 have hn6 : Hid (x.data.length = n6) := l6.1
 obtain ⟨a7, n7, k7, c7, l7⟩ := h.maps
 have hn7 : Hid (x.maps.length = n7) := l7.1
 obtain ⟨a49, n49, k49, c49, l49⟩ := h.inn
 have hn49 : Hid (x.inn.length = n49) := l49.1
 obtain ⟨a50, n50, k50, c50, l50⟩ := h.out
 have hn50 : Hid (x.out.length = n50) := l50.1
 obtain ⟨a25, n25, k25, c25, l25⟩ := h.th.clear
 obtain ⟨a43, n43, k43, c43, l43⟩ := h.gt.grant
 obtain ⟨a44, n44, k44, c44, l44⟩ := h.gt.clear
 replace c25 : C[25]? = some (.slice a25 n25 k25) := c25
 replace c43 : C[43]? = some (.slice a43 n43 k43) := c43
 replace c44 : C[44]? = some (.slice a44 n44 k44) := c44
 have ga0 := isAgg27
 have ga1 := isAgg22
 have ga2 := isAgg3
 have ga3 := isAgg4
 have ga4 := isAgg28
 have ga5 := isAgg29
 have hs6 := hs.c6
 rw [hn6.out] at hs6
 have hr : Hid (pagN x = 1 + ((n6 : Int) + 15) / 16) := by show _ = _; unfold pagN; rw [hn6.out]
 go_enter func75, ntmps75
 go_wp2_with (first
  | go_skip
  | (with_reducible refine qcz rfl _ _ rfl C rfl ?_; intro B W hB hb hk)
  | (with_reducible refine qaz (by kernel_rfl) _ _ rfl B _ rfl _ _ hb _ (by assumption) (by assumption) ?_))
 go_ret
 refine ⟨?_, hk⟩
 rw [hr.out]
 refine congrArg (fun z => Ending.returned (.int .i64 z)) ?_
 omega
end
end Go.Proofs.YtchgingkmkhbhaaGreat
