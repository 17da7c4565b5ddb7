/-
 PROVED HERE: what package obj's SameOne and the document's return when they are called (contracts over this translation); w. What is asked stands at each.
-/
import Derived.Deep.DeepCutAuto
import Derived.BigQuiet
import Derived.Test.YtloghnpfplljgaaGreatZ4
namespace Go.Proofs.YtloghnpfplljgaaGreat
set_option maxRecDepth 100000
set_option maxHeartbeats 8000000
set_option linter.unusedVariables false
open Go.Proofs.Tryz
section
open Go.RowKit Go.Shelf
attribute [local go_sem] Oper.semAt_some
variable {w : World}
theorem yjz {C C' : Array Value} {x y : Ob} (h : ObD (LtN w) w C x) (h' : ObD (LtN w) w C' y) :
  Asks 171 #[.agg C, .agg C'] (x = y) w := by
 have hz := h.size
 have c0 := h.id
 have c1 := h.kind
 obtain ⟨a2, n2, k2, c2, l2⟩ := h.label
 have c3 := h.quota
 have c4 := h.fixed
 obtain ⟨a5, n5, k5, c5, l5⟩ := h.links
 obtain ⟨a6, n6, k6, c6, l6⟩ := h.data
 obtain ⟨a7, n7, k7, c7, l7⟩ := h.maps
 obtain ⟨a49, n49, k49, c49, l49⟩ := h.inn
 obtain ⟨a50, n50, k50, c50, l50⟩ := h.out
 have hz' := h'.size
 have c0' := h'.id
 have c1' := h'.kind
 obtain ⟨a2', n2', k2', c2', l2'⟩ := h'.label
 have c3' := h'.quota
 have c4' := h'.fixed
 obtain ⟨a5', n5', k5', c5', l5'⟩ := h'.links
 obtain ⟨a6', n6', k6', c6', l6'⟩ := h'.data
 obtain ⟨a7', n7', k7', c7', l7'⟩ := h'.maps
 obtain ⟨a49', n49', k49', c49', l49'⟩ := h'.inn
 obtain ⟨a50', n50', k50', c50', l50'⟩ := h'.out
 have ga0 := isAgg39
 have ga1 := isAgg22
 have ga2 := isAgg3
 have ga3 := isAgg4
 have ga4 := isAgg40
 have ga5 := isAgg41
 unfold Asks
 go_enter func171, ntmps171
 try simp only [List.append]
 go_upto_region 1 with (first
  | (with_reducible refine qcz rfl _ _ rfl C rfl ?_; intro B W hB hb hk)
  | (with_reducible refine qcz rfl _ _ rfl C' rfl ?_; intro B' W' hB' hb' hk'; replace hb := hb.next hk'; replace hk := btz hk hk'; clear hk'))
 refine xkz ?_
 refine qAz [none, some (.int .u64 x.id), none, some (.int .u64 y.id)] 0 (obs := [.load 22 (B) (0) (.int .u64 x.id), .load 22 (B') (0) (.int .u64 y.id)]) (by kernel_rfl) ⟨qez (fun _ e => by rw [e]; exact hb) c0 ga1, qez (fun _ e => by rw [e]; exact hb') c0' ga1, trivial⟩ ?_
 by_cases q0 : x.id = y.id
 ·replace q0 : Hid (x.id = y.id) := q0
  refine qAz [some (.bool true), none, none, some (.int .i64 x.kind), none, some (.int .i64 y.kind)] 4 (obs := [.test .eql 22 (.tmp 6) (.tmp 8) (.int .u64 x.id) (.int .u64 y.id) (.bool true), .load 3 (B) (1) (.int .i64 x.kind), .load 3 (B') (1) (.int .i64 y.kind)]) (by kernel_rfl) ⟨qJz (fun _ => qtz _ _ _ _ _ _) q0, qez (fun _ e => by rw [e]; exact hb) c1 ga2, qez (fun _ e => by rw [e]; exact hb') c1' ga2, trivial⟩ ?_
  by_cases q1 : x.kind = y.kind
  ·replace q1 : Hid (x.kind = y.kind) := q1
   refine qAz [some (.bool true), none, none, none, some (.slice a2 n2 k2), none, some (.slice a2' n2' k2')] 10 (obs := [.test .eql 3 (.tmp 12) (.tmp 14) (.int .i64 x.kind) (.int .i64 y.kind) (.bool true), .load 39 (B) (2) (.slice a2 n2 k2), .load 39 (B') (2) (.slice a2' n2' k2')]) (by kernel_rfl) ⟨qJz (fun _ => qtz _ _ _ _ _ _) q1, qez (fun _ e => by rw [e]; exact hb) c2 ga0, qez (fun _ e => by rw [e]; exact hb') c2' ga0, trivial⟩ ?_
   refine q4z (i := 17) (f := 212) (vs := [.slice a2 n2 k2, .slice a2' n2' k2']) (d := some 22) (by kernel_rfl) call212 (eqL l2 l2' hk) ?_ ?_
   ·intro w2 q2 hb1; replace hb := hb.next hb1; replace hb' := hb'.next hb1; replace hk := btz hk hb1; clear hb1
    refine qAz [none, none, none, some (.int .i64 x.quota), none, some (.int .i64 y.quota)] 18 (obs := [.load 3 (B) (3) (.int .i64 x.quota), .load 3 (B') (3) (.int .i64 y.quota)]) (by kernel_rfl) ⟨qez (fun _ e => by rw [e]; exact hb) c3 ga2, qez (fun _ e => by rw [e]; exact hb') c3' ga2, trivial⟩ ?_
    by_cases q3 : x.quota = y.quota
    ·replace q3 : Hid (x.quota = y.quota) := q3
     refine qAz [some (.bool true), none, none, none, some (.bool x.fixed), none, some (.bool y.fixed)] 24 (obs := [.test .eql 3 (.tmp 26) (.tmp 28) (.int .i64 x.quota) (.int .i64 y.quota) (.bool true), .load 4 (B) (4) (.bool x.fixed), .load 4 (B') (4) (.bool y.fixed)]) (by kernel_rfl) ⟨qJz (fun _ => qtz _ _ _ _ _ _) q3, qez (fun _ e => by rw [e]; exact hb) c4 ga3, qez (fun _ e => by rw [e]; exact hb') c4' ga3, trivial⟩ ?_
     by_cases q4 : x.fixed = y.fixed
     ·replace q4 : Hid (x.fixed = y.fixed) := q4
      refine qAz [some (.bool true), none, none, none, some (.slice a5 n5 k5), none, some (.slice a5' n5' k5')] 31 (obs := [.test .eql 4 (.tmp 33) (.tmp 35) (.bool x.fixed) (.bool y.fixed) (.bool true), .load 40 (B) (5) (.slice a5 n5 k5), .load 40 (B') (5) (.slice a5' n5' k5')]) (by kernel_rfl) ⟨qJz (fun _ => utz _ _ _ _) q4, qez (fun _ e => by rw [e]; exact hb) c5 ga4, qez (fun _ e => by rw [e]; exact hb') c5' ga4, trivial⟩ ?_
      refine q4z (i := 38) (f := 213) (vs := [.slice a5 n5 k5, .slice a5' n5' k5']) (d := some 43) (by kernel_rfl) call213 (eqU l5 l5' hk) ?_ ?_
      ·intro w5 q5 hb1; replace hb := hb.next hb1; replace hb' := hb'.next hb1; replace hk := btz hk hb1; clear hb1
       refine qAz [none, none, none, some (.slice a6 n6 k6), none, some (.slice a6' n6' k6')] 39 (obs := [.load 40 (B) (6) (.slice a6 n6 k6), .load 40 (B') (6) (.slice a6' n6' k6')]) (by kernel_rfl) ⟨qez (fun _ e => by rw [e]; exact hb) c6 ga4, qez (fun _ e => by rw [e]; exact hb') c6' ga4, trivial⟩ ?_
       refine q4z (i := 45) (f := 213) (vs := [.slice a6 n6 k6, .slice a6' n6' k6']) (d := some 50) (by kernel_rfl) call213 (eqU l6 l6' hk) ?_ ?_
       ·intro w6 q6 hb1; replace hb := hb.next hb1; replace hb' := hb'.next hb1; replace hk := btz hk hb1; clear hb1
        refine qAz [none, none, none, some (.slice a7 n7 k7), none, some (.slice a7' n7' k7')] 46 (obs := [.load 41 (B) (7) (.slice a7 n7 k7), .load 41 (B') (7) (.slice a7' n7' k7')]) (by kernel_rfl) ⟨qez (fun _ e => by rw [e]; exact hb) c7 ga5, qez (fun _ e => by rw [e]; exact hb') c7' ga5, trivial⟩ ?_
        refine q4z (i := 52) (f := 214) (vs := [.slice a7 n7 k7, .slice a7' n7' k7']) (d := some 57) (by kernel_rfl) call214 (eqM l7 l7' hk) ?_ ?_
        ·intro w7 q7 hb1; replace hb := hb.next hb1; replace hb' := hb'.next hb1; replace hk := btz hk hb1; clear hb1
         refine qAz [none, none, none, some (.agg (C.extract 8 (8 + 35))), none, some (.agg (C'.extract 8 (8 + 35)))] 53 (obs := [.load 51 (B) (8) (.agg (C.extract 8 (8 + 35))), .load 51 (B') (8) (.agg (C'.extract 8 (8 + 35)))]) (by kernel_rfl) ⟨qIz 35 (fun _ e => by rw [e]; exact hb) rfl (by rw [hz]; omega) underlying51 (by kernel_rfl) w9z, qIz 35 (fun _ e => by rw [e]; exact hb') rfl (by rw [hz']; omega) underlying51 (by kernel_rfl) w9z, trivial⟩ ?_
         refine q4z (i := 59) (f := 215) (vs := [.agg (C.extract 8 (8 + 35)), .agg (C'.extract 8 (8 + 35))]) (d := some 64) (by kernel_rfl) call215 (jcz (h.thd.next hk) (h'.thd.next hk)) ?_ ?_
         ·intro w8 q8 hb1; replace hb := hb.next hb1; replace hb' := hb'.next hb1; replace hk := btz hk hb1; clear hb1
          refine qAz [none, none, none, some (.agg (C.extract 43 (43 + 6))), none, some (.agg (C'.extract 43 (43 + 6)))] 60 (obs := [.load 53 (B) (43) (.agg (C.extract 43 (43 + 6))), .load 53 (B') (43) (.agg (C'.extract 43 (43 + 6)))]) (by kernel_rfl) ⟨qIz 6 (fun _ e => by rw [e]; exact hb) rfl (by rw [hz]; omega) underlying53 (by kernel_rfl) kLz, qIz 6 (fun _ e => by rw [e]; exact hb') rfl (by rw [hz']; omega) underlying53 (by kernel_rfl) kLz, trivial⟩ ?_
          refine q4z (i := 66) (f := 216) (vs := [.agg (C.extract 43 (43 + 6)), .agg (C'.extract 43 (43 + 6))]) (d := some 71) (by kernel_rfl) call216 (vuz (h.gtd.next hk) (h'.gtd.next hk)) ?_ ?_
          ·intro w9 q9 hb1; replace hb := hb.next hb1; replace hb' := hb'.next hb1; replace hk := btz hk hb1; clear hb1
           refine qAz [none, none, none, some (.slice a49 n49 k49), none, some (.slice a49' n49' k49')] 67 (obs := [.load 40 (B) (49) (.slice a49 n49 k49), .load 40 (B') (49) (.slice a49' n49' k49')]) (by kernel_rfl) ⟨qez (fun _ e => by rw [e]; exact hb) c49 ga4, qez (fun _ e => by rw [e]; exact hb') c49' ga4, trivial⟩ ?_
           refine q4z (i := 73) (f := 213) (vs := [.slice a49 n49 k49, .slice a49' n49' k49']) (d := some 78) (by kernel_rfl) call213 (eqU l49 l49' hk) ?_ ?_
           ·intro w10 q10 hb1; replace hb := hb.next hb1; replace hb' := hb'.next hb1; replace hk := btz hk hb1; clear hb1
            refine qAz [none, none, none, some (.slice a50 n50 k50), none, some (.slice a50' n50' k50')] 74 (obs := [.load 40 (B) (50) (.slice a50 n50 k50), .load 40 (B') (50) (.slice a50' n50' k50')]) (by kernel_rfl) ⟨qez (fun _ e => by rw [e]; exact hb) c50 ga4, qez (fun _ e => by rw [e]; exact hb') c50' ga4, trivial⟩ ?_
            refine q4z (i := 80) (f := 213) (vs := [.slice a50 n50 k50, .slice a50' n50' k50']) (d := some 85) (by kernel_rfl) call213 (eqU l50 l50' hk) ?_ ?_
            ·intro w11 q11 hb1; replace hb := hb.next hb1; replace hb' := hb'.next hb1; replace hk := btz hk hb1; clear hb1
             refine qDz [none, none] 81 (a' := { tmps := #[.agg C, .agg C', pt B 0, pt B' 0, .bool true, pt B 0, .int .u64 x.id, pt B' 0, .int .u64 y.id, .bool true, .bool true, pt B 1, .int .i64 x.kind, pt B' 1, .int .i64 y.kind, .bool true, .bool true, .bool true, pt B 2, .slice a2 n2 k2, pt B' 2, .slice a2' n2' k2', .bool true, .bool true, .bool true, pt B 3, .int .i64 x.quota, pt B' 3, .int .i64 y.quota, .bool true, .bool true, .bool true, pt B 4, .bool x.fixed, pt B' 4, .bool y.fixed, .bool true, .bool true, .bool true, pt B 5, .slice a5 n5 k5, pt B' 5, .slice a5' n5' k5', .bool true, .bool true, .bool true, pt B 6, .slice a6 n6 k6, pt B' 6, .slice a6' n6' k6', .bool true, .bool true, .bool true, pt B 7, .slice a7 n7 k7, pt B' 7, .slice a7' n7' k7', .bool true, .bool true, .bool true, pt B 8, .agg (C.extract 8 (8 + 35)), pt B' 8, .agg (C'.extract 8 (8 + 35)), .bool true, .bool true, .bool true, pt B 43, .agg (C.extract 43 (43 + 6)), pt B' 43, .agg (C'.extract 43 (43 + 6)), .bool true, .bool true, .bool true, pt B 49, .slice a49 n49 k49, pt B' 49, .slice a49' n49' k49', .bool true, .bool true, .bool true, pt B 50, .slice a50 n50 k50, pt B' 50, .slice a50' n50' k50', .bool true, .bool true], defers := [] }) (obs := []) (by kernel_rfl) trivial ?_
             refine qFz (by kernel_rfl) ?_
             go_wp2
             go_ret
             exact qpz (g4z.1 ⟨q0.out, q1.out, q2.out, q3.out, q4.out, q5.out, q6.out, q7.out, q8.out, q9.out, q10.out, q11.out⟩) hk
            ·intro w11 q11 hb1; replace hb := hb.next hb1; replace hb' := hb'.next hb1; replace hk := btz hk hb1; clear hb1
             refine qDz [none, none] 81 (a' := { tmps := #[.agg C, .agg C', pt B 0, pt B' 0, .bool false, pt B 0, .int .u64 x.id, pt B' 0, .int .u64 y.id, .bool true, .bool true, pt B 1, .int .i64 x.kind, pt B' 1, .int .i64 y.kind, .bool true, .bool true, .bool true, pt B 2, .slice a2 n2 k2, pt B' 2, .slice a2' n2' k2', .bool true, .bool true, .bool true, pt B 3, .int .i64 x.quota, pt B' 3, .int .i64 y.quota, .bool true, .bool true, .bool true, pt B 4, .bool x.fixed, pt B' 4, .bool y.fixed, .bool true, .bool true, .bool true, pt B 5, .slice a5 n5 k5, pt B' 5, .slice a5' n5' k5', .bool true, .bool true, .bool true, pt B 6, .slice a6 n6 k6, pt B' 6, .slice a6' n6' k6', .bool true, .bool true, .bool true, pt B 7, .slice a7 n7 k7, pt B' 7, .slice a7' n7' k7', .bool true, .bool true, .bool true, pt B 8, .agg (C.extract 8 (8 + 35)), pt B' 8, .agg (C'.extract 8 (8 + 35)), .bool true, .bool true, .bool true, pt B 43, .agg (C.extract 43 (43 + 6)), pt B' 43, .agg (C'.extract 43 (43 + 6)), .bool true, .bool true, .bool true, pt B 49, .slice a49 n49 k49, pt B' 49, .slice a49' n49' k49', .bool true, .bool true, .bool true, pt B 50, .slice a50 n50 k50, pt B' 50, .slice a50' n50' k50', .bool false, .bool false], defers := [] }) (obs := []) (by kernel_rfl) trivial ?_
             refine qFz (by kernel_rfl) ?_
             go_wp2
             go_ret
             refine qjz q11 hk ?_; intro e; rw [e]
           ·intro w10 q10 hb1; replace hb := hb.next hb1; replace hb' := hb'.next hb1; replace hk := btz hk hb1; clear hb1
            refine qDz (nl 9) 74 (a' := { tmps := #[.agg C, .agg C', pt B 0, pt B' 0, .bool false, pt B 0, .int .u64 x.id, pt B' 0, .int .u64 y.id, .bool true, .bool true, pt B 1, .int .i64 x.kind, pt B' 1, .int .i64 y.kind, .bool true, .bool true, .bool true, pt B 2, .slice a2 n2 k2, pt B' 2, .slice a2' n2' k2', .bool true, .bool true, .bool true, pt B 3, .int .i64 x.quota, pt B' 3, .int .i64 y.quota, .bool true, .bool true, .bool true, pt B 4, .bool x.fixed, pt B' 4, .bool y.fixed, .bool true, .bool true, .bool true, pt B 5, .slice a5 n5 k5, pt B' 5, .slice a5' n5' k5', .bool true, .bool true, .bool true, pt B 6, .slice a6 n6 k6, pt B' 6, .slice a6' n6' k6', .bool true, .bool true, .bool true, pt B 7, .slice a7 n7 k7, pt B' 7, .slice a7' n7' k7', .bool true, .bool true, .bool true, pt B 8, .agg (C.extract 8 (8 + 35)), pt B' 8, .agg (C'.extract 8 (8 + 35)), .bool true, .bool true, .bool true, pt B 43, .agg (C.extract 43 (43 + 6)), pt B' 43, .agg (C'.extract 43 (43 + 6)), .bool true, .bool true, .bool true, pt B 49, .slice a49 n49 k49, pt B' 49, .slice a49' n49' k49', .bool false, .bool false, .bool false, ud, ud, ud, ud, ud, .bool false], defers := [] }) (obs := []) (by kernel_rfl) trivial ?_
            refine qFz (by kernel_rfl) ?_
            go_wp2
            go_ret
            refine qjz q10 hk ?_; intro e; rw [e]
          ·intro w9 q9 hb1; replace hb := hb.next hb1; replace hb' := hb'.next hb1; replace hk := btz hk hb1; clear hb1
           refine qDz (nl 16) 67 (a' := { tmps := #[.agg C, .agg C', pt B 0, pt B' 0, .bool false, pt B 0, .int .u64 x.id, pt B' 0, .int .u64 y.id, .bool true, .bool true, pt B 1, .int .i64 x.kind, pt B' 1, .int .i64 y.kind, .bool true, .bool true, .bool true, pt B 2, .slice a2 n2 k2, pt B' 2, .slice a2' n2' k2', .bool true, .bool true, .bool true, pt B 3, .int .i64 x.quota, pt B' 3, .int .i64 y.quota, .bool true, .bool true, .bool true, pt B 4, .bool x.fixed, pt B' 4, .bool y.fixed, .bool true, .bool true, .bool true, pt B 5, .slice a5 n5 k5, pt B' 5, .slice a5' n5' k5', .bool true, .bool true, .bool true, pt B 6, .slice a6 n6 k6, pt B' 6, .slice a6' n6' k6', .bool true, .bool true, .bool true, pt B 7, .slice a7 n7 k7, pt B' 7, .slice a7' n7' k7', .bool true, .bool true, .bool true, pt B 8, .agg (C.extract 8 (8 + 35)), pt B' 8, .agg (C'.extract 8 (8 + 35)), .bool true, .bool true, .bool true, pt B 43, .agg (C.extract 43 (43 + 6)), pt B' 43, .agg (C'.extract 43 (43 + 6)), .bool false, .bool false, .bool false, ud, ud, ud, ud, ud, .bool false, .bool false, ud, ud, ud, ud, ud, .bool false], defers := [] }) (obs := []) (by kernel_rfl) trivial ?_
           refine qFz (by kernel_rfl) ?_
           go_wp2
           go_ret
           refine qjz q9 hk ?_; intro e; rw [e]
         ·intro w8 q8 hb1; replace hb := hb.next hb1; replace hb' := hb'.next hb1; replace hk := btz hk hb1; clear hb1
          refine qDz (nl 23) 60 (a' := { tmps := #[.agg C, .agg C', pt B 0, pt B' 0, .bool false, pt B 0, .int .u64 x.id, pt B' 0, .int .u64 y.id, .bool true, .bool true, pt B 1, .int .i64 x.kind, pt B' 1, .int .i64 y.kind, .bool true, .bool true, .bool true, pt B 2, .slice a2 n2 k2, pt B' 2, .slice a2' n2' k2', .bool true, .bool true, .bool true, pt B 3, .int .i64 x.quota, pt B' 3, .int .i64 y.quota, .bool true, .bool true, .bool true, pt B 4, .bool x.fixed, pt B' 4, .bool y.fixed, .bool true, .bool true, .bool true, pt B 5, .slice a5 n5 k5, pt B' 5, .slice a5' n5' k5', .bool true, .bool true, .bool true, pt B 6, .slice a6 n6 k6, pt B' 6, .slice a6' n6' k6', .bool true, .bool true, .bool true, pt B 7, .slice a7 n7 k7, pt B' 7, .slice a7' n7' k7', .bool true, .bool true, .bool true, pt B 8, .agg (C.extract 8 (8 + 35)), pt B' 8, .agg (C'.extract 8 (8 + 35)), .bool false, .bool false, .bool false, ud, ud, ud, ud, ud, .bool false, .bool false, ud, ud, ud, ud, ud, .bool false, .bool false, ud, ud, ud, ud, ud, .bool false], defers := [] }) (obs := []) (by kernel_rfl) trivial ?_
          refine qFz (by kernel_rfl) ?_
          go_wp2
          go_ret
          refine qjz q8 hk ?_; intro e; rw [e]
        ·intro w7 q7 hb1; replace hb := hb.next hb1; replace hb' := hb'.next hb1; replace hk := btz hk hb1; clear hb1
         refine qDz (nl 30) 53 (a' := { tmps := #[.agg C, .agg C', pt B 0, pt B' 0, .bool false, pt B 0, .int .u64 x.id, pt B' 0, .int .u64 y.id, .bool true, .bool true, pt B 1, .int .i64 x.kind, pt B' 1, .int .i64 y.kind, .bool true, .bool true, .bool true, pt B 2, .slice a2 n2 k2, pt B' 2, .slice a2' n2' k2', .bool true, .bool true, .bool true, pt B 3, .int .i64 x.quota, pt B' 3, .int .i64 y.quota, .bool true, .bool true, .bool true, pt B 4, .bool x.fixed, pt B' 4, .bool y.fixed, .bool true, .bool true, .bool true, pt B 5, .slice a5 n5 k5, pt B' 5, .slice a5' n5' k5', .bool true, .bool true, .bool true, pt B 6, .slice a6 n6 k6, pt B' 6, .slice a6' n6' k6', .bool true, .bool true, .bool true, pt B 7, .slice a7 n7 k7, pt B' 7, .slice a7' n7' k7', .bool false, .bool false, .bool false, ud, ud, ud, ud, ud, .bool false, .bool false, ud, ud, ud, ud, ud, .bool false, .bool false, ud, ud, ud, ud, ud, .bool false, .bool false, ud, ud, ud, ud, ud, .bool false], defers := [] }) (obs := []) (by kernel_rfl) trivial ?_
         refine qFz (by kernel_rfl) ?_
         go_wp2
         go_ret
         refine qjz q7 hk ?_; intro e; rw [e]
       ·intro w6 q6 hb1; replace hb := hb.next hb1; replace hb' := hb'.next hb1; replace hk := btz hk hb1; clear hb1
        refine qDz (nl 37) 46 (a' := { tmps := #[.agg C, .agg C', pt B 0, pt B' 0, .bool false, pt B 0, .int .u64 x.id, pt B' 0, .int .u64 y.id, .bool true, .bool true, pt B 1, .int .i64 x.kind, pt B' 1, .int .i64 y.kind, .bool true, .bool true, .bool true, pt B 2, .slice a2 n2 k2, pt B' 2, .slice a2' n2' k2', .bool true, .bool true, .bool true, pt B 3, .int .i64 x.quota, pt B' 3, .int .i64 y.quota, .bool true, .bool true, .bool true, pt B 4, .bool x.fixed, pt B' 4, .bool y.fixed, .bool true, .bool true, .bool true, pt B 5, .slice a5 n5 k5, pt B' 5, .slice a5' n5' k5', .bool true, .bool true, .bool true, pt B 6, .slice a6 n6 k6, pt B' 6, .slice a6' n6' k6', .bool false, .bool false, .bool false, ud, ud, ud, ud, ud, .bool false, .bool false, ud, ud, ud, ud, ud, .bool false, .bool false, ud, ud, ud, ud, ud, .bool false, .bool false, ud, ud, ud, ud, ud, .bool false, .bool false, ud, ud, ud, ud, ud, .bool false], defers := [] }) (obs := []) (by kernel_rfl) trivial ?_
        refine qFz (by kernel_rfl) ?_
        go_wp2
        go_ret
        refine qjz q6 hk ?_; intro e; rw [e]
      ·intro w5 q5 hb1; replace hb := hb.next hb1; replace hb' := hb'.next hb1; replace hk := btz hk hb1; clear hb1
       refine qDz (nl 44) 39 (a' := { tmps := #[.agg C, .agg C', pt B 0, pt B' 0, .bool false, pt B 0, .int .u64 x.id, pt B' 0, .int .u64 y.id, .bool true, .bool true, pt B 1, .int .i64 x.kind, pt B' 1, .int .i64 y.kind, .bool true, .bool true, .bool true, pt B 2, .slice a2 n2 k2, pt B' 2, .slice a2' n2' k2', .bool true, .bool true, .bool true, pt B 3, .int .i64 x.quota, pt B' 3, .int .i64 y.quota, .bool true, .bool true, .bool true, pt B 4, .bool x.fixed, pt B' 4, .bool y.fixed, .bool true, .bool true, .bool true, pt B 5, .slice a5 n5 k5, pt B' 5, .slice a5' n5' k5', .bool false, .bool false, .bool false, ud, ud, ud, ud, ud, .bool false, .bool false, ud, ud, ud, ud, ud, .bool false, .bool false, ud, ud, ud, ud, ud, .bool false, .bool false, ud, ud, ud, ud, ud, .bool false, .bool false, ud, ud, ud, ud, ud, .bool false, .bool false, ud, ud, ud, ud, ud, .bool false], defers := [] }) (obs := []) (by kernel_rfl) trivial ?_
       refine qFz (by kernel_rfl) ?_
       go_wp2
       go_ret
       refine qjz q5 hk ?_; intro e; rw [e]
     ·replace q4 : Hid (¬ (x.fixed = y.fixed)) := q4
      refine qDz (some (.bool false) :: nl 51) 31 (a' := { tmps := #[.agg C, .agg C', pt B 0, pt B' 0, .bool false, pt B 0, .int .u64 x.id, pt B' 0, .int .u64 y.id, .bool true, .bool true, pt B 1, .int .i64 x.kind, pt B' 1, .int .i64 y.kind, .bool true, .bool true, .bool true, pt B 2, .slice a2 n2 k2, pt B' 2, .slice a2' n2' k2', .bool true, .bool true, .bool true, pt B 3, .int .i64 x.quota, pt B' 3, .int .i64 y.quota, .bool true, .bool true, .bool true, pt B 4, .bool x.fixed, pt B' 4, .bool y.fixed, .bool false, .bool false, .bool false, ud, ud, ud, ud, ud, .bool false, .bool false, ud, ud, ud, ud, ud, .bool false, .bool false, ud, ud, ud, ud, ud, .bool false, .bool false, ud, ud, ud, ud, ud, .bool false, .bool false, ud, ud, ud, ud, ud, .bool false, .bool false, ud, ud, ud, ud, ud, .bool false, .bool false, ud, ud, ud, ud, ud, .bool false], defers := [] }) (obs := [.test .eql 4 (.tmp 33) (.tmp 35) (.bool x.fixed) (.bool y.fixed) (.bool false)]) (by kernel_rfl) ⟨q2z (fun _ => utz _ _ _ _) q4, trivial⟩ ?_
      refine qFz (by kernel_rfl) ?_
      go_wp2
      go_ret
      refine qjz q4 hk ?_; intro e; rw [e]
    ·replace q3 : Hid (¬ (x.quota = y.quota)) := q3
     refine qDz (some (.bool false) :: nl 58) 24 (a' := { tmps := #[.agg C, .agg C', pt B 0, pt B' 0, .bool false, pt B 0, .int .u64 x.id, pt B' 0, .int .u64 y.id, .bool true, .bool true, pt B 1, .int .i64 x.kind, pt B' 1, .int .i64 y.kind, .bool true, .bool true, .bool true, pt B 2, .slice a2 n2 k2, pt B' 2, .slice a2' n2' k2', .bool true, .bool true, .bool true, pt B 3, .int .i64 x.quota, pt B' 3, .int .i64 y.quota, .bool false, .bool false, .bool false, ud, ud, ud, ud, ud, .bool false, .bool false, ud, ud, ud, ud, ud, .bool false, .bool false, ud, ud, ud, ud, ud, .bool false, .bool false, ud, ud, ud, ud, ud, .bool false, .bool false, ud, ud, ud, ud, ud, .bool false, .bool false, ud, ud, ud, ud, ud, .bool false, .bool false, ud, ud, ud, ud, ud, .bool false, .bool false, ud, ud, ud, ud, ud, .bool false], defers := [] }) (obs := [.test .eql 3 (.tmp 26) (.tmp 28) (.int .i64 x.quota) (.int .i64 y.quota) (.bool false)]) (by kernel_rfl) ⟨q2z (fun _ => qtz _ _ _ _ _ _) q3, trivial⟩ ?_
     refine qFz (by kernel_rfl) ?_
     go_wp2
     go_ret
     refine qjz q3 hk ?_; intro e; rw [e]
   ·intro w2 q2 hb1; replace hb := hb.next hb1; replace hb' := hb'.next hb1; replace hk := btz hk hb1; clear hb1
    refine qDz (nl 65) 18 (a' := { tmps := #[.agg C, .agg C', pt B 0, pt B' 0, .bool false, pt B 0, .int .u64 x.id, pt B' 0, .int .u64 y.id, .bool true, .bool true, pt B 1, .int .i64 x.kind, pt B' 1, .int .i64 y.kind, .bool true, .bool true, .bool true, pt B 2, .slice a2 n2 k2, pt B' 2, .slice a2' n2' k2', .bool false, .bool false, .bool false, ud, ud, ud, ud, ud, .bool false, .bool false, ud, ud, ud, ud, ud, .bool false, .bool false, ud, ud, ud, ud, ud, .bool false, .bool false, ud, ud, ud, ud, ud, .bool false, .bool false, ud, ud, ud, ud, ud, .bool false, .bool false, ud, ud, ud, ud, ud, .bool false, .bool false, ud, ud, ud, ud, ud, .bool false, .bool false, ud, ud, ud, ud, ud, .bool false, .bool false, ud, ud, ud, ud, ud, .bool false], defers := [] }) (obs := []) (by kernel_rfl) trivial ?_
    refine qFz (by kernel_rfl) ?_
    go_wp2
    go_ret
    refine qjz q2 hk ?_; intro e; rw [e]
  ·replace q1 : Hid (¬ (x.kind = y.kind)) := q1
   refine qDz (some (.bool false) :: nl 72) 10 (a' := { tmps := #[.agg C, .agg C', pt B 0, pt B' 0, .bool false, pt B 0, .int .u64 x.id, pt B' 0, .int .u64 y.id, .bool true, .bool true, pt B 1, .int .i64 x.kind, pt B' 1, .int .i64 y.kind, .bool false, .bool false, .bool false, ud, ud, ud, ud, ud, .bool false, .bool false, ud, ud, ud, ud, ud, .bool false, .bool false, ud, ud, ud, ud, ud, .bool false, .bool false, ud, ud, ud, ud, ud, .bool false, .bool false, ud, ud, ud, ud, ud, .bool false, .bool false, ud, ud, ud, ud, ud, .bool false, .bool false, ud, ud, ud, ud, ud, .bool false, .bool false, ud, ud, ud, ud, ud, .bool false, .bool false, ud, ud, ud, ud, ud, .bool false, .bool false, ud, ud, ud, ud, ud, .bool false], defers := [] }) (obs := [.test .eql 3 (.tmp 12) (.tmp 14) (.int .i64 x.kind) (.int .i64 y.kind) (.bool false)]) (by kernel_rfl) ⟨q2z (fun _ => qtz _ _ _ _ _ _) q1, trivial⟩ ?_
   refine qFz (by kernel_rfl) ?_
   go_wp2
   go_ret
   refine qjz q1 hk ?_; intro e; rw [e]
 ·replace q0 : Hid (¬ (x.id = y.id)) := q0
  refine qDz (some (.bool false) :: nl 78) 4 (a' := { tmps := #[.agg C, .agg C', pt B 0, pt B' 0, .bool false, pt B 0, .int .u64 x.id, pt B' 0, .int .u64 y.id, .bool false, .bool false, ud, ud, ud, ud, ud, .bool false, .bool false, ud, ud, ud, ud, ud, .bool false, .bool false, ud, ud, ud, ud, ud, .bool false, .bool false, ud, ud, ud, ud, ud, .bool false, .bool false, ud, ud, ud, ud, ud, .bool false, .bool false, ud, ud, ud, ud, ud, .bool false, .bool false, ud, ud, ud, ud, ud, .bool false, .bool false, ud, ud, ud, ud, ud, .bool false, .bool false, ud, ud, ud, ud, ud, .bool false, .bool false, ud, ud, ud, ud, ud, .bool false, .bool false, ud, ud, ud, ud, ud, .bool false], defers := [] }) (obs := [.test .eql 22 (.tmp 6) (.tmp 8) (.int .u64 x.id) (.int .u64 y.id) (.bool false)]) (by kernel_rfl) ⟨q2z (fun _ => qtz _ _ _ _ _ _) q0, trivial⟩ ?_
  refine qFz (by kernel_rfl) ?_
  go_wp2
  go_ret
  refine qjz q0 hk ?_; intro e; rw [e]
theorem waz {C C' : Array Value} {x y : Ob} (h : ObD (LtN w) w C x) (h' : ObD (LtN w) w C' y) :
  Asks 17 #[.agg C, .agg C'] (x = y) w := by
 have hz := h.size
 have c0 := h.id
 have c1 := h.kind
 obtain ⟨a2, n2, k2, c2, l2⟩ := h.label
 have c3 := h.quota
 have c4 := h.fixed
 obtain ⟨a5, n5, k5, c5, l5⟩ := h.links
 obtain ⟨a6, n6, k6, c6, l6⟩ := h.data
 obtain ⟨a7, n7, k7, c7, l7⟩ := h.maps
 obtain ⟨a49, n49, k49, c49, l49⟩ := h.inn
 obtain ⟨a50, n50, k50, c50, l50⟩ := h.out
 have hz' := h'.size
 have c0' := h'.id
 have c1' := h'.kind
 obtain ⟨a2', n2', k2', c2', l2'⟩ := h'.label
 have c3' := h'.quota
 have c4' := h'.fixed
 obtain ⟨a5', n5', k5', c5', l5'⟩ := h'.links
 obtain ⟨a6', n6', k6', c6', l6'⟩ := h'.data
 obtain ⟨a7', n7', k7', c7', l7'⟩ := h'.maps
 obtain ⟨a49', n49', k49', c49', l49'⟩ := h'.inn
 obtain ⟨a50', n50', k50', c50', l50'⟩ := h'.out
 have ga0 := isAgg39
 have ga1 := isAgg22
 have ga2 := isAgg3
 have ga3 := isAgg4
 have ga4 := isAgg40
 have ga5 := isAgg41
 unfold Asks
 go_enter func17, ntmps17
 try simp only [List.append]
 go_upto_region 1 with (first
  | (with_reducible refine qcz rfl _ _ rfl C rfl ?_; intro B W hB hb hk)
  | (with_reducible refine qcz rfl _ _ rfl C' rfl ?_; intro B' W' hB' hb' hk'; replace hb := hb.next hk'; replace hk := btz hk hk'; clear hk'))
 refine xkz ?_
 refine qAz [none, some (.int .u64 x.id), none, some (.int .u64 y.id)] 0 (obs := [.load 22 (B) (0) (.int .u64 x.id), .load 22 (B') (0) (.int .u64 y.id)]) (by kernel_rfl) ⟨qez (fun _ e => by rw [e]; exact hb) c0 ga1, qez (fun _ e => by rw [e]; exact hb') c0' ga1, trivial⟩ ?_
 by_cases q0 : ¬ x.id = y.id
 ·replace q0 : Hid (¬ x.id = y.id) := q0
  refine qDz (some (.bool true) :: nl 29) 4 (a' := { tmps := #[.agg C, .agg C', pt B 0, pt B' 0, .bool false, pt B 0, .int .u64 x.id, pt B' 0, .int .u64 y.id, .bool true, .bool true, ud, ud, ud, ud, ud, .bool true, .bool true, ud, ud, ud, ud, ud, ud, .bool true, .bool true, ud, ud, ud, ud, ud, .bool true, .bool true, ud, ud, ud, ud, ud, .bool true, ud, ud, ud, ud, ud, ud, ud, ud, ud, ud, ud, ud, ud, ud, ud, ud, ud, ud, ud, ud, ud, ud, ud, ud, ud, ud, ud, ud, ud, ud, ud, ud, ud, ud, ud, ud, ud, ud, ud, ud, ud, ud, ud, ud, ud, ud, ud], defers := [] }) (obs := [.test .neq 22 (.tmp 6) (.tmp 8) (.int .u64 x.id) (.int .u64 y.id) (.bool true)]) (by kernel_rfl) ⟨qJz (fun _ => wjz _ _ _ _ _ _) q0, trivial⟩ ?_
  refine qFz (by kernel_rfl) ?_
  go_wp2
  go_ret
  refine qjz q0 hk ?_; intro e; rw [e]
 ·replace q0 : Hid (¬ (¬ x.id = y.id)) := q0
  refine qAz [some (.bool false), none, none, some (.int .i64 x.kind), none, some (.int .i64 y.kind)] 4 (obs := [.test .neq 22 (.tmp 6) (.tmp 8) (.int .u64 x.id) (.int .u64 y.id) (.bool false), .load 3 (B) (1) (.int .i64 x.kind), .load 3 (B') (1) (.int .i64 y.kind)]) (by kernel_rfl) ⟨q2z (fun _ => wjz _ _ _ _ _ _) q0, qez (fun _ e => by rw [e]; exact hb) c1 ga2, qez (fun _ e => by rw [e]; exact hb') c1' ga2, trivial⟩ ?_
  by_cases q1 : ¬ x.kind = y.kind
  ·replace q1 : Hid (¬ x.kind = y.kind) := q1
   refine qDz (some (.bool true) :: nl 23) 10 (a' := { tmps := #[.agg C, .agg C', pt B 0, pt B' 0, .bool false, pt B 0, .int .u64 x.id, pt B' 0, .int .u64 y.id, .bool false, .bool false, pt B 1, .int .i64 x.kind, pt B' 1, .int .i64 y.kind, .bool true, .bool true, .bool true, ud, ud, ud, ud, ud, ud, .bool true, .bool true, ud, ud, ud, ud, ud, .bool true, .bool true, ud, ud, ud, ud, ud, .bool true, ud, ud, ud, ud, ud, ud, ud, ud, ud, ud, ud, ud, ud, ud, ud, ud, ud, ud, ud, ud, ud, ud, ud, ud, ud, ud, ud, ud, ud, ud, ud, ud, ud, ud, ud, ud, ud, ud, ud, ud, ud, ud, ud, ud, ud, ud, ud], defers := [] }) (obs := [.test .neq 3 (.tmp 12) (.tmp 14) (.int .i64 x.kind) (.int .i64 y.kind) (.bool true)]) (by kernel_rfl) ⟨qJz (fun _ => wjz _ _ _ _ _ _) q1, trivial⟩ ?_
   refine qFz (by kernel_rfl) ?_
   go_wp2
   go_ret
   refine qjz q1 hk ?_; intro e; rw [e]
  ·replace q1 : Hid (¬ (¬ x.kind = y.kind)) := q1
   refine qAz [some (.bool false), none, none, none, some (.slice a2 n2 k2), none, some (.slice a2' n2' k2')] 10 (obs := [.test .neq 3 (.tmp 12) (.tmp 14) (.int .i64 x.kind) (.int .i64 y.kind) (.bool false), .load 39 (B) (2) (.slice a2 n2 k2), .load 39 (B') (2) (.slice a2' n2' k2')]) (by kernel_rfl) ⟨q2z (fun _ => wjz _ _ _ _ _ _) q1, qez (fun _ e => by rw [e]; exact hb) c2 ga0, qez (fun _ e => by rw [e]; exact hb') c2' ga0, trivial⟩ ?_
   refine q4z (i := 17) (f := 16) (vs := [.slice a2 n2 k2, .slice a2' n2' k2']) (d := some 22) (by kernel_rfl) call16 (reqL l2 l2' hk) ?_ ?_
   ·intro w2 q2 hb1; replace hb := hb.next hb1; replace hb' := hb'.next hb1; replace hk := btz hk hb1; clear hb1
    refine qAz [none, none, none, none, some (.int .i64 x.quota), none, some (.int .i64 y.quota)] 18 (obs := [.load 3 (B) (3) (.int .i64 x.quota), .load 3 (B') (3) (.int .i64 y.quota)]) (by kernel_rfl) ⟨qez (fun _ e => by rw [e]; exact hb) c3 ga2, qez (fun _ e => by rw [e]; exact hb') c3' ga2, trivial⟩ ?_
    by_cases q3 : ¬ x.quota = y.quota
    ·replace q3 : Hid (¬ x.quota = y.quota) := q3
     refine qDz (some (.bool true) :: nl 8) 25 (a' := { tmps := #[.agg C, .agg C', pt B 0, pt B' 0, .bool false, pt B 0, .int .u64 x.id, pt B' 0, .int .u64 y.id, .bool false, .bool false, pt B 1, .int .i64 x.kind, pt B' 1, .int .i64 y.kind, .bool false, .bool false, .bool false, pt B 2, .slice a2 n2 k2, pt B' 2, .slice a2' n2' k2', .bool true, .bool false, .bool false, .bool false, pt B 3, .int .i64 x.quota, pt B' 3, .int .i64 y.quota, .bool true, .bool true, .bool true, ud, ud, ud, ud, ud, .bool true, ud, ud, ud, ud, ud, ud, ud, ud, ud, ud, ud, ud, ud, ud, ud, ud, ud, ud, ud, ud, ud, ud, ud, ud, ud, ud, ud, ud, ud, ud, ud, ud, ud, ud, ud, ud, ud, ud, ud, ud, ud, ud, ud, ud, ud, ud, ud], defers := [] }) (obs := [.test .neq 3 (.tmp 27) (.tmp 29) (.int .i64 x.quota) (.int .i64 y.quota) (.bool true)]) (by kernel_rfl) ⟨qJz (fun _ => wjz _ _ _ _ _ _) q3, trivial⟩ ?_
     refine qFz (by kernel_rfl) ?_
     go_wp2
     go_ret
     refine qjz q3 hk ?_; intro e; rw [e]
    ·replace q3 : Hid (¬ (¬ x.quota = y.quota)) := q3
     refine qAz [some (.bool false), none, none, none, some (.bool x.fixed), none, some (.bool y.fixed)] 25 (obs := [.test .neq 3 (.tmp 27) (.tmp 29) (.int .i64 x.quota) (.int .i64 y.quota) (.bool false), .load 4 (B) (4) (.bool x.fixed), .load 4 (B') (4) (.bool y.fixed)]) (by kernel_rfl) ⟨q2z (fun _ => wjz _ _ _ _ _ _) q3, qez (fun _ e => by rw [e]; exact hb) c4 ga3, qez (fun _ e => by rw [e]; exact hb') c4' ga3, trivial⟩ ?_
     by_cases q4 : ¬ x.fixed = y.fixed
     ·replace q4 : Hid (¬ x.fixed = y.fixed) := q4
      refine qDz [some (.bool true), none] 32 (a' := { tmps := #[.agg C, .agg C', pt B 0, pt B' 0, .bool false, pt B 0, .int .u64 x.id, pt B' 0, .int .u64 y.id, .bool false, .bool false, pt B 1, .int .i64 x.kind, pt B' 1, .int .i64 y.kind, .bool false, .bool false, .bool false, pt B 2, .slice a2 n2 k2, pt B' 2, .slice a2' n2' k2', .bool true, .bool false, .bool false, .bool false, pt B 3, .int .i64 x.quota, pt B' 3, .int .i64 y.quota, .bool false, .bool false, .bool false, pt B 4, .bool x.fixed, pt B' 4, .bool y.fixed, .bool true, .bool true, ud, ud, ud, ud, ud, ud, ud, ud, ud, ud, ud, ud, ud, ud, ud, ud, ud, ud, ud, ud, ud, ud, ud, ud, ud, ud, ud, ud, ud, ud, ud, ud, ud, ud, ud, ud, ud, ud, ud, ud, ud, ud, ud, ud, ud, ud, ud], defers := [] }) (obs := [.test .neq 4 (.tmp 34) (.tmp 36) (.bool x.fixed) (.bool y.fixed) (.bool true)]) (by kernel_rfl) ⟨qJz (fun _ => ubz _ _ _ _) q4, trivial⟩ ?_
      refine qFz (by kernel_rfl) ?_
      go_wp2
      go_ret
      refine qjz q4 hk ?_; intro e; rw [e]
     ·replace q4 : Hid (¬ (¬ x.fixed = y.fixed)) := q4
      refine qDz [some (.bool false), none] 32 (a' := { tmps := #[.agg C, .agg C', pt B 0, pt B' 0, .bool false, pt B 0, .int .u64 x.id, pt B' 0, .int .u64 y.id, .bool false, .bool false, pt B 1, .int .i64 x.kind, pt B' 1, .int .i64 y.kind, .bool false, .bool false, .bool false, pt B 2, .slice a2 n2 k2, pt B' 2, .slice a2' n2' k2', .bool true, .bool false, .bool false, .bool false, pt B 3, .int .i64 x.quota, pt B' 3, .int .i64 y.quota, .bool false, .bool false, .bool false, pt B 4, .bool x.fixed, pt B' 4, .bool y.fixed, .bool false, .bool false, ud, ud, ud, ud, ud, ud, ud, ud, ud, ud, ud, ud, ud, ud, ud, ud, ud, ud, ud, ud, ud, ud, ud, ud, ud, ud, ud, ud, ud, ud, ud, ud, ud, ud, ud, ud, ud, ud, ud, ud, ud, ud, ud, ud, ud, ud, ud], defers := [] }) (obs := [.test .neq 4 (.tmp 34) (.tmp 36) (.bool x.fixed) (.bool y.fixed) (.bool false)]) (by kernel_rfl) ⟨q2z (fun _ => ubz _ _ _ _) q4, trivial⟩ ?_
      refine qFz (by kernel_rfl) ?_
      go_upto_region 3 with (fail)
      refine xkz ?_
      refine qAz [none, some (.slice a5 n5 k5), none, some (.slice a5' n5' k5')] 0 (obs := [.load 40 (B) (5) (.slice a5 n5 k5), .load 40 (B') (5) (.slice a5' n5' k5')]) (by kernel_rfl) ⟨qez (fun _ e => by rw [e]; exact hb) c5 ga4, qez (fun _ e => by rw [e]; exact hb') c5' ga4, trivial⟩ ?_
      refine q4z (i := 4) (f := 18) (vs := [.slice a5 n5 k5, .slice a5' n5' k5']) (d := some 43) (by kernel_rfl) call18 (reqU l5 l5' hk) ?_ ?_
      ·intro w5 q5 hb1; replace hb := hb.next hb1; replace hb' := hb'.next hb1; replace hk := btz hk hb1; clear hb1
       refine qAz [none, none, some (.slice a6 n6 k6), none, some (.slice a6' n6' k6')] 5 (obs := [.load 40 (B) (6) (.slice a6 n6 k6), .load 40 (B') (6) (.slice a6' n6' k6')]) (by kernel_rfl) ⟨qez (fun _ e => by rw [e]; exact hb) c6 ga4, qez (fun _ e => by rw [e]; exact hb') c6' ga4, trivial⟩ ?_
       refine q4z (i := 10) (f := 18) (vs := [.slice a6 n6 k6, .slice a6' n6' k6']) (d := some 49) (by kernel_rfl) call18 (reqU l6 l6' hk) ?_ ?_
       ·intro w6 q6 hb1; replace hb := hb.next hb1; replace hb' := hb'.next hb1; replace hk := btz hk hb1; clear hb1
        refine qAz [none, none, none, some (.slice a7 n7 k7), none, some (.slice a7' n7' k7')] 11 (obs := [.load 41 (B) (7) (.slice a7 n7 k7), .load 41 (B') (7) (.slice a7' n7' k7')]) (by kernel_rfl) ⟨qez (fun _ e => by rw [e]; exact hb) c7 ga5, qez (fun _ e => by rw [e]; exact hb') c7' ga5, trivial⟩ ?_
        refine q4z (i := 17) (f := 41) (vs := [.slice a7 n7 k7, .slice a7' n7' k7']) (d := some 56) (by kernel_rfl) call41 (reqM l7 l7' hk) ?_ ?_
        ·intro w7 q7 hb1; replace hb := hb.next hb1; replace hb' := hb'.next hb1; replace hk := btz hk hb1; clear hb1
         refine qAz [none, none, none, some (.agg (C.extract 8 (8 + 35))), none, some (.agg (C'.extract 8 (8 + 35)))] 18 (obs := [.load 51 (B) (8) (.agg (C.extract 8 (8 + 35))), .load 51 (B') (8) (.agg (C'.extract 8 (8 + 35)))]) (by kernel_rfl) ⟨qIz 35 (fun _ e => by rw [e]; exact hb) rfl (by rw [hz]; omega) underlying51 (by kernel_rfl) w9z, qIz 35 (fun _ e => by rw [e]; exact hb') rfl (by rw [hz']; omega) underlying51 (by kernel_rfl) w9z, trivial⟩ ?_
         refine q4z (i := 24) (f := 42) (vs := [.agg (C.extract 8 (8 + 35)), .agg (C'.extract 8 (8 + 35))]) (d := some 63) (by kernel_rfl) call42 (kNz (h.thd.next hk) (h'.thd.next hk)) ?_ ?_
         ·intro w8 q8 hb1; replace hb := hb.next hb1; replace hb' := hb'.next hb1; replace hk := btz hk hb1; clear hb1
          refine qAz [none, none, none, some (.agg (C.extract 43 (43 + 6))), none, some (.agg (C'.extract 43 (43 + 6)))] 25 (obs := [.load 53 (B) (43) (.agg (C.extract 43 (43 + 6))), .load 53 (B') (43) (.agg (C'.extract 43 (43 + 6)))]) (by kernel_rfl) ⟨qIz 6 (fun _ e => by rw [e]; exact hb) rfl (by rw [hz]; omega) underlying53 (by kernel_rfl) kLz, qIz 6 (fun _ e => by rw [e]; exact hb') rfl (by rw [hz']; omega) underlying53 (by kernel_rfl) kLz, trivial⟩ ?_
          refine q4z (i := 31) (f := 43) (vs := [.agg (C.extract 43 (43 + 6)), .agg (C'.extract 43 (43 + 6))]) (d := some 70) (by kernel_rfl) call43 (jKz (h.gtd.next hk) (h'.gtd.next hk)) ?_ ?_
          ·intro w9 q9 hb1; replace hb := hb.next hb1; replace hb' := hb'.next hb1; replace hk := btz hk hb1; clear hb1
           refine qAz [none, none, none, some (.slice a49 n49 k49), none, some (.slice a49' n49' k49')] 32 (obs := [.load 40 (B) (49) (.slice a49 n49 k49), .load 40 (B') (49) (.slice a49' n49' k49')]) (by kernel_rfl) ⟨qez (fun _ e => by rw [e]; exact hb) c49 ga4, qez (fun _ e => by rw [e]; exact hb') c49' ga4, trivial⟩ ?_
           refine q4z (i := 38) (f := 18) (vs := [.slice a49 n49 k49, .slice a49' n49' k49']) (d := some 77) (by kernel_rfl) call18 (reqU l49 l49' hk) ?_ ?_
           ·intro w10 q10 hb1; replace hb := hb.next hb1; replace hb' := hb'.next hb1; replace hk := btz hk hb1; clear hb1
            refine qAz [none, none, none, some (.slice a50 n50 k50), none, some (.slice a50' n50' k50')] 39 (obs := [.load 40 (B) (50) (.slice a50 n50 k50), .load 40 (B') (50) (.slice a50' n50' k50')]) (by kernel_rfl) ⟨qez (fun _ e => by rw [e]; exact hb) c50 ga4, qez (fun _ e => by rw [e]; exact hb') c50' ga4, trivial⟩ ?_
            refine q4z (i := 45) (f := 18) (vs := [.slice a50 n50 k50, .slice a50' n50' k50']) (d := some 84) (by kernel_rfl) call18 (reqU l50 l50' hk) ?_ ?_
            ·intro w11 q11 hb1; replace hb := hb.next hb1; replace hb' := hb'.next hb1; replace hk := btz hk hb1; clear hb1
             refine qDz [none, none] 46 (a' := { tmps := #[.agg C, .agg C', pt B 0, pt B' 0, .bool true, pt B 0, .int .u64 x.id, pt B' 0, .int .u64 y.id, .bool false, .bool false, pt B 1, .int .i64 x.kind, pt B' 1, .int .i64 y.kind, .bool false, .bool false, .bool false, pt B 2, .slice a2 n2 k2, pt B' 2, .slice a2' n2' k2', .bool true, .bool false, .bool false, .bool false, pt B 3, .int .i64 x.quota, pt B' 3, .int .i64 y.quota, .bool false, .bool false, .bool false, pt B 4, .bool x.fixed, pt B' 4, .bool y.fixed, .bool false, .bool false, pt B 5, .slice a5 n5 k5, pt B' 5, .slice a5' n5' k5', .bool true, .bool true, pt B 6, .slice a6 n6 k6, pt B' 6, .slice a6' n6' k6', .bool true, .bool true, .bool true, pt B 7, .slice a7 n7 k7, pt B' 7, .slice a7' n7' k7', .bool true, .bool true, .bool true, pt B 8, .agg (C.extract 8 (8 + 35)), pt B' 8, .agg (C'.extract 8 (8 + 35)), .bool true, .bool true, .bool true, pt B 43, .agg (C.extract 43 (43 + 6)), pt B' 43, .agg (C'.extract 43 (43 + 6)), .bool true, .bool true, .bool true, pt B 49, .slice a49 n49 k49, pt B' 49, .slice a49' n49' k49', .bool true, .bool true, .bool true, pt B 50, .slice a50 n50 k50, pt B' 50, .slice a50' n50' k50', .bool true, .bool true], defers := [] }) (obs := []) (by kernel_rfl) trivial ?_
             refine qFz (by kernel_rfl) ?_
             go_wp2
             go_ret
             exact qpz (g4z.1 ⟨Classical.not_not.1 q0.out, Classical.not_not.1 q1.out, q2.out, Classical.not_not.1 q3.out, Classical.not_not.1 q4.out, q5.out, q6.out, q7.out, q8.out, q9.out, q10.out, q11.out⟩) hk
            ·intro w11 q11 hb1; replace hb := hb.next hb1; replace hb' := hb'.next hb1; replace hk := btz hk hb1; clear hb1
             refine qDz [none, none] 46 (a' := { tmps := #[.agg C, .agg C', pt B 0, pt B' 0, .bool false, pt B 0, .int .u64 x.id, pt B' 0, .int .u64 y.id, .bool false, .bool false, pt B 1, .int .i64 x.kind, pt B' 1, .int .i64 y.kind, .bool false, .bool false, .bool false, pt B 2, .slice a2 n2 k2, pt B' 2, .slice a2' n2' k2', .bool true, .bool false, .bool false, .bool false, pt B 3, .int .i64 x.quota, pt B' 3, .int .i64 y.quota, .bool false, .bool false, .bool false, pt B 4, .bool x.fixed, pt B' 4, .bool y.fixed, .bool false, .bool false, pt B 5, .slice a5 n5 k5, pt B' 5, .slice a5' n5' k5', .bool true, .bool true, pt B 6, .slice a6 n6 k6, pt B' 6, .slice a6' n6' k6', .bool true, .bool true, .bool true, pt B 7, .slice a7 n7 k7, pt B' 7, .slice a7' n7' k7', .bool true, .bool true, .bool true, pt B 8, .agg (C.extract 8 (8 + 35)), pt B' 8, .agg (C'.extract 8 (8 + 35)), .bool true, .bool true, .bool true, pt B 43, .agg (C.extract 43 (43 + 6)), pt B' 43, .agg (C'.extract 43 (43 + 6)), .bool true, .bool true, .bool true, pt B 49, .slice a49 n49 k49, pt B' 49, .slice a49' n49' k49', .bool true, .bool true, .bool true, pt B 50, .slice a50 n50 k50, pt B' 50, .slice a50' n50' k50', .bool false, .bool false], defers := [] }) (obs := []) (by kernel_rfl) trivial ?_
             refine qFz (by kernel_rfl) ?_
             go_wp2
             go_ret
             refine qjz q11 hk ?_; intro e; rw [e]
           ·intro w10 q10 hb1; replace hb := hb.next hb1; replace hb' := hb'.next hb1; replace hk := btz hk hb1; clear hb1
            refine qDz (nl 9) 39 (a' := { tmps := #[.agg C, .agg C', pt B 0, pt B' 0, .bool false, pt B 0, .int .u64 x.id, pt B' 0, .int .u64 y.id, .bool false, .bool false, pt B 1, .int .i64 x.kind, pt B' 1, .int .i64 y.kind, .bool false, .bool false, .bool false, pt B 2, .slice a2 n2 k2, pt B' 2, .slice a2' n2' k2', .bool true, .bool false, .bool false, .bool false, pt B 3, .int .i64 x.quota, pt B' 3, .int .i64 y.quota, .bool false, .bool false, .bool false, pt B 4, .bool x.fixed, pt B' 4, .bool y.fixed, .bool false, .bool false, pt B 5, .slice a5 n5 k5, pt B' 5, .slice a5' n5' k5', .bool true, .bool true, pt B 6, .slice a6 n6 k6, pt B' 6, .slice a6' n6' k6', .bool true, .bool true, .bool true, pt B 7, .slice a7 n7 k7, pt B' 7, .slice a7' n7' k7', .bool true, .bool true, .bool true, pt B 8, .agg (C.extract 8 (8 + 35)), pt B' 8, .agg (C'.extract 8 (8 + 35)), .bool true, .bool true, .bool true, pt B 43, .agg (C.extract 43 (43 + 6)), pt B' 43, .agg (C'.extract 43 (43 + 6)), .bool true, .bool true, .bool true, pt B 49, .slice a49 n49 k49, pt B' 49, .slice a49' n49' k49', .bool false, .bool false, .bool false, ud, ud, ud, ud, ud, .bool false], defers := [] }) (obs := []) (by kernel_rfl) trivial ?_
            refine qFz (by kernel_rfl) ?_
            go_wp2
            go_ret
            refine qjz q10 hk ?_; intro e; rw [e]
          ·intro w9 q9 hb1; replace hb := hb.next hb1; replace hb' := hb'.next hb1; replace hk := btz hk hb1; clear hb1
           refine qDz (nl 16) 32 (a' := { tmps := #[.agg C, .agg C', pt B 0, pt B' 0, .bool false, pt B 0, .int .u64 x.id, pt B' 0, .int .u64 y.id, .bool false, .bool false, pt B 1, .int .i64 x.kind, pt B' 1, .int .i64 y.kind, .bool false, .bool false, .bool false, pt B 2, .slice a2 n2 k2, pt B' 2, .slice a2' n2' k2', .bool true, .bool false, .bool false, .bool false, pt B 3, .int .i64 x.quota, pt B' 3, .int .i64 y.quota, .bool false, .bool false, .bool false, pt B 4, .bool x.fixed, pt B' 4, .bool y.fixed, .bool false, .bool false, pt B 5, .slice a5 n5 k5, pt B' 5, .slice a5' n5' k5', .bool true, .bool true, pt B 6, .slice a6 n6 k6, pt B' 6, .slice a6' n6' k6', .bool true, .bool true, .bool true, pt B 7, .slice a7 n7 k7, pt B' 7, .slice a7' n7' k7', .bool true, .bool true, .bool true, pt B 8, .agg (C.extract 8 (8 + 35)), pt B' 8, .agg (C'.extract 8 (8 + 35)), .bool true, .bool true, .bool true, pt B 43, .agg (C.extract 43 (43 + 6)), pt B' 43, .agg (C'.extract 43 (43 + 6)), .bool false, .bool false, .bool false, ud, ud, ud, ud, ud, .bool false, .bool false, ud, ud, ud, ud, ud, .bool false], defers := [] }) (obs := []) (by kernel_rfl) trivial ?_
           refine qFz (by kernel_rfl) ?_
           go_wp2
           go_ret
           refine qjz q9 hk ?_; intro e; rw [e]
         ·intro w8 q8 hb1; replace hb := hb.next hb1; replace hb' := hb'.next hb1; replace hk := btz hk hb1; clear hb1
          refine qDz (nl 23) 25 (a' := { tmps := #[.agg C, .agg C', pt B 0, pt B' 0, .bool false, pt B 0, .int .u64 x.id, pt B' 0, .int .u64 y.id, .bool false, .bool false, pt B 1, .int .i64 x.kind, pt B' 1, .int .i64 y.kind, .bool false, .bool false, .bool false, pt B 2, .slice a2 n2 k2, pt B' 2, .slice a2' n2' k2', .bool true, .bool false, .bool false, .bool false, pt B 3, .int .i64 x.quota, pt B' 3, .int .i64 y.quota, .bool false, .bool false, .bool false, pt B 4, .bool x.fixed, pt B' 4, .bool y.fixed, .bool false, .bool false, pt B 5, .slice a5 n5 k5, pt B' 5, .slice a5' n5' k5', .bool true, .bool true, pt B 6, .slice a6 n6 k6, pt B' 6, .slice a6' n6' k6', .bool true, .bool true, .bool true, pt B 7, .slice a7 n7 k7, pt B' 7, .slice a7' n7' k7', .bool true, .bool true, .bool true, pt B 8, .agg (C.extract 8 (8 + 35)), pt B' 8, .agg (C'.extract 8 (8 + 35)), .bool false, .bool false, .bool false, ud, ud, ud, ud, ud, .bool false, .bool false, ud, ud, ud, ud, ud, .bool false, .bool false, ud, ud, ud, ud, ud, .bool false], defers := [] }) (obs := []) (by kernel_rfl) trivial ?_
          refine qFz (by kernel_rfl) ?_
          go_wp2
          go_ret
          refine qjz q8 hk ?_; intro e; rw [e]
        ·intro w7 q7 hb1; replace hb := hb.next hb1; replace hb' := hb'.next hb1; replace hk := btz hk hb1; clear hb1
         refine qDz (nl 30) 18 (a' := { tmps := #[.agg C, .agg C', pt B 0, pt B' 0, .bool false, pt B 0, .int .u64 x.id, pt B' 0, .int .u64 y.id, .bool false, .bool false, pt B 1, .int .i64 x.kind, pt B' 1, .int .i64 y.kind, .bool false, .bool false, .bool false, pt B 2, .slice a2 n2 k2, pt B' 2, .slice a2' n2' k2', .bool true, .bool false, .bool false, .bool false, pt B 3, .int .i64 x.quota, pt B' 3, .int .i64 y.quota, .bool false, .bool false, .bool false, pt B 4, .bool x.fixed, pt B' 4, .bool y.fixed, .bool false, .bool false, pt B 5, .slice a5 n5 k5, pt B' 5, .slice a5' n5' k5', .bool true, .bool true, pt B 6, .slice a6 n6 k6, pt B' 6, .slice a6' n6' k6', .bool true, .bool true, .bool true, pt B 7, .slice a7 n7 k7, pt B' 7, .slice a7' n7' k7', .bool false, .bool false, .bool false, ud, ud, ud, ud, ud, .bool false, .bool false, ud, ud, ud, ud, ud, .bool false, .bool false, ud, ud, ud, ud, ud, .bool false, .bool false, ud, ud, ud, ud, ud, .bool false], defers := [] }) (obs := []) (by kernel_rfl) trivial ?_
         refine qFz (by kernel_rfl) ?_
         go_wp2
         go_ret
         refine qjz q7 hk ?_; intro e; rw [e]
       ·intro w6 q6 hb1; replace hb := hb.next hb1; replace hb' := hb'.next hb1; replace hk := btz hk hb1; clear hb1
        refine qDz (nl 37) 11 (a' := { tmps := #[.agg C, .agg C', pt B 0, pt B' 0, .bool false, pt B 0, .int .u64 x.id, pt B' 0, .int .u64 y.id, .bool false, .bool false, pt B 1, .int .i64 x.kind, pt B' 1, .int .i64 y.kind, .bool false, .bool false, .bool false, pt B 2, .slice a2 n2 k2, pt B' 2, .slice a2' n2' k2', .bool true, .bool false, .bool false, .bool false, pt B 3, .int .i64 x.quota, pt B' 3, .int .i64 y.quota, .bool false, .bool false, .bool false, pt B 4, .bool x.fixed, pt B' 4, .bool y.fixed, .bool false, .bool false, pt B 5, .slice a5 n5 k5, pt B' 5, .slice a5' n5' k5', .bool true, .bool true, pt B 6, .slice a6 n6 k6, pt B' 6, .slice a6' n6' k6', .bool false, .bool false, .bool false, ud, ud, ud, ud, ud, .bool false, .bool false, ud, ud, ud, ud, ud, .bool false, .bool false, ud, ud, ud, ud, ud, .bool false, .bool false, ud, ud, ud, ud, ud, .bool false, .bool false, ud, ud, ud, ud, ud, .bool false], defers := [] }) (obs := []) (by kernel_rfl) trivial ?_
        refine qFz (by kernel_rfl) ?_
        go_wp2
        go_ret
        refine qjz q6 hk ?_; intro e; rw [e]
      ·intro w5 q5 hb1; replace hb := hb.next hb1; replace hb' := hb'.next hb1; replace hk := btz hk hb1; clear hb1
       refine qDz (nl 43) 5 (a' := { tmps := #[.agg C, .agg C', pt B 0, pt B' 0, .bool false, pt B 0, .int .u64 x.id, pt B' 0, .int .u64 y.id, .bool false, .bool false, pt B 1, .int .i64 x.kind, pt B' 1, .int .i64 y.kind, .bool false, .bool false, .bool false, pt B 2, .slice a2 n2 k2, pt B' 2, .slice a2' n2' k2', .bool true, .bool false, .bool false, .bool false, pt B 3, .int .i64 x.quota, pt B' 3, .int .i64 y.quota, .bool false, .bool false, .bool false, pt B 4, .bool x.fixed, pt B' 4, .bool y.fixed, .bool false, .bool false, pt B 5, .slice a5 n5 k5, pt B' 5, .slice a5' n5' k5', .bool false, .bool false, ud, ud, ud, ud, ud, .bool false, .bool false, ud, ud, ud, ud, ud, .bool false, .bool false, ud, ud, ud, ud, ud, .bool false, .bool false, ud, ud, ud, ud, ud, .bool false, .bool false, ud, ud, ud, ud, ud, .bool false, .bool false, ud, ud, ud, ud, ud, .bool false], defers := [] }) (obs := []) (by kernel_rfl) trivial ?_
       refine qFz (by kernel_rfl) ?_
       go_wp2
       go_ret
       refine qjz q5 hk ?_; intro e; rw [e]
   ·intro w2 q2 hb1; replace hb := hb.next hb1; replace hb' := hb'.next hb1; replace hk := btz hk hb1; clear hb1
    refine qDz (nl 16) 18 (a' := { tmps := #[.agg C, .agg C', pt B 0, pt B' 0, .bool false, pt B 0, .int .u64 x.id, pt B' 0, .int .u64 y.id, .bool false, .bool false, pt B 1, .int .i64 x.kind, pt B' 1, .int .i64 y.kind, .bool false, .bool false, .bool false, pt B 2, .slice a2 n2 k2, pt B' 2, .slice a2' n2' k2', .bool false, .bool true, .bool true, .bool true, ud, ud, ud, ud, ud, .bool true, .bool true, ud, ud, ud, ud, ud, .bool true, ud, ud, ud, ud, ud, ud, ud, ud, ud, ud, ud, ud, ud, ud, ud, ud, ud, ud, ud, ud, ud, ud, ud, ud, ud, ud, ud, ud, ud, ud, ud, ud, ud, ud, ud, ud, ud, ud, ud, ud, ud, ud, ud, ud, ud, ud, ud], defers := [] }) (obs := []) (by kernel_rfl) trivial ?_
    refine qFz (by kernel_rfl) ?_
    go_wp2
    go_ret
    refine qjz q2 hk ?_; intro e; rw [e]
theorem jEz {X : Prop} {W w' : World} {b : Bool} (h : b = true ↔ X) (hk : Below W.heap.size W w') : AskP X W (.returned (.bool b)) w' := ⟨b, rfl, h, hk⟩
theorem Asks.of {f : FuncId} {args : Array Value} {W : World} {b : Bool} (h : Calls prog f args W fun e w' => e = .returned (.bool b) ∧ Below W.heap.size W w') : Asks f args (b = true) W := by
 refine h.mono ?_
 rintro e w' ⟨rfl, hk⟩
 exact jEz Iff.rfl hk
theorem uhz (n : Int) (w : World) : Asks 203 #[.int .u64 n] (idB n = true) w := by
 unfold Asks
 go_enter func203, ntmps203
 go_wp2
 all_goals go_ret
 all_goals (refine jEz ?_ (brz _ _); unfold idB; simp; omega)
theorem rid_any (n : Int) (w : World) : Asks 119 #[.int .u64 n] (idB n = true) w := by
 unfold Asks
 go_enter func119, ntmps119
 go_wp2
 all_goals go_ret
 all_goals (refine jEz ?_ (brz _ _); unfold idB; simp; omega)
theorem vIz (c l : Int) (w : World) : Asks 248 #[.agg #[.int .u64 c, .int .i64 l]] (¬ l = 5) w := by
 unfold Asks
 go_enter func248, ntmps248
 go_wp2
 all_goals go_ret
 all_goals (refine jEz ?_ ((brz _ w).alloc (lrz _) _); simp)
def jbz (lo hi : Int) : Bool := decide (lo ≤ hi) && decide (hi ≤ 2305843009213693952)
theorem uVz (lo hi : Int) (w : World) : Asks 275 #[.agg #[.int .u64 lo, .int .u64 hi]] (jbz lo hi = true) w := by
 unfold Asks
 go_enter func275, ntmps275
 go_wp2
 all_goals go_ret
 all_goals (refine jEz ?_ ((brz _ w).alloc (lrz _) _); unfold jbz; simp; omega)
theorem gEz (lo hi : Int) (w : World) : Asks 165 #[.agg #[.int .u64 lo, .int .u64 hi]] (jbz lo hi = true) w := by
 unfold Asks
 go_enter func165, ntmps165
 go_wp2
 all_goals go_ret
 all_goals (refine jEz ?_ ((brz _ w).alloc (lrz _) _); unfold jbz; simp; omega)
theorem span_any (lo hi : Int) (w : World) : Asks 254 #[.agg #[.int .u64 lo, .int .u64 hi]] (jbz lo hi = true) w := by
 have hB := (brz w.heap.size w).alloc (lrz _) (.cells #[.int .u64 lo, .int .u64 hi] 48)
 unfold Asks
 go_enter func254, ntmps254
 go_wp2_with (go_at_call 275; (with_reducible refine (uVz lo hi _).on ?_ ?_) <;> intro w1 hq hk)
 ·go_ret
  exact qpz hq.out (btz hB hk)
 ·go_ret
  exact qjz hq (btz hB hk) id
def noA (L : Lb) : Bool := L.all fun p => !decide (p.2 = 5)
variable {L : Lb}
theorem jYz : noA L = true ↔ ∀ i, i < L.length → ¬ (L.getD i (0, 0)).2 = 5 := by
 unfold noA
 rw [List.all_eq_true]
 constructor
 ·intro h i hi
  have := h L[i] (List.getElem_mem hi)
  simpa [List.getD_eq_getElem?_getD, List.getElem?_eq_getElem hi] using this
 ·intro h p hp
  obtain ⟨i, hi, e⟩ := List.mem_iff_getElem.1 hp
  have := h i hi
  simpa [List.getD_eq_getElem?_getD, List.getElem?_eq_getElem hi, e] using this
theorem qvz : qYz L = true ↔ (L.length ≤ 16 ∧ fitB L = true ∧ noA L = true) := by unfold qYz noA; simp
variable {ao : Option Addr} {n cap : Nat}
theorem u7z (hL : Lab w.heap.size w ao n cap L) : Asks 247 #[.slice ao n cap, .func (.func 248) #[] #[]] (noA L = true) w := by
 have hn : Hid (L.length = n) := hL.1
 have hnc := hL.2.1
 have hcm := hL.2.2.1.1
 unfold Asks
 go_enter func247, ntmps247
 go_wp2
 go_loopw [9] (fun i wr => ∃ k : Nat, k ≤ n ∧ i = .int .i64 k ∧ Hid (∀ j, j < k → ¬ (L.getD j (0, 0)).2 = 5) ∧ Below w.heap.size w wr) (fun i _ => n - (intOf i).toNat)
 case atStart => exact ⟨0, Nat.zero_le _, rfl, fun j hj => absurd hj (by omega), brz _ _⟩
 case round =>
  obtain ⟨k, hk, rfl, hal, hb⟩ := hrel
  have hbs := hb.size
  by_cases hkn : k < n
  ·obtain ⟨b, off, x, y, rfl, hB, d0, d1, hxy⟩ := hL.at hb hkn
   have hkn' : (k : Int) < n := by omega
   have hbw : b < wr.heap.size := ltz hB hbs
   have hal1 := hb.alloc hbs (.cells #[.int .u64 x, .int .i64 y] 86)
   go_wp2_with (go_at_call 248; (with_reducible refine (vIz x y _).on ?_ ?_) <;> intro w1 hq hk1)
   ·go_roundw
    case rel => exact ⟨k + 1, by omega, by go_num, fun j hj => by
      rcases Nat.lt_or_ge j k with h | h
      ·exact hal.out j h
      ·obtain rfl : j = k := by omega
       rw [hxy.out]; exact hq.out, btz hal1 hk1⟩
    case measure => simp [intOf]; omega
   ·go_ret
    exact qjz hq (btz hal1 hk1) (fun e => by have := jYz.1 e k (by rw [hn.out]; exact hkn); rw [hxy.out] at this; exact this)
  ·obtain rfl : k = n := by omega
   go_wp2
   go_ret
   exact qpz (jYz.2 fun i hi => hal.out i (by rw [hn.out] at hi; exact hi)) hb
theorem kwz {w0 w : World} (h0 : LabD (LtN w0) w0 ao n cap L) (hk : Below w0.heap.size w0 w) : Asks 204 #[.slice ao n cap] (qYz L = true) w := by
 have hL := h0.lab' hk
 have hn : Hid (L.length = n) := hL.1
 clear h0 hk
 unfold Asks
 by_cases h16 : n ≤ 16
 ·have h16' : (n : Int) ≤ 16 := by omega
  go_enter func204, ntmps204
  go_wp2_with (first | (go_at_call 246; (with_reducible refine (Asks.of (lfit_any hL (lrz _))).on ?_ ?_) <;> intro w1 hq hk1) | (go_at_call 247; (with_reducible refine (u7z (hL.next hk1)).on ?_ ?_) <;> intro w2 hq2 hk2))
  all_goals go_ret
  ·exact qpz (qvz.2 ⟨by rw [hn.out]; exact h16, hq.out, hq2.out⟩) (btz hk1 hk2)
  ·exact qjz hq2 (btz hk1 hk2) (fun e => (qvz.1 e).2.2)
  ·exact qjz hq hk1 (fun e => (qvz.1 e).2.1)
 ·have h16' : ¬ (n : Int) ≤ 16 := by omega
  go_enter func204, ntmps204
  go_wp2
  go_ret
  exact qjz (show Hid (¬ n ≤ 16) from h16) (brz _ _) (fun e => by have := (qvz.1 e).1; rw [hn.out] at this; exact this)
theorem xaz {w0 w : World} (h0 : LabD (LtN w0) w0 ao n cap L) (hk : Below w0.heap.size w0 w) : Asks 120 #[.slice ao n cap] (qYz L = true) w := by
 have hL := h0.lab' hk
 have hn : Hid (L.length = n) := hL.1
 have hnc := hL.2.1
 have hcm := hL.2.2.1.1
 clear h0 hk
 unfold Asks
 go_enter func120, ntmps120
 go_wp2
 go_loopw [3] (fun i wr => ∃ k : Nat, k ≤ n ∧ i = .int .i64 k ∧ Hid (∀ j, j < k → ¬ (L.getD j (0, 0)).2 = 5) ∧ Below w.heap.size w wr) (fun i _ => n - (intOf i).toNat)
 case atStart => exact ⟨0, Nat.zero_le _, rfl, fun j hj => absurd hj (by omega), brz _ _⟩
 case round =>
  obtain ⟨k, hk, rfl, hal, hb⟩ := hrel
  have hbs := hb.size
  by_cases hkn : k < n
  ·obtain ⟨b, off, x, y, rfl, hB, d0, d1, hxy⟩ := hL.at hb hkn
   have hkn' : (k : Int) < n := by omega
   by_cases hy : y = 5
   ·have hq : Hid (¬ noA L = true) := by
     refine (?_ : ¬ noA L = true)
     intro e; have := jYz.1 e k (by rw [hn.out]; exact hkn); rw [hxy.out] at this; exact this hy
    subst hy
    go_wp2
    go_ret
    exact qjz hq hb (fun e => (qvz.1 e).2.2)
   ·have hy' : (y == 5) = false := by rw [beq_eq_false_iff_ne]; exact hy
    have hyh : Hid (¬ y = 5) := hy
    clear hy
    go_wp2
    go_roundw
    case rel => exact ⟨k + 1, by omega, by go_num, fun j hj => by
      rcases Nat.lt_or_ge j k with h | h
      ·exact hal.out j h
      ·obtain rfl : j = k := by omega
       rw [hxy.out]; exact hyh.out, hb⟩
    case measure => simp [intOf]; omega
  ·obtain rfl : k = n := by omega
   have hno : Hid (noA L = true) := jYz.2 fun i hi => hal.out i (by rw [hn.out] at hi; exact hi)
   clear hal
   by_cases h16 : k ≤ 16
   ·have h16' : (k : Int) ≤ 16 := by omega
    go_wp2_with (go_at_call 163; (with_reducible refine (Asks.of (gNz (hL.later hb) hbs)).on ?_ ?_) <;> intro w1 hq hk1)
    ·go_ret
     exact qpz (qvz.2 ⟨by rw [hn.out]; exact h16, hq.out, hno.out⟩) (hb.trans (hk1.mono hbs))
    ·go_ret
     exact qjz hq (hb.trans (hk1.mono hbs)) (fun e => (qvz.1 e).2.1)
   ·have h16' : ¬ (k : Int) ≤ 16 := by omega
    go_wp2
    go_ret
    exact qjz (show Hid (¬ k ≤ 16) from h16) hb (fun e => by have := (qvz.1 e).1; rw [hn.out] at this; exact this)
theorem q5z {l b : Lb} : vbz l b = true ↔ (qYz l = true ∧ qYz b = true ∧ leqB l b = true) := by unfold vbz; simp
theorem xIz {w0 w : World} {ao ao' : Option Addr} {n cap n' cap' : Nat} {L L' : Lb} (h : LabD (LtN w0) w0 ao n cap L) (h' : LabD (LtN w0) w0 ao' n' cap' L') (hk : Below w0.heap.size w0 w) : Asks 210 #[.slice ao n cap, .slice ao' n' cap'] (vbz L L' = true) w := by
 unfold Asks
 have hb0 := brz w.heap.size w
 go_enter func210, ntmps210
 go_wp2_with (first
  | (go_at_call 204; (with_reducible refine (kwz h hk).on ?_ ?_) <;> (intro w1 hq hk1; replace hk := btz hk hk1; replace hb0 := btz hb0 hk1))
  | (go_at_call 204; (with_reducible refine (kwz h' hk).on ?_ ?_) <;> (intro w2 hq2 hk2; replace hk := btz hk hk2; replace hb0 := btz hb0 hk2))
  | (go_at_call 223; (with_reducible refine (Asks.of (kuz (B := 0) (h.lab' hk) (h'.lab' hk))).on ?_ ?_) <;> (intro w3 hq3 hk3; replace hb0 := btz hb0 hk3)))
 all_goals go_ret
 ·exact qpz (q5z.2 ⟨hq.out, hq2.out, hq3.out⟩) hb0
 ·exact qjz hq3 hb0 (fun e => (q5z.1 e).2.2)
 ·exact qjz hq2 hb0 (fun e => (q5z.1 e).2.1)
 ·exact qjz hq hb0 (fun e => (q5z.1 e).1)
theorem kQz : ∀ {l : List Int}, risB l = true ↔ ∀ i, i + 1 < l.length → l.getD i 0 < l.getD (i + 1) 0 := by
 intro l
 unfold risB
 rw [decide_eq_true_iff]
 induction l with
 | nil => simp
 | cons x l ih =>
  rw [List.pairwise_cons, ih]
  constructor
  ·rintro ⟨h1, h2⟩ i hi
   cases i with
   | zero =>
    have hl : 0 < l.length := by simpa using hi
    have := h1 l[0] (List.getElem_mem hl)
    simpa [List.getD_eq_getElem?_getD, List.getElem?_eq_getElem hl] using this
   | succ i => exact h2 i (by simpa using hi)
  ·intro h
   have h2 : ∀ i, i + 1 < l.length → l.getD i 0 < l.getD (i + 1) 0 := fun i hi => h (i + 1) (by simpa using hi)
   refine ⟨fun y hy => ?_, h2⟩
   obtain ⟨j, hj, rfl⟩ := List.mem_iff_getElem.1 hy
   have h0 : x < l.getD 0 0 := h 0 (by simp; omega)
   have : ∀ j, j < l.length → x < l.getD j 0 := by
    intro j
    induction j with
    | zero => intro _; exact h0
    | succ j ihj => intro hj; exact Int.lt_trans (ihj (by omega)) (h2 j hj)
   have := this j hj
   simpa [List.getD_eq_getElem?_getD, List.getElem?_eq_getElem hj] using this
def allI (l : List Int) : Bool := l.all idB
theorem kAz {l : List Int} : allI l = true ↔ ∀ i, i < l.length → idB (l.getD i 0) = true := by
 unfold allI
 rw [List.all_eq_true]
 constructor
 ·intro h i hi
  have := h l[i] (List.getElem_mem hi)
  simpa [List.getD_eq_getElem?_getD, List.getElem?_eq_getElem hi] using this
 ·intro h p hp
  obtain ⟨i, hi, e⟩ := List.mem_iff_getElem.1 hp
  have := h i hi
  simpa [List.getD_eq_getElem?_getD, List.getElem?_eq_getElem hi, e] using this
theorem wKz {p : Nat → Prop} {k : Nat} (h : ∀ i, i < k → p i) (hk : p k) : ∀ i, i < k + 1 → p i := fun i hi => by
 rcases Nat.lt_or_ge i k with h' | h'
 ·exact h i h'
 ·have : i = k := by omega
  rw [this]; exact hk
theorem u6z {w0 w : World} {L : List Int} (h0 : CtD (LtN w0) w0 ao n cap L) (hk0 : Below w0.heap.size w0 w) : Asks 206 #[.slice ao n cap, .func (.func 203) #[] #[]] (allI L = true) w := by
 have hL := h0.ct' hk0
 clear h0 hk0
 have hn : Hid (L.length = n) := hL.1
 have hnc := hL.2.1
 have hcm := hL.2.2.1.1
 unfold Asks
 go_enter func206, ntmps206
 go_wp2
 go_loopw [9] (fun i wr => ∃ k : Nat, k ≤ n ∧ i = .int .i64 k ∧ Hid (∀ j, j < k → idB (L.getD j 0) = true) ∧ Below w.heap.size w wr) (fun i _ => n - (intOf i).toNat)
 case atStart => exact ⟨0, Nat.zero_le _, rfl, fun j hj => absurd hj (by omega), brz _ _⟩
 case round =>
  obtain ⟨k, hk, rfl, hal, hb⟩ := hrel
  have hbs := hb.size
  by_cases hkn : k < n
  ·obtain ⟨b, off, x, rfl, hB, hx, d0⟩ := (hL.laterK fun b hb' => hb.block b hb').at hkn
   have hkn' : (k : Int) < n := by omega
   go_wp2_with (go_at_call 203; (with_reducible refine (uhz x _).on ?_ ?_) <;> intro w1 hq hk1)
   ·go_roundw
    case rel => exact ⟨k + 1, by omega, by go_num, wKz hal.out (by rw [hx.out]; exact hq.out), hb.trans (hk1.mono hbs)⟩
    case measure => simp [intOf]; omega
   ·go_ret
    exact qjz hq (hb.trans (hk1.mono hbs)) (fun e => by have := kAz.1 e k (by rw [hn.out]; exact hkn); rw [hx.out] at this; exact this)
  ·obtain rfl : k = n := by omega
   go_wp2
   go_ret
   exact qpz (kAz.2 fun i hi => hal.out i (by rw [hn.out] at hi; exact hi)) hb
theorem u8z {b o : Nat} {R : Nat → Lb} (h : Four w b o R) : Asks 253 #[.slice (some ⟨b, o, none⟩) 4 4, .func (.func 204) #[] #[]] (∀ i, i < 4 → qYz (R i) = true) w := by
 unfold Asks
 go_enter func253, ntmps253
 go_wp2
 go_loopw [9] (fun i wr => ∃ k : Nat, k ≤ 4 ∧ i = .int .i64 k ∧ Hid (∀ j, j < k → qYz (R j) = true) ∧ Below w.heap.size w wr) (fun i _ => 4 - (intOf i).toNat)
 case atStart => exact ⟨0, Nat.zero_le _, rfl, fun j hj => absurd hj (by omega), brz _ _⟩
 case round =>
  obtain ⟨k, hk, rfl, hal, hb⟩ := hrel
  have hbs := hb.size
  by_cases hkn : k < 4
  ·have hh := h.next hb
   obtain ⟨ai, ni, ci, q1, q2⟩ := hh.2 k hkn
   have hkn' : (k : Int) < 4 := by omega
   clear hh
   go_wp2_with (go_at_call 204; (with_reducible refine (kwz q2 (brz _ _)).on ?_ ?_) <;> intro w1 hq hk1)
   ·go_roundw
    case rel => exact ⟨k + 1, by omega, by go_num, wKz hal.out hq.out, hb.trans (hk1.mono hbs)⟩
    case measure => simp [intOf]; omega
   ·go_ret
    exact qjz hq (hb.trans (hk1.mono hbs)) (fun e => e k hkn)
  ·obtain rfl : k = 4 := by omega
   go_wp2
   go_ret
   exact qpz hal.out hb
theorem jtz (n : Int) (w : World) : Calls prog 249 #[.int .u64 n] w fun e w' => e = .returned (.int .u64 n) ∧ w' = w := by
 go_enter func249, ntmps249
 go_wp2
 go_ret
 exact ⟨rfl, rfl⟩
theorem g9z {C : Array Value} {x : Ob} (h : ObD (LtN w) w C x) (c5 : C[5]? = some (.slice ao n cap)) :
  Calls prog 207 #[.agg C] w fun e w' => e = .returned (.agg #[.slice ao n cap, .func (.func 249) #[] #[]]) ∧ Below w.heap.size w w' := by
 go_enter func207, ntmps207
 go_wp2_with (first
  | (with_reducible refine qcz rfl _ _ rfl C rfl ?_; intro B W hB hb hk; have q6 := fun o => cellLater ((hb.cell 5).trans c5) o))
 refine bodyPost_ret (v := .agg #[.slice ao n cap, .func (.func 249) #[] #[]]) (by simp [results, Tryz.f207, go_sem]) rfl ?_
 exact ⟨rfl, hk.alloc hk.size _⟩
theorem uRz {L : List Int} (hL : CtD (LtN w) w ao n cap L) : Asks 208 #[.agg #[.slice ao n cap, .func (.func 249) #[] #[]]] (risB L = true) w := by
 have hn : Hid (L.length = n) := hL.1
 have hnc := hL.2.1
 have hcm := hL.2.2.1.1
 unfold Asks
 go_enter func208, ntmps208
 go_wp2
 have hA := (brz w.heap.size w).alloc (lrz _) (.cells #[.slice ao n cap, .func (.func 249) #[] #[]] 224)
 have hBk := Blk.new w #[.slice ao n cap, .func (.func 249) #[] #[]] 224
 generalize w.alloc (.cells #[.slice ao n cap, .func (.func 249) #[] #[]] 224) = W0 at hA hBk ⊢
 obtain ⟨B, hB⟩ : ∃ B, w.heap.size = B := ⟨_, rfl⟩
 have hBh : Hid (w.heap.size = B) := hB
 rw [hB] at hBk hA ⊢
 clear hB
 go_loopw [3] (fun i wr => ∃ k : Nat, 1 ≤ k ∧ (k ≤ n ∨ k = 1) ∧ i = .int .i64 k ∧ Hid (∀ j, j + 1 < k → L.getD j 0 < L.getD (j + 1) 0) ∧ Blk wr B #[.slice ao n cap, .func (.func 249) #[] #[]] 224 ∧ Below B w wr) (fun i _ => n - (intOf i).toNat)
 case atStart => exact ⟨1, lrz _, .inr rfl, rfl, fun j hj => absurd hj (by omega), hBk, hA⟩
 case round =>
  obtain ⟨k, hk1, hkn1, rfl, hal, hbk, hb⟩ := hrel
  have e0 := (hbk.cell 0).trans (show _ = some (.slice ao n cap) from rfl)
  have e1 := (hbk.cell 1).trans (show _ = some (.func (.func 249) #[] #[]) from rfl)
  by_cases hkn : k < n
  ·obtain ⟨j, hj⟩ : ∃ j, Hid (k = j + 1) := ⟨k - 1, by show _ = _; omega⟩
   have hw : IntKind.i64.wrap ((k : Int) - 1) = (j : Int) := by have := hj.out; rw [IntKind.wrap_i64]; omega
   have hjn : j < n := by have := hj.out; omega
   have hjn' : (j : Int) < n := by omega
   have hkn' : (k : Int) < n := by omega
   have hLw := hL.laterK fun b hb' => hb.block b (by rw [← hBh.out]; exact hb')
   obtain ⟨b, off, x, rfl, hbb, hx, d0⟩ := hLw.at hjn
   obtain ⟨b', off', y, e', hbb', hy, d1⟩ := hLw.at hkn
   cases e'
   clear hLw
   by_cases hxy : x < y
   ·have hal2 : Hid (∀ i, i + 1 < k + 1 → L.getD i 0 < L.getD (i + 1) 0) := by
     refine (?_ : ∀ i, i + 1 < k + 1 → L.getD i 0 < L.getD (i + 1) 0)
     intro i hi
     rcases Nat.lt_or_ge (i + 1) k with h | h
     ·exact hal.out i h
     ·have hij : i = j := by have := hj.out; omega
      rw [hij, hx.out, ← hj.out, hy.out]; exact hxy
    have hd : ¬ (y ≤ x) := by omega
    have hd' : decide (y ≤ x) = false := decide_eq_false hd
    go_wp2
    go_quiet (first | (go_at_call 249; refine Calls.quiet_of_same (jtz _ _)))
    go_wp2
    go_roundw
    case rel => exact ⟨k + 1, by omega, .inl (by omega), by go_num, hal2, hbk.next (PgM.below_drewN (brz _ _) _), PgM.below_drewN hb _⟩
    case measure => simp [intOf]; omega
   ·have hq : Hid (¬ risB L = true) := by
     refine (?_ : ¬ risB L = true)
     intro e
     have := kQz.1 e j (by rw [hn.out, ← hj.out]; exact hkn)
     rw [hx.out, ← hj.out, hy.out] at this
     exact hxy this
    have hd : y ≤ x := by omega
    have hd' : decide (y ≤ x) = true := decide_eq_true hd
    go_wp2
    go_quiet (first | (go_at_call 249; refine Calls.quiet_of_same (jtz _ _)))
    go_wp2
    go_ret
    exact qjz hq (by rw [hBh.out]; exact PgM.below_drewN hb _) id
  ·have hkn' : ¬ (k : Int) < n := by omega
   go_wp2
   go_ret
   exact qpz (kQz.2 fun i hi => hal.out i (by rw [hn.out] at hi; omega)) (by rw [hBh.out]; exact hb)
section
variable {w : World}
theorem w6z (t : TypeId) (x y : Operand) (k : IntKind) (m n : Int) : ∃ b : Bool, (do eqGuard .geq t x y (.int k m) (.int k n); binOp .geq t (.int k m) (.int k n)).run prog w = .ok (.bool b) w ∧ (b = true ↔ n ≤ m) :=
 ⟨decide (n ≤ m), by simp [eqGuard, binOp, Op.intCmp], by simp⟩
theorem wez (t : TypeId) (x y : Operand) (k : IntKind) (m n : Int) : ∃ b : Bool, (do eqGuard .leq t x y (.int k m) (.int k n); binOp .leq t (.int k m) (.int k n)).run prog w = .ok (.bool b) w ∧ (b = true ↔ m ≤ n) :=
 ⟨decide (m ≤ n), by simp [eqGuard, binOp, Op.intCmp], by simp⟩
theorem wnz (t : TypeId) (x y : Operand) (k : IntKind) (m n : Int) : ∃ b : Bool, (do eqGuard .lss t x y (.int k m) (.int k n); binOp .lss t (.int k m) (.int k n)).run prog w = .ok (.bool b) w ∧ (b = true ↔ m < n) :=
 ⟨decide (m < n), by simp [eqGuard, binOp, Op.intCmp], by simp⟩
theorem qLz (t : TypeId) (x y : Operand) (k : IntKind) (m n : Int) : ∃ b : Bool, (do eqGuard .gtr t x y (.int k m) (.int k n); binOp .gtr t (.int k m) (.int k n)).run prog w = .ok (.bool b) w ∧ (b = true ↔ n < m) :=
 ⟨decide (n < m), by simp [eqGuard, binOp, Op.intCmp], by simp⟩
end
theorem q8z {t : Th} : thrB t = true ↔ ((∀ i, i < 4 → qYz (labs t i) = true) ∧ 0 ≤ t.state ∧ t.state ≤ 2 ∧ t.alerts.length ≤ 8 ∧ jbz t.lo t.hi = true ∧ (t.state = 1 ∨ (t.wc = 0 ∧ t.wi = 0 ∧ t.wx = 0 ∧ t.wv = 0 ∧ t.wd = false))) := by
 have e : (∀ i, i < 4 → qYz (labs t i) = true) ↔ (qYz t.l0 = true ∧ qYz t.l1 = true ∧ qYz t.l2 = true ∧ qYz t.l3 = true) :=
  ⟨fun h => ⟨h 0 (by omega), h 1 (by omega), h 2 (by omega), h 3 (by omega)⟩, fun h i hi => by
   rcases i with _ | _ | _ | _ | i
   ·exact h.1
   ·exact h.2.1
   ·exact h.2.2.1
   ·exact h.2.2.2
   ·omega⟩
 rw [e]
 unfold thrB waitB spanB jbz
 simp
 constructor
 ·rintro ⟨h1, h2, h3, h4, h5⟩; exact ⟨⟨h1, h2, h3, h4⟩, h5⟩
 ·rintro ⟨⟨h1, h2, h3, h4⟩, h5⟩; exact ⟨h1, h2, h3, h4, h5⟩
theorem w8z {w : World} {T : Array Value} {t : Th} (h : ThD (LtN w) w T t) : Asks 211 #[.agg T] (thrB t = true) w := by
 have hz := h.size
 obtain ⟨a17, n17, k17, c17, l17⟩ := h.f.clear
 obtain ⟨a28, n28, k28, c28, l28⟩ := h.f.alerts
 have hn28 : Hid (t.alerts.length = n28) := l28.1
 have x29 := ext2 h.f.lo h.f.hi
 have x23 := ext5 h.f.wc h.f.wi h.f.wx h.f.wv h.f.wd
 have c22 := h.f.state
 have ga0 := isAgg39
 have ga1 := isAgg22
 have ga2 := isAgg3
 have ga3 := isAgg4
 have ga4 := isAgg40
 have ga5 := isAgg41
 unfold Asks
 go_enter func211, ntmps211
 go_wp2_with (first
  | go_skip
  | (with_reducible refine qcz rfl _ _ rfl T rfl ?_; intro B W hB hb hk)
  | (with_reducible refine qaz (by kernel_rfl) _ _ rfl B _ rfl _ _ hb _ (by assumption) (by assumption) ?_)
  | (with_reducible refine qnz (by kernel_rfl) 48 _ rfl B _ rfl 2 _ _ hb _ (by assumption) (by omega) _ underlying48 (by kernel_rfl) jkz ?_)
  | (with_reducible refine qnz (by kernel_rfl) 46 _ rfl B _ rfl 5 _ _ hb _ (by assumption) (by omega) _ underlying46 (by kernel_rfl) jlz ?_)
  | ((with_reducible refine qgz (by kernel_rfl) .geq _ _ _ _ rfl _ _ rfl rfl (w6z _ _ _ _ _ _) ?_ ?_) <;> intro hq)
  | ((with_reducible refine qgz (by kernel_rfl) .leq _ _ _ _ rfl _ _ rfl rfl (wez _ _ _ _ _ _) ?_ ?_) <;> intro hq)
  | ((with_reducible refine qgz (by kernel_rfl) .eql _ _ _ _ rfl _ _ rfl rfl (qtz _ _ _ _ _ _) ?_ ?_) <;> intro hq)
  | ((with_reducible refine qgz (by kernel_rfl) .eql _ _ _ _ rfl _ _ rfl rfl (kzz _ _ _ _ _ _ _ _ _ _ _ _) ?_ ?_) <;> intro hq)
  | (go_at_call 253; (with_reducible refine (u8z (ThD.four (h.next hk) hb)).on ?_ ?_) <;> (intro w1 hq hb1; replace hb := hb.next hb1; replace hk := btz hk hb1; clear hb1))
  | (go_at_call 254; (with_reducible refine (span_any t.lo t.hi _).on ?_ ?_) <;> (intro w1 hq hb1; replace hb := hb.next hb1; replace hk := btz hk hb1; clear hb1)))
 all_goals go_ret
 all_goals first
  | (refine qpz (q8z.2 ⟨Hid.out (by assumption), Hid.out (by assumption), Hid.out (by assumption), ?_, Hid.out (by assumption), .inl (Hid.out (by assumption))⟩) hk; (have hl : (n28 : Int) ≤ 8 := Hid.out (by assumption)); rw [hn28.out]; omega)
  | (refine qpz (q8z.2 ⟨Hid.out (by assumption), Hid.out (by assumption), Hid.out (by assumption), ?_, Hid.out (by assumption), .inr (Hid.out (by assumption))⟩) hk; (have hl : (n28 : Int) ≤ 8 := Hid.out (by assumption)); rw [hn28.out]; omega)
  | (refine qjz (Y := (t.wc = 0 ∧ t.wi = 0 ∧ t.wx = 0 ∧ t.wv = 0 ∧ t.wd = false)) (by assumption) hk (fun e => ?_); exact (q8z.1 e).2.2.2.2.2.resolve_left (Hid.out (by assumption)))
  | (refine qjz (Y := jbz t.lo t.hi = true) (by assumption) hk (fun e => ?_); exact (q8z.1 e).2.2.2.2.1)
  | (have hl : 8 < (n28 : Int) := Hid.out (by assumption); refine ⟨false, rfl, ⟨fun e => absurd e Bool.false_ne_true, fun e => ?_⟩, hk⟩; exfalso; have := (q8z.1 e).2.2.2.1; rw [hn28.out] at this; omega)
  | (have hl : 2 < t.state := Hid.out (by assumption); refine ⟨false, rfl, ⟨fun e => absurd e Bool.false_ne_true, fun e => ?_⟩, hk⟩; exfalso; have := (q8z.1 e).2.2.1; omega)
  | (have hl : t.state < 0 := Hid.out (by assumption); refine ⟨false, rfl, ⟨fun e => absurd e Bool.false_ne_true, fun e => ?_⟩, hk⟩; exfalso; have := (q8z.1 e).2.1; omega)
  | (refine qjz (Y := ∀ i, i < 4 → qYz (labs t i) = true) (by assumption) hk (fun e => ?_); exact (q8z.1 e).1)
  | fail
theorem kMz {w : World} {T : Array Value} {t : Th} {ao : Option Addr} {n cap : Nat} {l : Lb} (hl : LabD (LtN w) w ao n cap l) (h : ThD (LtN w) w T t) : Asks 125 #[.slice ao n cap, .agg T] (qYz t.clear = true ∧ wWz l t.clear = true ∧ thrB t = true) w := by
 have hz := h.size
 obtain ⟨a17, n17, k17, c17, l17⟩ := h.f.clear
 obtain ⟨a28, n28, k28, c28, l28⟩ := h.f.alerts
 have hn28 : Hid (t.alerts.length = n28) := l28.1
 have x29 := ext2 h.f.lo h.f.hi
 have x23 := ext5 h.f.wc h.f.wi h.f.wx h.f.wv h.f.wd
 have c22 := h.f.state
 have ga0 := isAgg39
 have ga1 := isAgg22
 have ga2 := isAgg3
 have ga3 := isAgg4
 have ga4 := isAgg40
 have ga5 := isAgg41
 unfold Asks
 go_enter func125, ntmps125
 go_wp2_with (first
  | go_skip
  | (with_reducible refine qcz rfl _ _ rfl T rfl ?_; intro B W hB hb hk))
 have hf := ThD.four (h.next hk) hb
 go_loopw [5] (fun i wr => ∃ k : Nat, k ≤ 4 ∧ i = .int .i64 k ∧ Hid (∀ j, j < k → qYz (labs t j) = true) ∧ Below W.heap.size W wr) (fun i _ => 4 - (intOf i).toNat)
 case atStart => exact ⟨0, Nat.zero_le _, rfl, fun j hj => absurd hj (by omega), brz _ _⟩
 case round =>
  obtain ⟨k, hk4, rfl, hal, hbw⟩ := hrel
  by_cases hkn : k < 4
  ·obtain ⟨ai, ni, ci, d1, q2⟩ := (hf.next hbw).2 k hkn
   have hkn' : (k : Int) < 4 := by omega
   clear hf
   go_wp2_with (go_at_call 120; (with_reducible refine (xaz q2 (brz _ _)).on ?_ ?_) <;> intro w1 hq hb1)
   ·go_roundw
    case rel => exact ⟨k + 1, by omega, by go_num, wKz hal.out hq.out, btz hbw hb1⟩
    case measure => simp [intOf]; omega
   ·go_ret
    exact qjz hq (hk.trans ((btz hbw hb1).mono hk.size)) (fun e => (q8z.1 e.2.2).1 k hkn)
  ·obtain rfl : k = 4 := by omega
   replace hb := hb.next hbw
   replace hk := btz hk hbw
   clear hf hbw
   simp only [show ((4 : Nat) : Int) = 4 from rfl]
   go_wp2_with (first
     | go_skip
     | (with_reducible refine qaz (by kernel_rfl) _ _ rfl B _ rfl _ _ hb _ (by assumption) (by assumption) ?_)
     | (with_reducible refine qnz (by kernel_rfl) 46 _ rfl B _ rfl 5 _ _ hb _ (by assumption) (by omega) _ underlying46 (by kernel_rfl) jlz ?_)
     | ((with_reducible refine qgz (by kernel_rfl) .neq _ _ _ _ rfl _ _ rfl rfl (wjz _ _ _ _ _ _) ?_ ?_) <;> intro hq)
     | ((with_reducible refine qgz (by kernel_rfl) .neq _ _ _ _ rfl _ _ rfl rfl (neg_wait _ _ _ _ _ _ _ _ _ _ _ _) ?_ ?_) <;> intro hq)
     | (with_reducible refine qnz (by kernel_rfl) 48 _ rfl B _ rfl 2 _ _ hb _ (by assumption) (by omega) _ underlying48 (by kernel_rfl) jkz ?_)
     | ((with_reducible refine qgz (by kernel_rfl) .geq _ _ _ _ rfl _ _ rfl rfl (w6z _ _ _ _ _ _) ?_ ?_) <;> intro hq)
     | ((with_reducible refine qgz (by kernel_rfl) .leq _ _ _ _ rfl _ _ rfl rfl (wez _ _ _ _ _ _) ?_ ?_) <;> intro hq)
     | (go_at_call 120; (with_reducible refine (xaz l17 hk).on ?_ ?_) <;> (intro w1 hq hb1; replace hb := hb.next hb1; replace hk := btz hk hb1; clear hb1))
     | (go_at_call 19; (with_reducible refine (Asks.of (kOz (hl.lab' hk) (l17.lab' hk))).on ?_ ?_) <;> (intro w1 hq hb1; replace hb := hb.next hb1; replace hk := btz hk hb1; clear hb1))
     | (go_at_call 165; (with_reducible refine (gEz t.lo t.hi _).on ?_ ?_) <;> (intro w1 hq hb1; replace hb := hb.next hb1; replace hk := btz hk hb1; clear hb1)))
   all_goals (first | go_ret | skip)
   all_goals first
     | (refine qjz (Y := (t.wc = 0 ∧ t.wi = 0 ∧ t.wx = 0 ∧ t.wv = 0 ∧ t.wd = false)) (by assumption) hk (fun e => ?_); exact (q8z.1 e.2.2).2.2.2.2.2.resolve_left (Hid.out (by assumption)))
     | (refine qpz ⟨Hid.out (by assumption), Hid.out (by assumption), q8z.2 ⟨Hid.out (by assumption), Hid.out (by assumption), Hid.out (by assumption), ?_, Hid.out (by assumption), .inl (Classical.not_not.1 (Hid.out (by assumption)))⟩⟩ hk; (have hl : (n28 : Int) ≤ 8 := Hid.out (by assumption)); rw [hn28.out]; omega)
     | (refine qpz ⟨Hid.out (by assumption), Hid.out (by assumption), q8z.2 ⟨Hid.out (by assumption), Hid.out (by assumption), Hid.out (by assumption), ?_, Hid.out (by assumption), .inr (Classical.not_not.1 (Hid.out (by assumption)))⟩⟩ hk; (have hl : (n28 : Int) ≤ 8 := Hid.out (by assumption)); rw [hn28.out]; omega)
     | (refine qjz (Y := jbz t.lo t.hi = true) (by assumption) hk (fun e => ?_); exact (q8z.1 e.2.2).2.2.2.2.1)
     | (have hl : 8 < (n28 : Int) := Hid.out (by assumption); refine ⟨false, rfl, ⟨fun e => absurd e Bool.false_ne_true, fun e => ?_⟩, hk⟩; exfalso; have := (q8z.1 e.2.2).2.2.2.1; rw [hn28.out] at this; omega)
     | (have hl : 2 < t.state := Hid.out (by assumption); refine ⟨false, rfl, ⟨fun e => absurd e Bool.false_ne_true, fun e => ?_⟩, hk⟩; exfalso; have := (q8z.1 e.2.2).2.2.1; omega)
     | (have hl : t.state < 0 := Hid.out (by assumption); refine ⟨false, rfl, ⟨fun e => absurd e Bool.false_ne_true, fun e => ?_⟩, hk⟩; exfalso; have := (q8z.1 e.2.2).2.1; omega)
     | (refine qjz (Y := wWz l t.clear = true) (by assumption) hk (fun e => ?_); exact e.2.1)
     | (refine qjz (Y := qYz t.clear = true) (by assumption) hk (fun e => ?_); exact e.1)
     | fail
section
variable {P : Program} {ops : Array Oper} {rest : List Oper} {op : Oper} {a : Act} {Q : Exit → Act → World → Prop} {w : World}
theorem qhz (hw : Region.wanted op (yielded ops a.tmps) = true) (ty : TypeId) (x : Operand) (ho : op.op = .load ty x) (B : Nat) (hx : a.eval x = .pointer (some ⟨B, 0, none⟩)) (C : Array Value) (hB : Blk w B C ty) (d : TypeDesc)
  (hu : P.underlying ty = some d) (hd : d.isRow = true) (hi : (P.info? ty).map (·.size) = some C.size) (h : wpList P ops Q rest (a.put op.dst (.agg C)) w) : wpList P ops Q (op :: rest) a w := by
 refine q7z hw ?_ h
 have := qBz (S := fun W => W = w) (P := P) (fun _ e => by rw [e]; exact hB) hu hd hi w rfl
 unfold execOp
 simp [ho, hx, Instr.loadAt, Instr.sureAddr, this]
end
variable {x : Ob}
theorem qSz : comB x = true ↔ (idB x.id = true ∧ 1 ≤ x.quota ∧ x.quota ≤ 4096 ∧ qYz x.label = true ∧ (x.kind = 4 ∨ wOz x.label = [])) := by unfold comB; simp
theorem gYz {w0 w : World} {ao : Option Addr} {n cap : Nat} {L : Lb} (h : LabD (LtN w0) w0 ao n cap L) (hk : Below w0.heap.size w0 w) (hn : n < 274877906944) : Calls prog 205 #[.slice ao n cap] w fun e w' => ∃ ao1 cap1, e = .returned (.slice ao1 (wOz L).length cap1) ∧ Below w.heap.size w w' := by
 refine (vAz (h.lab' hk) hn).mono ?_
 rintro e w' ⟨ao1, n1, cap1, rfl, hc, hb⟩
 have e1 := hc.1
 subst e1
 exact ⟨ao1, cap1, rfl, hb⟩
theorem bcz {L : Lb} : ((wOz L).length : Int) = 0 ↔ wOz L = [] := by
 constructor
 ·intro h; exact List.eq_nil_of_length_eq_zero (by omega)
 ·intro h; rw [h]; rfl
theorem kJz {w : World} {C : Array Value} (h : ObD (LtN w) w C x) : Asks 169 #[.agg C] (comB x = true) w := by
 have hz := h.size
 have c0 := h.id
 have c1 := h.kind
 obtain ⟨a2, n2, k2, c2, l2⟩ := h.label
 have hn2 : Hid (x.label.length = n2) := l2.1
 have c3 := h.quota
 have c4 := h.fixed
 obtain ⟨a5, n5, k5, c5, l5⟩ := h.links
 have hn5 : Hid (x.links.length = n5) := l5.1
 obtain ⟨a6, n6, k6, c6, l6⟩ := h.data
 have hn6 : Hid (x.data.length = n6) := l6.1
 obtain ⟨a7, n7, k7, c7, l7⟩ := h.maps
 have hn7 : Hid (x.maps.length = n7) := l7.1
 obtain ⟨a49, n49, k49, c49, l49⟩ := h.inn
 have hn49 : Hid (x.inn.length = n49) := l49.1
 obtain ⟨a50, n50, k50, c50, l50⟩ := h.out
 have hn50 : Hid (x.out.length = n50) := l50.1
 obtain ⟨a25, n25, k25, c25, l25⟩ := h.th.clear
 obtain ⟨a43, n43, k43, c43, l43⟩ := h.gt.grant
 obtain ⟨a44, n44, k44, c44, l44⟩ := h.gt.clear
 replace c25 : C[25]? = some (.slice a25 n25 k25) := c25
 replace c43 : C[43]? = some (.slice a43 n43 k43) := c43
 replace c44 : C[44]? = some (.slice a44 n44 k44) := c44
 have ga0 := isAgg39
 have ga1 := isAgg22
 have ga2 := isAgg3
 have ga3 := isAgg4
 have ga4 := isAgg40
 have ga5 := isAgg41
 have hkl : ∀ (_ : qYz x.label = true), n2 < 274877906944 := fun e => by
  have := (qvz.1 e).1
  rw [hn2.out] at this; omega
 unfold Asks
 go_enter func169, ntmps169
 go_wp2_with (first
  | go_skip
  | (with_reducible refine qcz rfl _ _ rfl C rfl ?_; intro B W hB hb hk)
  | (with_reducible refine qaz (by kernel_rfl) _ _ rfl B _ rfl _ _ hb _ (by assumption) (by assumption) ?_)
  | ((with_reducible refine qgz (by kernel_rfl) .geq _ _ _ _ rfl _ _ rfl rfl (w6z _ _ _ _ _ _) ?_ ?_) <;> intro hq)
  | ((with_reducible refine qgz (by kernel_rfl) .leq _ _ _ _ rfl _ _ rfl rfl (wez _ _ _ _ _ _) ?_ ?_) <;> intro hq)
  | ((with_reducible refine qgz (by kernel_rfl) .eql _ _ _ _ rfl _ _ rfl rfl (qtz _ _ _ _ _ _) ?_ ?_) <;> intro hq)
  | (go_at_call 203; (with_reducible refine (uhz x.id _).on ?_ ?_) <;> (intro w1 hq hb1; replace hb := hb.next hb1; replace hk := btz hk hb1; clear hb1))
  | (go_at_call 204; (with_reducible refine (kwz l2 hk).on ?_ ?_) <;> (intro w1 hq hb1; replace hb := hb.next hb1; replace hk := btz hk hb1; clear hb1))
  | (go_at_call 205; (with_reducible refine (gYz l2 hk ?hn).mono ?_); (case hn => exact hkl (Hid.out (by assumption))); rintro e w1 ⟨ao1, cap1, rfl, hb1⟩; replace hb := hb.next hb1; replace hk := btz hk hb1; clear hb1))
 all_goals go_ret
 all_goals first
  | (exact qpz (qSz.2 ⟨Hid.out (by assumption), Hid.out (by assumption), Hid.out (by assumption), Hid.out (by assumption), .inl (Hid.out (by assumption))⟩) hk)
  | (exact qpz (qSz.2 ⟨Hid.out (by assumption), Hid.out (by assumption), Hid.out (by assumption), Hid.out (by assumption), .inr (bcz.1 (Hid.out (by assumption)))⟩) hk)
  | (refine qjz (Y := ((wOz x.label).length : Int) = 0) (by assumption) hk (fun e => ?_); exact bcz.2 ((qSz.1 e).2.2.2.2.resolve_left (Hid.out (by assumption))))
  | (refine qjz (Y := qYz x.label = true) (by assumption) hk (fun e => ?_); exact (qSz.1 e).2.2.2.1)
  | (have hl : 4096 < x.quota := Hid.out (by assumption); refine ⟨false, rfl, ⟨fun e => absurd e Bool.false_ne_true, fun e => ?_⟩, hk⟩; exfalso; have := (qSz.1 e).2.2.1; omega)
  | (have hl : x.quota < 1 := Hid.out (by assumption); refine ⟨false, rfl, ⟨fun e => absurd e Bool.false_ne_true, fun e => ?_⟩, hk⟩; exfalso; have := (qSz.1 e).2.1; omega)
  | (refine qjz (Y := idB x.id = true) (by assumption) hk (fun e => ?_); exact (qSz.1 e).1)
  | fail
theorem own1 (h : x.kind = 1) : ownB x = true ↔ ((x.data.length : Int) ≤ 16 * (x.quota - 1)) := by unfold ownB; rw [if_pos h]; try simp
theorem own2 (h : x.kind = 2) : ownB x = true ↔ (x.links.length ≤ 64 ∧ allI x.links = true ∧ risB x.links = true) := by unfold ownB; rw [if_neg (by omega), if_pos h]; try simp [allI]
theorem own3 (h : x.kind = 3) : ownB x = true ↔ (PgM.Pg.fitB x.maps = true) := by unfold ownB; rw [if_neg (by omega), if_neg (by omega), if_pos h]; try simp [allI]
theorem own4 (h : x.kind = 4) : ownB x = true ↔ (x.fixed = false ∧ vbz x.label x.th.clear = true ∧ thrB x.th = true) := by unfold ownB; rw [if_neg (by omega), if_neg (by omega), if_neg (by omega), if_pos h]; try simp
theorem own5 (h : x.kind = 5) : ownB x = true ↔ (vbz x.gt.grant x.gt.clear = true) := by unfold ownB; rw [if_neg (by omega), if_neg (by omega), if_neg (by omega), if_neg (by omega), if_pos h]; try simp [allI]
theorem own6 (h : x.kind = 6) : ownB x = true ↔ (x.inn.length ≤ 64 ∧ x.out.length ≤ 1024) := by unfold ownB; rw [if_neg (by omega), if_neg (by omega), if_neg (by omega), if_neg (by omega), if_neg (by omega), if_pos h]; try simp
theorem own7 (h : ¬ (1 ≤ x.kind ∧ x.kind ≤ 6)) : ownB x = true ↔ False := by unfold ownB; rw [if_neg (by omega), if_neg (by omega), if_neg (by omega), if_neg (by omega), if_neg (by omega), if_neg (by omega)]; simp
theorem vrz {w : World} {C : Array Value} (h : ObD (LtN w) w C x) (hq1 : 1 ≤ x.quota) (hq2 : x.quota ≤ 4096) : Asks 170 #[.agg C] (ownB x = true) w := by
 have hz := h.size
 have c0 := h.id
 have c1 := h.kind
 obtain ⟨a2, n2, k2, c2, l2⟩ := h.label
 have hn2 : Hid (x.label.length = n2) := l2.1
 have c3 := h.quota
 have c4 := h.fixed
 obtain ⟨a5, n5, k5, c5, l5⟩ := h.links
 have hn5 : Hid (x.links.length = n5) := l5.1
 obtain ⟨a6, n6, k6, c6, l6⟩ := h.data
 have hn6 : Hid (x.data.length = n6) := l6.1
 obtain ⟨a7, n7, k7, c7, l7⟩ := h.maps
 have hn7 : Hid (x.maps.length = n7) := l7.1
 obtain ⟨a49, n49, k49, c49, l49⟩ := h.inn
 have hn49 : Hid (x.inn.length = n49) := l49.1
 obtain ⟨a50, n50, k50, c50, l50⟩ := h.out
 have hn50 : Hid (x.out.length = n50) := l50.1
 obtain ⟨a25, n25, k25, c25, l25⟩ := h.th.clear
 obtain ⟨a43, n43, k43, c43, l43⟩ := h.gt.grant
 obtain ⟨a44, n44, k44, c44, l44⟩ := h.gt.clear
 replace c25 : C[25]? = some (.slice a25 n25 k25) := c25
 replace c43 : C[43]? = some (.slice a43 n43 k43) := c43
 replace c44 : C[44]? = some (.slice a44 n44 k44) := c44
 have ga0 := isAgg39
 have ga1 := isAgg22
 have ga2 := isAgg3
 have ga3 := isAgg4
 have ga4 := isAgg40
 have ga5 := isAgg41
 have hw1 : IntKind.i64.wrap (x.quota - 1) = x.quota - 1 := by rw [IntKind.wrap_i64]; omega
 have hw2 : IntKind.i64.wrap (16 * (x.quota - 1)) = 16 * (x.quota - 1) := by rw [IntKind.wrap_i64]; omega
 unfold Asks
 by_cases h1 : x.kind = 1
 ·replace c1 : C[1]? = some (.int .i64 1) := c1.trans (by rw [h1])
  rw [own1 h1]
  clear h1
  go_enter func170, ntmps170
  go_wp2_with (first
   | go_skip
   | (with_reducible refine qcz rfl _ _ rfl C rfl ?_; intro B W hB hb hk)
   | (with_reducible refine qaz (by kernel_rfl) _ _ rfl B _ rfl _ _ hb _ (by assumption) (by assumption) ?_)
   | ((with_reducible refine qgz (by kernel_rfl) .leq _ _ _ _ rfl _ _ rfl rfl (wez _ _ _ _ _ _) ?_ ?_) <;> intro hq))
  all_goals go_ret
  all_goals first
   | (refine qpz ?_ hk; rw [hn6.out]; exact Hid.out (by assumption))
   | (have hl : 16 * (x.quota - 1) < (n6 : Int) := Hid.out (by assumption); refine ⟨false, rfl, ⟨fun e => absurd e Bool.false_ne_true, fun e => ?_⟩, hk⟩; exfalso; rw [hn6.out] at e; omega)
   | fail
 by_cases h2 : x.kind = 2
 ·replace c1 : C[1]? = some (.int .i64 2) := c1.trans (by rw [h2])
  rw [own2 h2]
  clear h1 h2
  go_enter func170, ntmps170
  go_wp2_with (first
   | go_skip
   | (with_reducible refine qcz rfl _ _ rfl C rfl ?_; intro B W hB hb hk)
   | (with_reducible refine qaz (by kernel_rfl) _ _ rfl B _ rfl _ _ hb _ (by assumption) (by assumption) ?_)
   | ((with_reducible refine qgz (by kernel_rfl) .leq _ _ _ _ rfl _ _ rfl rfl (wez _ _ _ _ _ _) ?_ ?_) <;> intro hq)
   | (with_reducible refine qhz (by kernel_rfl) 55 _ rfl B rfl C hb _ underlying55 (by kernel_rfl) (qfz hz) ?_)
   | (go_at_call 206; (with_reducible refine (u6z l5 hk).on ?_ ?_) <;> (intro w1 hq hb1; replace hb := hb.next hb1; replace hk := btz hk hb1; clear hb1))
   | (go_at_call 207; (with_reducible refine (g9z (h.next hk) c5).mono ?_); rintro e w1 ⟨rfl, hb1⟩; replace hb := hb.next hb1; replace hk := btz hk hb1; clear hb1)
   | (go_at_call 208; (with_reducible refine (uRz (l5.ct' hk)).on ?_ ?_) <;> (intro w1 hq hb1; replace hb := hb.next hb1; replace hk := btz hk hb1; clear hb1)))
  all_goals go_ret
  all_goals first
   | (refine qpz ⟨?_, Hid.out (by assumption), Hid.out (by assumption)⟩ hk; (have hl : (n5 : Int) ≤ 64 := Hid.out (by assumption)); rw [hn5.out]; omega)
   | (refine qjz (Y := risB x.links = true) (by assumption) hk (fun e => e.2.2))
   | (refine qjz (Y := allI x.links = true) (by assumption) hk (fun e => e.2.1))
   | (have hl : 64 < (n5 : Int) := Hid.out (by assumption); refine ⟨false, rfl, ⟨fun e => absurd e Bool.false_ne_true, fun e => ?_⟩, hk⟩; exfalso; have := e.1; rw [hn5.out] at this; omega)
   | fail
 by_cases h3 : x.kind = 3
 ·replace c1 : C[1]? = some (.int .i64 3) := c1.trans (by rw [h3])
  rw [own3 h3]
  clear h1 h2 h3
  go_enter func170, ntmps170
  go_wp2_with (first
   | go_skip
   | (with_reducible refine qcz rfl _ _ rfl C rfl ?_; intro B W hB hb hk)
   | (with_reducible refine qaz (by kernel_rfl) _ _ rfl B _ rfl _ _ hb _ (by assumption) (by assumption) ?_)
   | (go_at_call 209; (with_reducible refine (Asks.of (PgM.fit_any (MpD.mp' l7 hk))).on ?_ ?_) <;> (intro w1 hq hb1; replace hb := hb.next hb1; replace hk := btz hk hb1; clear hb1)))
  all_goals go_ret
  all_goals first
   | (exact qpz (Hid.out (by assumption)) hk)
   | (exact qjz (by assumption) hk id)
   | fail
 by_cases h4 : x.kind = 4
 ·replace c1 : C[1]? = some (.int .i64 4) := c1.trans (by rw [h4])
  rw [own4 h4]
  clear h1 h2 h3 h4
  cases hfx : x.fixed with
  | false =>
   rw [hfx] at c4
   go_enter func170, ntmps170
   go_wp2_with (first
    | go_skip
    | (with_reducible refine qcz rfl _ _ rfl C rfl ?_; intro B W hB hb hk)
    | (with_reducible refine qaz (by kernel_rfl) _ _ rfl B _ rfl _ _ hb _ (by assumption) (by assumption) ?_)
    | (with_reducible refine qnz (by kernel_rfl) 51 _ rfl B _ rfl 35 _ _ hb _ rfl (by rw [hz]; omega) _ underlying51 (by kernel_rfl) w9z ?_)
    | (go_at_call 210; (with_reducible refine (xIz l2 l25 hk).on ?_ ?_) <;> (intro w1 hq hb1; replace hb := hb.next hb1; replace hk := btz hk hb1; clear hb1))
    | (go_at_call 211; (with_reducible refine (w8z (h.thd.next hk)).on ?_ ?_) <;> (intro w1 hq hb1; replace hb := hb.next hb1; replace hk := btz hk hb1; clear hb1)))
   all_goals go_ret
   all_goals first
    | (exact qpz ⟨trivial, Hid.out (by assumption), Hid.out (by assumption)⟩ hk)
    | (refine qjz (Y := thrB x.th = true) (by assumption) hk (fun e => e.2.2))
    | (refine qjz (Y := vbz x.label x.th.clear = true) (by assumption) hk (fun e => e.2.1))
    | (refine ⟨false, rfl, ⟨fun e => absurd e Bool.false_ne_true, fun e => ?_⟩, hk⟩; exfalso; cases e.1)
    | fail
  | true =>
   rw [hfx] at c4
   go_enter func170, ntmps170
   go_wp2_with (first
    | go_skip
    | (with_reducible refine qcz rfl _ _ rfl C rfl ?_; intro B W hB hb hk)
    | (with_reducible refine qaz (by kernel_rfl) _ _ rfl B _ rfl _ _ hb _ (by assumption) (by assumption) ?_)
    | (with_reducible refine qnz (by kernel_rfl) 51 _ rfl B _ rfl 35 _ _ hb _ rfl (by rw [hz]; omega) _ underlying51 (by kernel_rfl) w9z ?_)
    | (go_at_call 210; (with_reducible refine (xIz l2 l25 hk).on ?_ ?_) <;> (intro w1 hq hb1; replace hb := hb.next hb1; replace hk := btz hk hb1; clear hb1))
    | (go_at_call 211; (with_reducible refine (w8z (h.thd.next hk)).on ?_ ?_) <;> (intro w1 hq hb1; replace hb := hb.next hb1; replace hk := btz hk hb1; clear hb1)))
   all_goals go_ret
   all_goals first
    | (exact qpz ⟨trivial, Hid.out (by assumption), Hid.out (by assumption)⟩ hk)
    | (refine qjz (Y := thrB x.th = true) (by assumption) hk (fun e => e.2.2))
    | (refine qjz (Y := vbz x.label x.th.clear = true) (by assumption) hk (fun e => e.2.1))
    | (refine ⟨false, rfl, ⟨fun e => absurd e Bool.false_ne_true, fun e => ?_⟩, hk⟩; exfalso; cases e.1)
    | fail
 by_cases h5 : x.kind = 5
 ·replace c1 : C[1]? = some (.int .i64 5) := c1.trans (by rw [h5])
  rw [own5 h5]
  clear h1 h2 h3 h4 h5
  go_enter func170, ntmps170
  go_wp2_with (first
   | go_skip
   | (with_reducible refine qcz rfl _ _ rfl C rfl ?_; intro B W hB hb hk)
   | (with_reducible refine qaz (by kernel_rfl) _ _ rfl B _ rfl _ _ hb _ (by assumption) (by assumption) ?_)
   | (go_at_call 210; (with_reducible refine (xIz l43 l44 hk).on ?_ ?_) <;> (intro w1 hq hb1; replace hb := hb.next hb1; replace hk := btz hk hb1; clear hb1)))
  all_goals go_ret
  all_goals first
   | (exact qpz (Hid.out (by assumption)) hk)
   | (exact qjz (by assumption) hk id)
   | fail
 by_cases h6 : x.kind = 6
 ·replace c1 : C[1]? = some (.int .i64 6) := c1.trans (by rw [h6])
  rw [own6 h6]
  clear h1 h2 h3 h4 h5 h6
  go_enter func170, ntmps170
  go_wp2_with (first
   | go_skip
   | (with_reducible refine qcz rfl _ _ rfl C rfl ?_; intro B W hB hb hk)
   | (with_reducible refine qaz (by kernel_rfl) _ _ rfl B _ rfl _ _ hb _ (by assumption) (by assumption) ?_)
   | ((with_reducible refine qgz (by kernel_rfl) .leq _ _ _ _ rfl _ _ rfl rfl (wez _ _ _ _ _ _) ?_ ?_) <;> intro hq))
  all_goals go_ret
  all_goals first
   | (have h1 : (n49 : Int) ≤ 64 := Hid.out (by assumption); have h2 : (n50 : Int) ≤ 1024 := Hid.out (by assumption); exact qpz ⟨by rw [hn49.out]; omega, by rw [hn50.out]; omega⟩ hk)
   | (have hl : 1024 < (n50 : Int) := Hid.out (by assumption); refine ⟨false, rfl, ⟨fun e => absurd e Bool.false_ne_true, fun e => ?_⟩, hk⟩; exfalso; have := e.2; rw [hn50.out] at this; omega)
   | (have hl : 64 < (n49 : Int) := Hid.out (by assumption); refine ⟨false, rfl, ⟨fun e => absurd e Bool.false_ne_true, fun e => ?_⟩, hk⟩; exfalso; have := e.1; rw [hn49.out] at this; omega)
   | fail
 ·rw [own7 (by omega)]
  have g1 : (x.kind == 1) = false := by rw [beq_eq_false_iff_ne]; exact h1
  have g2 : (x.kind == 2) = false := by rw [beq_eq_false_iff_ne]; exact h2
  have g3 : (x.kind == 3) = false := by rw [beq_eq_false_iff_ne]; exact h3
  have g4 : (x.kind == 4) = false := by rw [beq_eq_false_iff_ne]; exact h4
  have g5 : (x.kind == 5) = false := by rw [beq_eq_false_iff_ne]; exact h5
  have g6 : (x.kind == 6) = false := by rw [beq_eq_false_iff_ne]; exact h6
  clear h1 h2 h3 h4 h5 h6
  go_enter func170, ntmps170
  go_wp2_with (first
   | go_skip
   | (with_reducible refine qcz rfl _ _ rfl C rfl ?_; intro B W hB hb hk)
   | (with_reducible refine qaz (by kernel_rfl) _ _ rfl B _ rfl _ _ hb _ (by assumption) (by assumption) ?_))
  all_goals go_ret
  all_goals first
   | (refine ⟨false, rfl, ⟨fun e => absurd e Bool.false_ne_true, fun e => ?_⟩, hk⟩; exfalso; exact e)
   | fail
section
variable {ops : Array Oper} {Q : Exit → Act → World → Prop} {S : World → Prop} {w : World} {fuel m : Nat} {a : Act} {l : Array Bool}
theorem quz {i : Nat} {f : FuncId} {vs : List Value} {d : Option Tmp} {R : Ending → World → Prop} {K : Act → World → Prop} (hi : (ops[i]?).bind (fun o => wFz ops o a) = some (f, vs, d))
  (hf : ∀ args w, (callFunc f args).run prog w = .ok (.enter f args) w) (hc : Calls prog f vs.toArray w R)
  (h : ∀ e w', R e w' → ∃ v, e = .returned v ∧ K (a.put d v) w') : wpOp prog ops Q i K a w := by
 cases ho : ops[i]? with
 | none => rw [ho] at hi; cases hi
 | some o =>
  rw [ho] at hi
  obtain ⟨h1, h2, h3⟩ := xtz (show wFz ops o a = _ from hi) hf w
  unfold wpOp
  simp only [ho, h1, if_true]
  left
  unfold Oper.wp
  rw [h3, Oper.upon_enter]
  refine hc.mono ?_
  intro e w' hR
  obtain ⟨v, rfl, h⟩ := h e w' hR
  rw [h2]
  exact h
theorem qrz {i : Nat} {f : FuncId} {vs : List Value} {d : Option Tmp} {R : Ending → World → Prop} (hm : m = fuel + 1) (hr : Region.ready .any ops l = [i]) (hi : (ops[i]?).bind (fun o => wFz ops o a) = some (f, vs, d))
  (hf : ∀ args w, (callFunc f args).run prog w = .ok (.enter f args) w) (hc : Calls prog f vs.toArray w R)
  (h : ∀ e w', R e w' → ∃ v, e = .returned v ∧ S w' ∧ wpAnyH prog .any ops Q S fuel (l.setIfInBounds i true) (a.put d v) w') : wpAnyH prog .any ops Q S m l a w := by
 subst hm
 refine wpAnyH_all hr (by simp) ?_
 intro j hj
 obtain rfl : j = i := by simpa using hj
 exact quz hi hf hc h
theorem wTz {X : Prop} {i : Nat} {f : FuncId} {vs : List Value} {d : Option Tmp} (hm : m = fuel + 1) (hr : Region.ready .any ops l = [i]) (hi : (ops[i]?).bind (fun o => wFz ops o a) = some (f, vs, d))
  (hf : ∀ args w, (callFunc f args).run prog w = .ok (.enter f args) w) (hc : Asks f vs.toArray X w) (hS : ∀ w', Below w.heap.size w w' → S w')
  (h1 : ∀ w', Hid X → Below w.heap.size w w' → S w' → wpAnyH prog .any ops Q S fuel (l.setIfInBounds i true) (a.put d (.bool true)) w')
  (h0 : ∀ w', Hid (¬ X) → Below w.heap.size w w' → S w' → wpAnyH prog .any ops Q S fuel (l.setIfInBounds i true) (a.put d (.bool false)) w') : wpAnyH prog .any ops Q S m l a w := by
 refine qrz hm hr hi hf hc ?_
 rintro e w' ⟨b, rfl, hb, hk⟩
 refine ⟨_, rfl, hS w' hk, ?_⟩
 cases b with
 | true => exact h1 w' (hb.out.1 rfl) hk (hS w' hk)
 | false => exact h0 w' (fun x => absurd (hb.out.2 x) Bool.false_ne_true) hk (hS w' hk)
end
theorem qqz {x : Ob} : q9z x = true ↔ (comB x = true ∧ ownB x = true ∧ witO x = comO x) := by unfold q9z; simp [gBz]
theorem kIz {w : World} {C : Array Value} {x : Ob} (h : ObD (LtN w) w C x) : Asks 136 #[.agg C] (q9z x = true) w := by
 have hmx : prog.follows .mixedOrders = true := by kernel_rfl
 have hz := h.size
 unfold Asks
 go_enter func136, ntmps136
 go_wp2_with (first
  | (with_reducible refine qcz rfl _ _ rfl C rfl ?_; intro B W hB hb hk))
 refine PgM.region_out (S := fun W => Blk W B C 55) hmx (hb.next (brz _ _).drew) (fun hS => ?_)
 replace hk := hk.trans ((brz _ W).drew.mono hk.size)
 generalize W.drew = W1 at hS hk ⊢
 clear hb hB
 have ld : ∀ (S : World → Prop), (∀ w, S w → Blk w B C 55) → Obl.holds prog S (.load 55 B 0 (.agg C)) := fun S hS => qBz hS underlying55 (by kernel_rfl) (qfz hz)
 refine qGz (by kernel_rfl) (fun _ _ _ _ _ h => h) hS [(0, some (.agg C))] (obs := [.load 55 B 0 (.agg C)]) (n := 13) (by kernel_rfl) (by kernel_rfl) ⟨ld _ (fun _ h => h), trivial⟩ ?_
 refine wTz (fuel := 12) (i := 1) (f := 169) (vs := [.agg C]) (d := some 4) (by kernel_rfl) (by kernel_rfl) (by kernel_rfl) call169 (kJz (h.next hk)) (fun _ hb => hS.next hb) ?_ ?_
 ·intro W2 q1 hb1 hS
  replace hk := btz hk hb1
  have qc := qSz.1 q1.out
  refine qGz (by kernel_rfl) (fun _ _ _ _ _ h => h) hS [(2, none), (3, some (.agg C))] (obs := [.load 55 B 0 (.agg C)]) (n := 10) (by kernel_rfl) (by kernel_rfl) ⟨ld _ (fun _ h => h), trivial⟩ ?_
  refine wTz (fuel := 9) (i := 4) (f := 170) (vs := [.agg C]) (d := some 7) (by kernel_rfl) (by kernel_rfl) (by kernel_rfl) call170 (vrz (h.next hk) qc.2.1 qc.2.2.1) (fun _ hb => hS.next hb) ?_ ?_
  ·intro W3 q2 hb2 hS
   replace hk := btz hk hb2
   clear hb1 hb2
   refine qGz (by kernel_rfl) (fun _ _ _ _ _ h => h) hS [(5, none), (6, none), (7, some (.agg C)), (9, some (.agg C))] (obs := [.load 55 B 0 (.agg C), .load 55 B 0 (.agg C)]) (n := 5) (by kernel_rfl) (by kernel_rfl) ⟨ld _ (fun _ h => h), ld _ (fun _ h => h), trivial⟩ ?_
   refine qrz (fuel := 4) (i := 8) (f := 172) (vs := [.agg C]) (d := some 11) (by kernel_rfl) (by kernel_rfl) (by kernel_rfl) call172 (v6z (h.next hk)) ?_
   rintro e W4 ⟨C1, rfl, o1, hb1⟩
   refine ⟨_, rfl, hS.next hb1, ?_⟩
   replace hS := hS.next hb1
   replace hk := btz hk hb1
   refine qrz (fuel := 3) (i := 10) (f := 173) (vs := [.agg C]) (d := some 13) (by kernel_rfl) (by kernel_rfl) (by kernel_rfl) call173 (gbz (h.next hk)) ?_
   rintro e W5 ⟨C2, rfl, o2, hb2⟩
   refine ⟨_, rfl, hS.next hb2, ?_⟩
   replace hS := hS.next hb2
   replace hk := btz hk hb2
   refine wTz (fuel := 2) (i := 11) (f := 171) (vs := [.agg C1, .agg C2]) (d := some 14) (by kernel_rfl) (by kernel_rfl) (by kernel_rfl) call171 (yjz (o1.next hb2) o2) (fun _ hb => hS.next hb) ?_ ?_
   ·intro W6 q3 hb3 hS
    replace hk := btz hk hb3
    refine qmz (by kernel_rfl) (fun _ _ _ _ _ h => h) hS [(12, none), (13, none)] (l' := #[tt, tt, tt, tt, tt, tt, tt, tt, tt, tt, tt, tt, tt, tt]) (a' := { tmps := #[.agg C, .pointer (some ⟨B, 0, none⟩), .bool true, .agg C, .bool true, .bool true, .agg C, .bool true, .bool true, .bool true, .agg C, .agg C1, .agg C, .agg C2, .bool true, .bool true], defers := [] }) (obs := []) (n := 0) (by kernel_rfl) (by kernel_rfl) trivial ?_
    refine wpAnyH_done (by kernel_rfl) ?_ _
    go_wp2
    go_ret
    exact qpz (qqz.2 ⟨q1.out, q2.out, q3.out⟩) hk
   ·intro W6 q3 hb3 hS
    replace hk := btz hk hb3
    refine qmz (by kernel_rfl) (fun _ _ _ _ _ h => h) hS [(12, none), (13, none)] (l' := #[tt, tt, tt, tt, tt, tt, tt, tt, tt, tt, tt, tt, tt, tt]) (a' := { tmps := #[.agg C, .pointer (some ⟨B, 0, none⟩), .bool false, .agg C, .bool true, .bool true, .agg C, .bool true, .bool true, .bool true, .agg C, .agg C1, .agg C, .agg C2, .bool false, .bool false], defers := [] }) (obs := []) (n := 0) (by kernel_rfl) (by kernel_rfl) trivial ?_
    refine wpAnyH_done (by kernel_rfl) ?_ _
    go_wp2
    go_ret
    exact qjz q3 hk (fun e => (qqz.1 e).2.2)
  ·intro W3 q2 hb2 hS
   replace hk := btz hk hb2
   refine qmz (by kernel_rfl) (fun _ _ _ _ _ h => h) hS [(5, none), (6, none), (7, none), (8, none), (9, none), (10, none), (11, none), (12, none), (13, none)] (l' := #[tt, tt, tt, tt, tt, tt, tt, tt, tt, tt, tt, tt, tt, tt]) (a' := { tmps := #[.agg C, .pointer (some ⟨B, 0, none⟩), .bool false, .agg C, .bool true, .bool true, .agg C, .bool false, .bool false, .bool false, ud, ud, ud, ud, undef, .bool false], defers := [] }) (obs := []) (n := 0) (by kernel_rfl) (by kernel_rfl) trivial ?_
   refine wpAnyH_done (by kernel_rfl) ?_ _
   go_wp2
   go_ret
   exact qjz q2 hk (fun e => (qqz.1 e).2.1)
 ·intro W2 q1 hb1 hS
  replace hk := btz hk hb1
  refine qmz (by kernel_rfl) (fun _ _ _ _ _ h => h) hS [(2, none), (3, none), (4, none), (5, none), (6, none), (7, none), (8, none), (9, none), (10, none), (11, none), (12, none), (13, none)] (l' := #[tt, tt, tt, tt, tt, tt, tt, tt, tt, tt, tt, tt, tt, tt]) (a' := { tmps := #[.agg C, .pointer (some ⟨B, 0, none⟩), .bool false, .agg C, .bool false, .bool false, ud, undef, .bool false, .bool false, ud, ud, ud, ud, undef, .bool false], defers := [] }) (obs := []) (n := 0) (by kernel_rfl) (by kernel_rfl) trivial ?_
  refine wpAnyH_done (by kernel_rfl) ?_ _
  go_wp2
  go_ret
  exact qjz q1 hk (fun e => (qqz.1 e).1)
theorem rid_q (n : Int) (w : World) : Calls prog 119 #[.int .u64 n] w fun e w' => e = .returned (.bool (idB n)) ∧ w' = w := by
 have hr : Hid (idB n = (decide (1 ≤ n) && decide (n ≤ 2305843009213693952))) := rfl
 go_enter func119, ntmps119
 go_wp2
 all_goals (go_ret; refine ⟨?_, rfl⟩; rw [hr.out]; first | (refine congrArg (fun z => Ending.returned (.bool z)) (?_ : decide (n ≤ 2305843009213693952) = _); rw [Bool.eq_iff_iff]; simp; omega) | (refine congrArg (fun z => Ending.returned (.bool z)) (?_ : false = _); rw [Bool.eq_iff_iff]; simp; omega) | (refine congrArg (fun z => Ending.returned (.bool z)) (?_ : true = _); rw [Bool.eq_iff_iff]; simp; omega))
theorem ylz {w0 w : World} {ao : Option Addr} {n cap : Nat} {L : List Int} (h0 : CtD (LtN w0) w0 ao n cap L) (hk0 : Below w0.heap.size w0 w) : Asks 123 #[.slice ao n cap] (allI L = true ∧ risB L = true) w := by
 have hL := h0.ct' hk0
 clear h0 hk0
 have hn : Hid (L.length = n) := hL.1
 have hnc := hL.2.1
 have hcm := hL.2.2.1.1
 unfold Asks
 go_enter func123, ntmps123
 go_wp2
 go_loopw [3] (fun i wr => ∃ k : Nat, k ≤ n ∧ i = .int .i64 k ∧ Hid ((∀ j, j < k → idB (L.getD j 0) = true) ∧ ∀ j, j + 1 < k → L.getD j 0 < L.getD (j + 1) 0) ∧ Below w.heap.size w wr) (fun i _ => n - (intOf i).toNat)
 case atStart => exact ⟨0, Nat.zero_le _, rfl, ⟨fun j hj => absurd hj (by omega), fun j hj => absurd hj (by omega)⟩, brz _ _⟩
 case round =>
  obtain ⟨k, hk, rfl, hal, hb⟩ := hrel
  by_cases hkn : k < n
  ·have hLw := hL.laterK fun b hb' => hb.block b hb'
   obtain ⟨b, off, y, rfl, hbb, hy, d1⟩ := hLw.at hkn
   have hkn' : (k : Int) < n := by omega
   cases hid : idB y with
   | false =>
    have hq : Hid (¬ allI L = true) := by
     refine (?_ : ¬ allI L = true)
     intro e; have := kAz.1 e k (by rw [hn.out]; exact hkn); rw [hy.out, hid] at this; cases this
    have hc := fun w => rid_q y w
    rw [hid] at hc
    clear hLw hid
    go_wp2
    go_quiet (first | (go_at_call 119; refine Calls.quiet_of_same (hc _)))
    go_wp2
    go_ret
    exact qjz hq (PgM.below_drewN hb _) (fun e => e.1)
   | true =>
    have hc := fun w => rid_q y w
    rw [hid] at hc
    by_cases hk0 : k = 0
    ·have hal2 : Hid ((∀ j, j < k + 1 → idB (L.getD j 0) = true) ∧ ∀ j, j + 1 < k + 1 → L.getD j 0 < L.getD (j + 1) 0) := ⟨wKz hal.out.1 (by rw [hy.out]; exact hid), fun j hj => absurd hj (by omega)⟩
     have hk0' : ¬ 0 < k := by omega
     have hk0d : decide ((0 : Int) < (k : Int)) = false := decide_eq_false (by omega)
     clear hLw hid hk0
     go_wp2
     go_quiet (first | (go_at_call 119; refine Calls.quiet_of_same (hc _)))
     go_wp2
     go_roundw
     case rel => exact ⟨k + 1, by omega, by go_num, hal2, PgM.below_drewN hb _⟩
     case measure => simp [intOf]; omega
    ·obtain ⟨j, hj⟩ : ∃ j, Hid (k = j + 1) := ⟨k - 1, by show _ = _; omega⟩
     have hw : IntKind.i64.wrap ((k : Int) - 1) = (j : Int) := by have := hj.out; rw [IntKind.wrap_i64]; omega
     have hjn : j < n := by have := hj.out; omega
     have hjn' : (j : Int) < n := by omega
     have hkp : 0 < k := by omega
     have hk0d : decide ((0 : Int) < (k : Int)) = true := decide_eq_true (by omega)
     obtain ⟨b', off', x, e', hbb', hx, d0⟩ := hLw.at hjn
     cases e'
     clear hLw
     by_cases hxy : x < y
     ·have hal2 : Hid ((∀ j, j < k + 1 → idB (L.getD j 0) = true) ∧ ∀ j, j + 1 < k + 1 → L.getD j 0 < L.getD (j + 1) 0) := by
       refine ⟨wKz hal.out.1 (by rw [hy.out]; exact hid), ?_⟩
       intro i hi
       rcases Nat.lt_or_ge (i + 1) k with h | h
       ·exact hal.out.2 i h
       ·have hij : i = j := by have := hj.out; omega
        rw [hij, hx.out, ← hj.out, hy.out]; exact hxy
      have hd : ¬ (y ≤ x) := by omega
      have hd' : decide (y ≤ x) = false := decide_eq_false hd
      clear hid hk0
      go_wp2
      go_quiet (first | (go_at_call 119; refine Calls.quiet_of_same (hc _)))
      go_wp2
      go_roundw
      case rel => exact ⟨k + 1, by omega, by go_num, hal2, PgM.below_drewN hb _⟩
      case measure => simp [intOf]; omega
     ·have hq : Hid (¬ risB L = true) := by
       refine (?_ : ¬ risB L = true)
       intro e
       have := kQz.1 e j (by rw [hn.out, ← hj.out]; exact hkn)
       rw [hx.out, ← hj.out, hy.out] at this
       exact hxy this
      have hd : y ≤ x := by omega
      have hd' : decide (y ≤ x) = true := decide_eq_true hd
      clear hid hk0
      go_wp2
      go_quiet (first | (go_at_call 119; refine Calls.quiet_of_same (hc _)))
      go_wp2
      go_ret
      exact qjz hq (PgM.below_drewN hb _) (fun e => e.2)
  ·obtain rfl : k = n := by omega
   go_wp2
   go_ret
   exact qpz ⟨kAz.2 fun i hi => hal.out.1 i (by rw [hn.out] at hi; exact hi), kQz.2 fun i hi => hal.out.2 i (by rw [hn.out] at hi; exact hi)⟩ hb
theorem uTz {w : World} {C : Array Value} {x : Ob} (h : ObD (LtN w) w C x) : Asks 121 #[.agg C] (aloO x = x) w := by
 have hz := h.size
 have c0 := h.id
 have c1 := h.kind
 obtain ⟨a2, n2, k2, c2, l2⟩ := h.label
 have hn2 : Hid (x.label.length = n2) := l2.1
 have c3 := h.quota
 have c4 := h.fixed
 obtain ⟨a5, n5, k5, c5, l5⟩ := h.links
 have hn5 : Hid (x.links.length = n5) := l5.1
 obtain ⟨a6, n6, k6, c6, l6⟩ := h.data
 have hn6 : Hid (x.data.length = n6) := l6.1
 obtain ⟨a7, n7, k7, c7, l7⟩ := h.maps
 have hn7 : Hid (x.maps.length = n7) := l7.1
 obtain ⟨a49, n49, k49, c49, l49⟩ := h.inn
 have hn49 : Hid (x.inn.length = n49) := l49.1
 obtain ⟨a50, n50, k50, c50, l50⟩ := h.out
 have hn50 : Hid (x.out.length = n50) := l50.1
 obtain ⟨a25, n25, k25, c25, l25⟩ := h.th.clear
 obtain ⟨a43, n43, k43, c43, l43⟩ := h.gt.grant
 obtain ⟨a44, n44, k44, c44, l44⟩ := h.gt.clear
 replace c25 : C[25]? = some (.slice a25 n25 k25) := c25
 replace c43 : C[43]? = some (.slice a43 n43 k43) := c43
 replace c44 : C[44]? = some (.slice a44 n44 k44) := c44
 have ga0 := isAgg39
 have ga1 := isAgg22
 have ga2 := isAgg3
 have ga3 := isAgg4
 have ga4 := isAgg40
 have ga5 := isAgg41
 unfold Asks
 by_cases h1 : x.kind = 1
 ·replace c1 : C[1]? = some (.int .i64 1) := c1.trans (by rw [h1])
  have halo : aloO x = { (⟨x.id, 1, x.label, x.quota, x.fixed, [], [], [], zTh, zGt, [], []⟩ : Ob) with data := x.data } := by rw [alo1 h1, ← h1]; rfl
  clear h1
  have hcm := xyz (i := x.id) (k := 1) (q := x.quota) (f := x.fixed) l2
  have hcz := hcm.size
  have hd := hcm.set6 ⟨_, _, _, rfl, l6⟩ rfl
  go_enter func121, ntmps121
  go_wp2_with (first
   | go_skip
   | (with_reducible refine qcz rfl _ _ rfl C rfl ?_; intro B W hB hb hk)
   | (with_reducible refine qaz (by kernel_rfl) _ _ rfl B _ rfl _ _ hb _ (by assumption) (by assumption) ?_)
   | (with_reducible refine qaz (by kernel_rfl) _ _ rfl B _ rfl _ _ e2 _ (by assumption) (by assumption) ?_)
   | (with_reducible refine qaz (by kernel_rfl) _ _ rfl B _ rfl _ _ e3 _ (by assumption) (by assumption) ?_)
   | ((with_reducible refine qyz rfl _ _ rfl (comC (.int .u64 x.id) (.int .i64 1) (.slice a2 n2 k2) (.int .i64 x.quota) (.bool x.fixed)) ?hf ?_); (case hf => exact wvz _ _ _ _ _ _ _))
   | (with_reducible refine qdz rfl _ rfl zC qsz ?_; intro B' W' hB' hb' hk'; have hne : B ≠ B' := (by have := hB'.out.1; have := hb.lt; omega); have b1 := btz hk hk'; have hl' : w.heap.size ≤ B' := (by have := hB'.out.1; have := hk.size; omega))
   | ((with_reducible refine qbz rfl _ _ _ rfl B' rfl (comC (.int .u64 x.id) (.int .i64 1) (.slice a2 n2 k2) (.int .i64 x.quota) (.bool x.fixed)) rfl zC hb' (qfz hcz) (qoz.trans hcz.symm) hcm.one ?_); intro W2 b2 o2; have e2 := (hb.next hk').other o2 hne; have kb2 := o2.below w.heap.size w hl' b1)
   | ((with_reducible refine qiz rfl _ _ _ rfl B' 6 rfl (.slice a6 n6 k6) rfl rfl _ _ b2 wDz (by first | (rw [hcz]; omega) | (rw [Array.size_setIfInBounds, hcz]; omega)) rfl ?_); intro W3 b3 o3; have e3 := e2.other o3 hne; have kb3 := o3.below w.heap.size w hl' kb2)
   | ((with_reducible refine qlz rfl _ _ rfl B' rfl _ b3 _ underlying55 rfl (qfz hd.size) ?_))
   | ((with_reducible refine qlz rfl _ _ rfl B rfl _ e3 _ underlying55 rfl (qfz hz) ?_))
   | (go_at_call 17; (with_reducible refine (waz (hd.next kb3) (h.next kb3)).on ?_ ?_) <;> intro w9 hq hb9))
  ·go_ret
   exact qpz ((show aloO x = x by rw [halo]; exact hq.out)) (btz kb3 hb9)
  ·go_ret
   exact qjz hq (btz kb3 hb9) (fun e => (by rw [halo] at e; exact e))
 by_cases h2 : x.kind = 2
 ·replace c1 : C[1]? = some (.int .i64 2) := c1.trans (by rw [h2])
  have halo : aloO x = { (⟨x.id, 2, x.label, x.quota, x.fixed, [], [], [], zTh, zGt, [], []⟩ : Ob) with links := x.links } := by rw [alo2 h2, ← h2]; rfl
  clear h1 h2
  have hcm := xyz (i := x.id) (k := 2) (q := x.quota) (f := x.fixed) l2
  have hcz := hcm.size
  have hd := hcm.set5 ⟨_, _, _, rfl, l5⟩ rfl
  go_enter func121, ntmps121
  go_wp2_with (first
   | go_skip
   | (with_reducible refine qcz rfl _ _ rfl C rfl ?_; intro B W hB hb hk)
   | (with_reducible refine qaz (by kernel_rfl) _ _ rfl B _ rfl _ _ hb _ (by assumption) (by assumption) ?_)
   | (with_reducible refine qaz (by kernel_rfl) _ _ rfl B _ rfl _ _ e2 _ (by assumption) (by assumption) ?_)
   | (with_reducible refine qaz (by kernel_rfl) _ _ rfl B _ rfl _ _ e3 _ (by assumption) (by assumption) ?_)
   | ((with_reducible refine qyz rfl _ _ rfl (comC (.int .u64 x.id) (.int .i64 2) (.slice a2 n2 k2) (.int .i64 x.quota) (.bool x.fixed)) ?hf ?_); (case hf => exact wvz _ _ _ _ _ _ _))
   | (with_reducible refine qdz rfl _ rfl zC qsz ?_; intro B' W' hB' hb' hk'; have hne : B ≠ B' := (by have := hB'.out.1; have := hb.lt; omega); have b1 := btz hk hk'; have hl' : w.heap.size ≤ B' := (by have := hB'.out.1; have := hk.size; omega))
   | ((with_reducible refine qbz rfl _ _ _ rfl B' rfl (comC (.int .u64 x.id) (.int .i64 2) (.slice a2 n2 k2) (.int .i64 x.quota) (.bool x.fixed)) rfl zC hb' (qfz hcz) (qoz.trans hcz.symm) hcm.one ?_); intro W2 b2 o2; have e2 := (hb.next hk').other o2 hne; have kb2 := o2.below w.heap.size w hl' b1)
   | ((with_reducible refine qiz rfl _ _ _ rfl B' 5 rfl (.slice a5 n5 k5) rfl rfl _ _ b2 wDz (by first | (rw [hcz]; omega) | (rw [Array.size_setIfInBounds, hcz]; omega)) rfl ?_); intro W3 b3 o3; have e3 := e2.other o3 hne; have kb3 := o3.below w.heap.size w hl' kb2)
   | ((with_reducible refine qlz rfl _ _ rfl B' rfl _ b3 _ underlying55 rfl (qfz hd.size) ?_))
   | ((with_reducible refine qlz rfl _ _ rfl B rfl _ e3 _ underlying55 rfl (qfz hz) ?_))
   | (go_at_call 17; (with_reducible refine (waz (hd.next kb3) (h.next kb3)).on ?_ ?_) <;> intro w9 hq hb9))
  ·go_ret
   exact qpz ((show aloO x = x by rw [halo]; exact hq.out)) (btz kb3 hb9)
  ·go_ret
   exact qjz hq (btz kb3 hb9) (fun e => (by rw [halo] at e; exact e))
 by_cases h3 : x.kind = 3
 ·replace c1 : C[1]? = some (.int .i64 3) := c1.trans (by rw [h3])
  have halo : aloO x = { (⟨x.id, 3, x.label, x.quota, x.fixed, [], [], [], zTh, zGt, [], []⟩ : Ob) with maps := x.maps } := by rw [alo3 h3, ← h3]; rfl
  clear h1 h2 h3
  have hcm := xyz (i := x.id) (k := 3) (q := x.quota) (f := x.fixed) l2
  have hcz := hcm.size
  have hd := hcm.set7 ⟨_, _, _, rfl, l7⟩ rfl
  go_enter func121, ntmps121
  go_wp2_with (first
   | go_skip
   | (with_reducible refine qcz rfl _ _ rfl C rfl ?_; intro B W hB hb hk)
   | (with_reducible refine qaz (by kernel_rfl) _ _ rfl B _ rfl _ _ hb _ (by assumption) (by assumption) ?_)
   | (with_reducible refine qaz (by kernel_rfl) _ _ rfl B _ rfl _ _ e2 _ (by assumption) (by assumption) ?_)
   | (with_reducible refine qaz (by kernel_rfl) _ _ rfl B _ rfl _ _ e3 _ (by assumption) (by assumption) ?_)
   | ((with_reducible refine qyz rfl _ _ rfl (comC (.int .u64 x.id) (.int .i64 3) (.slice a2 n2 k2) (.int .i64 x.quota) (.bool x.fixed)) ?hf ?_); (case hf => exact wvz _ _ _ _ _ _ _))
   | (with_reducible refine qdz rfl _ rfl zC qsz ?_; intro B' W' hB' hb' hk'; have hne : B ≠ B' := (by have := hB'.out.1; have := hb.lt; omega); have b1 := btz hk hk'; have hl' : w.heap.size ≤ B' := (by have := hB'.out.1; have := hk.size; omega))
   | ((with_reducible refine qbz rfl _ _ _ rfl B' rfl (comC (.int .u64 x.id) (.int .i64 3) (.slice a2 n2 k2) (.int .i64 x.quota) (.bool x.fixed)) rfl zC hb' (qfz hcz) (qoz.trans hcz.symm) hcm.one ?_); intro W2 b2 o2; have e2 := (hb.next hk').other o2 hne; have kb2 := o2.below w.heap.size w hl' b1)
   | ((with_reducible refine qiz rfl _ _ _ rfl B' 7 rfl (.slice a7 n7 k7) rfl rfl _ _ b2 gxz (by first | (rw [hcz]; omega) | (rw [Array.size_setIfInBounds, hcz]; omega)) rfl ?_); intro W3 b3 o3; have e3 := e2.other o3 hne; have kb3 := o3.below w.heap.size w hl' kb2)
   | ((with_reducible refine qlz rfl _ _ rfl B' rfl _ b3 _ underlying55 rfl (qfz hd.size) ?_))
   | ((with_reducible refine qlz rfl _ _ rfl B rfl _ e3 _ underlying55 rfl (qfz hz) ?_))
   | (go_at_call 17; (with_reducible refine (waz (hd.next kb3) (h.next kb3)).on ?_ ?_) <;> intro w9 hq hb9))
  ·go_ret
   exact qpz ((show aloO x = x by rw [halo]; exact hq.out)) (btz kb3 hb9)
  ·go_ret
   exact qjz hq (btz kb3 hb9) (fun e => (by rw [halo] at e; exact e))
 by_cases h4 : x.kind = 4
 ·replace c1 : C[1]? = some (.int .i64 4) := c1.trans (by rw [h4])
  have halo : aloO x = { (⟨x.id, 4, x.label, x.quota, x.fixed, [], [], [], zTh, zGt, [], []⟩ : Ob) with th := x.th } := by rw [alo4 h4, ← h4]; rfl
  clear h1 h2 h3 h4
  have hcm := xyz (i := x.id) (k := 4) (q := x.quota) (f := x.fixed) l2
  have hcz := hcm.size
  have hd := hcm.setT h.thd
  obtain ⟨CT, hCT⟩ : ∃ CT, ((comC (.int .u64 x.id) (.int .i64 4) (.slice a2 n2 k2) (.int .i64 x.quota) (.bool x.fixed)).extract 0 8 ++ C.extract 8 (8 + 35) ++ (comC (.int .u64 x.id) (.int .i64 4) (.slice a2 n2 k2) (.int .i64 x.quota) (.bool x.fixed)).extract (8 + (C.extract 8 (8 + 35)).size) (comC (.int .u64 x.id) (.int .i64 4) (.slice a2 n2 k2) (.int .i64 x.quota) (.bool x.fixed)).size) = CT := ⟨_, rfl⟩
  rw [hCT] at hd
  go_enter func121, ntmps121
  go_wp2_with (first
   | go_skip
   | (with_reducible refine qcz rfl _ _ rfl C rfl ?_; intro B W hB hb hk)
   | (with_reducible refine qaz (by kernel_rfl) _ _ rfl B _ rfl _ _ hb _ (by assumption) (by assumption) ?_)
   | (with_reducible refine qaz (by kernel_rfl) _ _ rfl B _ rfl _ _ e2 _ (by assumption) (by assumption) ?_)
   | (with_reducible refine qaz (by kernel_rfl) _ _ rfl B _ rfl _ _ e3 _ (by assumption) (by assumption) ?_)
   | ((with_reducible refine qyz rfl _ _ rfl (comC (.int .u64 x.id) (.int .i64 4) (.slice a2 n2 k2) (.int .i64 x.quota) (.bool x.fixed)) ?hf ?_); (case hf => exact wvz _ _ _ _ _ _ _))
   | (with_reducible refine qdz rfl _ rfl zC qsz ?_; intro B' W' hB' hb' hk'; have hne : B ≠ B' := (by have := hB'.out.1; have := hb.lt; omega); have b1 := btz hk hk'; have hl' : w.heap.size ≤ B' := (by have := hB'.out.1; have := hk.size; omega))
   | ((with_reducible refine qbz rfl _ _ _ rfl B' rfl (comC (.int .u64 x.id) (.int .i64 4) (.slice a2 n2 k2) (.int .i64 x.quota) (.bool x.fixed)) rfl zC hb' (qfz hcz) (qoz.trans hcz.symm) hcm.one ?_); intro W2 b2 o2; have e2 := (hb.next hk').other o2 hne; have kb2 := o2.below w.heap.size w hl' b1)
   | (with_reducible refine qnz (by kernel_rfl) 51 _ rfl B _ rfl 35 _ _ e2 _ rfl (by rw [hz]; omega) _ underlying51 (by kernel_rfl) w9z ?_)
   | ((with_reducible refine qKz rfl _ _ _ rfl B' 8 rfl (C.extract 8 (8 + 35)) rfl _ _ b2 (by rw [h.thd.size]; exact w9z) (by rw [h.thd.size, hcz]; omega) h.thd.one ?_); intro W3 b3 o3; rw [hCT] at b3; have e3 := e2.other o3 hne; have kb3 := o3.below w.heap.size w hl' kb2)
   | ((with_reducible refine qlz rfl _ _ rfl B' rfl _ b3 _ underlying55 rfl (qfz hd.size) ?_))
   | ((with_reducible refine qlz rfl _ _ rfl B rfl _ e3 _ underlying55 rfl (qfz hz) ?_))
   | (go_at_call 17; (with_reducible refine (waz (hd.next kb3) (h.next kb3)).on ?_ ?_) <;> intro w9 hq hb9))
  ·go_ret
   exact qpz ((show aloO x = x by rw [halo]; exact hq.out)) (btz kb3 hb9)
  ·go_ret
   exact qjz hq (btz kb3 hb9) (fun e => (by rw [halo] at e; exact e))
 by_cases h5 : x.kind = 5
 ·replace c1 : C[1]? = some (.int .i64 5) := c1.trans (by rw [h5])
  have halo : aloO x = { (⟨x.id, 5, x.label, x.quota, x.fixed, [], [], [], zTh, zGt, [], []⟩ : Ob) with gt := x.gt } := by rw [alo5 h5, ← h5]; rfl
  clear h1 h2 h3 h4 h5
  have hcm := xyz (i := x.id) (k := 5) (q := x.quota) (f := x.fixed) l2
  have hcz := hcm.size
  have hd := hcm.setG h.gtd
  obtain ⟨CT, hCT⟩ : ∃ CT, ((comC (.int .u64 x.id) (.int .i64 5) (.slice a2 n2 k2) (.int .i64 x.quota) (.bool x.fixed)).extract 0 43 ++ C.extract 43 (43 + 6) ++ (comC (.int .u64 x.id) (.int .i64 5) (.slice a2 n2 k2) (.int .i64 x.quota) (.bool x.fixed)).extract (43 + (C.extract 43 (43 + 6)).size) (comC (.int .u64 x.id) (.int .i64 5) (.slice a2 n2 k2) (.int .i64 x.quota) (.bool x.fixed)).size) = CT := ⟨_, rfl⟩
  rw [hCT] at hd
  go_enter func121, ntmps121
  go_wp2_with (first
   | go_skip
   | (with_reducible refine qcz rfl _ _ rfl C rfl ?_; intro B W hB hb hk)
   | (with_reducible refine qaz (by kernel_rfl) _ _ rfl B _ rfl _ _ hb _ (by assumption) (by assumption) ?_)
   | (with_reducible refine qaz (by kernel_rfl) _ _ rfl B _ rfl _ _ e2 _ (by assumption) (by assumption) ?_)
   | (with_reducible refine qaz (by kernel_rfl) _ _ rfl B _ rfl _ _ e3 _ (by assumption) (by assumption) ?_)
   | ((with_reducible refine qyz rfl _ _ rfl (comC (.int .u64 x.id) (.int .i64 5) (.slice a2 n2 k2) (.int .i64 x.quota) (.bool x.fixed)) ?hf ?_); (case hf => exact wvz _ _ _ _ _ _ _))
   | (with_reducible refine qdz rfl _ rfl zC qsz ?_; intro B' W' hB' hb' hk'; have hne : B ≠ B' := (by have := hB'.out.1; have := hb.lt; omega); have b1 := btz hk hk'; have hl' : w.heap.size ≤ B' := (by have := hB'.out.1; have := hk.size; omega))
   | ((with_reducible refine qbz rfl _ _ _ rfl B' rfl (comC (.int .u64 x.id) (.int .i64 5) (.slice a2 n2 k2) (.int .i64 x.quota) (.bool x.fixed)) rfl zC hb' (qfz hcz) (qoz.trans hcz.symm) hcm.one ?_); intro W2 b2 o2; have e2 := (hb.next hk').other o2 hne; have kb2 := o2.below w.heap.size w hl' b1)
   | (with_reducible refine qnz (by kernel_rfl) 53 _ rfl B _ rfl 6 _ _ e2 _ rfl (by rw [hz]; omega) _ underlying53 (by kernel_rfl) kLz ?_)
   | ((with_reducible refine qKz rfl _ _ _ rfl B' 43 rfl (C.extract 43 (43 + 6)) rfl _ _ b2 (by rw [h.gtd.size]; exact kLz) (by rw [h.gtd.size, hcz]; omega) h.gtd.one ?_); intro W3 b3 o3; rw [hCT] at b3; have e3 := e2.other o3 hne; have kb3 := o3.below w.heap.size w hl' kb2)
   | ((with_reducible refine qlz rfl _ _ rfl B' rfl _ b3 _ underlying55 rfl (qfz hd.size) ?_))
   | ((with_reducible refine qlz rfl _ _ rfl B rfl _ e3 _ underlying55 rfl (qfz hz) ?_))
   | (go_at_call 17; (with_reducible refine (waz (hd.next kb3) (h.next kb3)).on ?_ ?_) <;> intro w9 hq hb9))
  ·go_ret
   exact qpz ((show aloO x = x by rw [halo]; exact hq.out)) (btz kb3 hb9)
  ·go_ret
   exact qjz hq (btz kb3 hb9) (fun e => (by rw [halo] at e; exact e))
 by_cases h6 : x.kind = 6
 ·replace c1 : C[1]? = some (.int .i64 6) := c1.trans (by rw [h6])
  have halo : aloO x = { (⟨x.id, 6, x.label, x.quota, x.fixed, [], [], [], zTh, zGt, [], []⟩ : Ob) with inn := x.inn, out := x.out } := by rw [alo6 h6, ← h6]; rfl
  clear h1 h2 h3 h4 h5 h6
  have hcm := xyz (i := x.id) (k := 6) (q := x.quota) (f := x.fixed) l2
  have hcz := hcm.size
  have hd := (hcm.set49 ⟨_, _, _, rfl, l49⟩ rfl).set50 ⟨_, _, _, rfl, l50⟩ rfl
  go_enter func121, ntmps121
  go_wp2_with (first
   | go_skip
   | (with_reducible refine qcz rfl _ _ rfl C rfl ?_; intro B W hB hb hk)
   | (with_reducible refine qaz (by kernel_rfl) _ _ rfl B _ rfl _ _ hb _ (by assumption) (by assumption) ?_)
   | (with_reducible refine qaz (by kernel_rfl) _ _ rfl B _ rfl _ _ e2 _ (by assumption) (by assumption) ?_)
   | (with_reducible refine qaz (by kernel_rfl) _ _ rfl B _ rfl _ _ e3 _ (by assumption) (by assumption) ?_)
   | ((with_reducible refine qyz rfl _ _ rfl (comC (.int .u64 x.id) (.int .i64 6) (.slice a2 n2 k2) (.int .i64 x.quota) (.bool x.fixed)) ?hf ?_); (case hf => exact wvz _ _ _ _ _ _ _))
   | (with_reducible refine qdz rfl _ rfl zC qsz ?_; intro B' W' hB' hb' hk'; have hne : B ≠ B' := (by have := hB'.out.1; have := hb.lt; omega); have b1 := btz hk hk'; have hl' : w.heap.size ≤ B' := (by have := hB'.out.1; have := hk.size; omega))
   | ((with_reducible refine qbz rfl _ _ _ rfl B' rfl (comC (.int .u64 x.id) (.int .i64 6) (.slice a2 n2 k2) (.int .i64 x.quota) (.bool x.fixed)) rfl zC hb' (qfz hcz) (qoz.trans hcz.symm) hcm.one ?_); intro W2 b2 o2; have e2 := (hb.next hk').other o2 hne; have kb2 := o2.below w.heap.size w hl' b1)
   | ((with_reducible refine qiz rfl _ _ _ rfl B' 49 rfl (.slice a49 n49 k49) rfl rfl _ _ b2 wDz (by first | (rw [hcz]; omega) | (rw [Array.size_setIfInBounds, hcz]; omega)) rfl ?_); intro W3 b3 o3; have e3 := e2.other o3 hne; have kb3 := o3.below w.heap.size w hl' kb2)
   | ((with_reducible refine qiz rfl _ _ _ rfl B' 50 rfl (.slice a50 n50 k50) rfl rfl _ _ b3 wDz (by first | (rw [hcz]; omega) | (rw [Array.size_setIfInBounds, hcz]; omega)) rfl ?_); intro W4 b4 o4; have e4 := e3.other o4 hne; have kb4 := o4.below w.heap.size w hl' kb3)
   | ((with_reducible refine qlz rfl _ _ rfl B' rfl _ b4 _ underlying55 rfl (qfz hd.size) ?_))
   | ((with_reducible refine qlz rfl _ _ rfl B rfl _ e4 _ underlying55 rfl (qfz hz) ?_))
   | (go_at_call 17; (with_reducible refine (waz (hd.next kb4) (h.next kb4)).on ?_ ?_) <;> intro w9 hq hb9))
  ·go_ret
   exact qpz ((show aloO x = x by rw [halo]; exact hq.out)) (btz kb4 hb9)
  ·go_ret
   exact qjz hq (btz kb4 hb9) (fun e => (by rw [halo] at e; exact e))
 ·have halo : aloO x = comO x := alo7 (by omega)
  have g1 : (x.kind == 1) = false := by rw [beq_eq_false_iff_ne]; exact h1
  have g2 : (x.kind == 2) = false := by rw [beq_eq_false_iff_ne]; exact h2
  have g3 : (x.kind == 3) = false := by rw [beq_eq_false_iff_ne]; exact h3
  have g4 : (x.kind == 4) = false := by rw [beq_eq_false_iff_ne]; exact h4
  have g5 : (x.kind == 5) = false := by rw [beq_eq_false_iff_ne]; exact h5
  have g6 : (x.kind == 6) = false := by rw [beq_eq_false_iff_ne]; exact h6
  clear h1 h2 h3 h4 h5 h6
  have hcm := xyz (i := x.id) (k := x.kind) (q := x.quota) (f := x.fixed) l2
  have hcz := hcm.size
  have hd := hcm
  go_enter func121, ntmps121
  go_wp2_with (first
   | go_skip
   | (with_reducible refine qcz rfl _ _ rfl C rfl ?_; intro B W hB hb hk)
   | (with_reducible refine qaz (by kernel_rfl) _ _ rfl B _ rfl _ _ hb _ (by assumption) (by assumption) ?_)
   | (with_reducible refine qaz (by kernel_rfl) _ _ rfl B _ rfl _ _ e2 _ (by assumption) (by assumption) ?_)
   | (with_reducible refine qaz (by kernel_rfl) _ _ rfl B _ rfl _ _ e3 _ (by assumption) (by assumption) ?_)
   | ((with_reducible refine qyz rfl _ _ rfl (comC (.int .u64 x.id) (.int .i64 x.kind) (.slice a2 n2 k2) (.int .i64 x.quota) (.bool x.fixed)) ?hf ?_); (case hf => exact wvz _ _ _ _ _ _ _))
   | (with_reducible refine qdz rfl _ rfl zC qsz ?_; intro B' W' hB' hb' hk'; have hne : B ≠ B' := (by have := hB'.out.1; have := hb.lt; omega); have b1 := btz hk hk'; have hl' : w.heap.size ≤ B' := (by have := hB'.out.1; have := hk.size; omega))
   | ((with_reducible refine qbz rfl _ _ _ rfl B' rfl (comC (.int .u64 x.id) (.int .i64 x.kind) (.slice a2 n2 k2) (.int .i64 x.quota) (.bool x.fixed)) rfl zC hb' (qfz hcz) (qoz.trans hcz.symm) hcm.one ?_); intro W2 b2 o2; have e2 := (hb.next hk').other o2 hne; have kb2 := o2.below w.heap.size w hl' b1)
   | ((with_reducible refine qlz rfl _ _ rfl B' rfl _ b2 _ underlying55 rfl (qfz hd.size) ?_))
   | ((with_reducible refine qlz rfl _ _ rfl B rfl _ e2 _ underlying55 rfl (qfz hz) ?_))
   | (go_at_call 17; (with_reducible refine (waz (hd.next kb2) (h.next kb2)).on ?_ ?_) <;> intro w9 hq hb9))
  ·go_ret
   exact qpz ((show aloO x = x by rw [halo]; exact hq.out)) (btz kb2 hb9)
  ·go_ret
   exact qjz hq (btz kb2 hb9) (fun e => (by rw [halo] at e; exact e))
end
end Go.Proofs.YtloghnpfplljgaaGreat
