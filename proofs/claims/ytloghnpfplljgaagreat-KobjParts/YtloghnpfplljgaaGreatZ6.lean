/-
 PROVED HERE: what the document's Sound returns when it is called (contracts over this translation); rows of cells in genera. What is asked stands at each.
-/
import Derived.Deep.DeepCutAuto
import Derived.Laws.AppendOwn
import Derived.Laws.OwnMore
import Derived.Laws.AppendOwnNone
import Derived.Maps.AppendAt
import Derived.Test.YtloghnpfplljgaaGreatZ5
namespace Go.Proofs.YtloghnpfplljgaaGreat
set_option maxRecDepth 100000
set_option maxHeartbeats 8000000
set_option linter.unusedVariables false
open Go.Proofs.Tryz
section
open Go.RowKit Go.Shelf
attribute [local go_sem] Oper.semAt_some
theorem wNz {w0 w : World} {ao : Option Addr} {n cap : Nat} {L : Lb} (h : LabD (LtN w0) w0 ao n cap L) (hk : Below w0.heap.size w0 w) (hn : n < 274877906944) : Calls prog 122 #[.slice ao n cap] w fun e w' => ∃ ao1 cap1, e = .returned (.slice ao1 (wOz L).length cap1) ∧ Below w.heap.size w w' := by
 refine (uNz (h.lab' hk) hn).mono ?_
 rintro e w' ⟨ao1, n1, cap1, rfl, hc, hb⟩
 have e1 := hc.1
 subst e1
 exact ⟨ao1, cap1, rfl, hb⟩
theorem kTz {x : Ob} (hk : ¬ x.kind = 4) (hl : 0 < ((wOz x.label).length : Int)) (e : q9z x = true) : False := by
 rcases (qSz.1 (qqz.1 e).1).2.2.2.2 with e1 | e1
 ·exact hk e1
 ·rw [e1] at hl; simp at hl
theorem xPz {L : Lb} (h : ((wOz L).length : Int) ≤ 0) : wOz L = [] := List.eq_nil_of_length_eq_zero (by omega)
variable {w : World}
theorem uJz {C : Array Value} {x : Ob} (h : ObD (LtN w) w C x) : Asks 74 #[.agg C] (q9z x = true) w := by
 have hz := h.size
 have c0 := h.id
 have c1 := h.kind
 obtain ⟨a2, n2, k2, c2, l2⟩ := h.label
 have hn2 : Hid (x.label.length = n2) := l2.1
 have c3 := h.quota
 have c4 := h.fixed
 obtain ⟨a5, n5, k5, c5, l5⟩ := h.links
 have hn5 : Hid (x.links.length = n5) := l5.1
 obtain ⟨a6, n6, k6, c6, l6⟩ := h.data
 have hn6 : Hid (x.data.length = n6) := l6.1
 obtain ⟨a7, n7, k7, c7, l7⟩ := h.maps
 have hn7 : Hid (x.maps.length = n7) := l7.1
 obtain ⟨a49, n49, k49, c49, l49⟩ := h.inn
 have hn49 : Hid (x.inn.length = n49) := l49.1
 obtain ⟨a50, n50, k50, c50, l50⟩ := h.out
 have hn50 : Hid (x.out.length = n50) := l50.1
 obtain ⟨a25, n25, k25, c25, l25⟩ := h.th.clear
 obtain ⟨a43, n43, k43, c43, l43⟩ := h.gt.grant
 obtain ⟨a44, n44, k44, c44, l44⟩ := h.gt.clear
 replace c25 : C[25]? = some (.slice a25 n25 k25) := c25
 replace c43 : C[43]? = some (.slice a43 n43 k43) := c43
 replace c44 : C[44]? = some (.slice a44 n44 k44) := c44
 have ga0 := isAgg39
 have ga1 := isAgg22
 have ga2 := isAgg3
 have ga3 := isAgg4
 have ga4 := isAgg40
 have ga5 := isAgg41
 unfold Asks
 go_enter func74, ntmps74
 try simp only [List.append]
 go_upto_region 1 with (first
  | (with_reducible refine qcz rfl _ _ rfl C rfl ?_; intro B W hB hb hk))
 refine xkz ?_
 refine qAz [none, some (.int .u64 x.id)] 0 (obs := [.load 22 (B) (0) (.int .u64 x.id)]) (by kernel_rfl) ⟨qez (fun _ e => by rw [e]; exact hb) c0 ga1, trivial⟩ ?_
 refine q4z (i := 2) (f := 119) (vs := [.int .u64 x.id]) (d := some 5) (by kernel_rfl) call119 (rid_any x.id _) ?_ ?_
 ·intro w0 q0 hb1; replace hb := hb.next hb1; replace hk := btz hk hb1; clear hb1
  refine qAz [none, none, none, some (.int .i64 x.kind)] 3 (obs := [.load 3 (B) (1) (.int .i64 x.kind)]) (by kernel_rfl) ⟨qez (fun _ e => by rw [e]; exact hb) c1 ga2, trivial⟩ ?_
  by_cases q1 : x.kind < 1
  ·replace q1 : Hid (x.kind < 1) := q1
   refine qDz (some (.bool true) :: nl 27) 7 (a' := { tmps := #[.agg C, pt B 0, .bool false, pt B 0, .int .u64 x.id, .bool true, .bool false, .bool false, pt B 1, .int .i64 x.kind, .bool true, .bool true, .bool true, ud, ud, ud, .bool true, .bool true, ud, ud, ud, ud, .bool true, .bool true, ud, ud, ud, .bool true, .bool true, ud, ud, ud, .bool true, .bool true, ud, ud, ud, .bool true, ud, ud, ud, ud, ud, ud, ud, ud, ud, ud, ud, ud, ud, ud, ud, ud, ud, ud, ud, ud, ud, ud, ud, ud, ud, ud, ud, ud, ud, ud, ud, ud, ud, ud, ud, ud, ud, ud, ud, ud, ud, ud, ud, ud, ud, ud, ud, ud, ud, ud, ud, ud, ud, ud, ud, ud, ud, ud, ud, ud, ud, ud, ud, ud, ud, ud, ud, ud, ud, ud, ud, ud, ud, ud, ud, ud, ud, ud, ud, ud, ud], defers := [] }) (obs := [.test .lss 3 (.tmp 9) (.const (.int .i64 1)) (.int .i64 x.kind) (.int .i64 1) (.bool true)]) (by kernel_rfl) ⟨qJz (fun _ => wnz _ _ _ _ _ _) q1, trivial⟩ ?_
   refine qFz (by kernel_rfl) ?_
   go_wp2
   go_ret
   refine ⟨false, rfl, ⟨fun e => absurd e Bool.false_ne_true, fun e => ?_⟩, hk⟩; exfalso; exact (own7 (by have := q1.out; omega)).1 (qqz.1 e).2.1
  ·replace q1 : Hid (¬ (x.kind < 1)) := q1
   refine qAz [some (.bool false), none, none, none, some (.int .i64 x.kind)] 7 (obs := [.test .lss 3 (.tmp 9) (.const (.int .i64 1)) (.int .i64 x.kind) (.int .i64 1) (.bool false), .load 3 (B) (1) (.int .i64 x.kind)]) (by kernel_rfl) ⟨q2z (fun _ => wnz _ _ _ _ _ _) q1, qez (fun _ e => by rw [e]; exact hb) c1 ga2, trivial⟩ ?_
   by_cases q2 : 6 < x.kind
   ·replace q2 : Hid (6 < x.kind) := q2
    refine qDz (some (.bool true) :: nl 22) 12 (a' := { tmps := #[.agg C, pt B 0, .bool false, pt B 0, .int .u64 x.id, .bool true, .bool false, .bool false, pt B 1, .int .i64 x.kind, .bool false, .bool false, .bool false, pt B 1, .int .i64 x.kind, .bool true, .bool true, .bool true, ud, ud, ud, ud, .bool true, .bool true, ud, ud, ud, .bool true, .bool true, ud, ud, ud, .bool true, .bool true, ud, ud, ud, .bool true, ud, ud, ud, ud, ud, ud, ud, ud, ud, ud, ud, ud, ud, ud, ud, ud, ud, ud, ud, ud, ud, ud, ud, ud, ud, ud, ud, ud, ud, ud, ud, ud, ud, ud, ud, ud, ud, ud, ud, ud, ud, ud, ud, ud, ud, ud, ud, ud, ud, ud, ud, ud, ud, ud, ud, ud, ud, ud, ud, ud, ud, ud, ud, ud, ud, ud, ud, ud, ud, ud, ud, ud, ud, ud, ud, ud, ud, ud, ud, ud, ud], defers := [] }) (obs := [.test .gtr 3 (.tmp 14) (.const (.int .i64 6)) (.int .i64 x.kind) (.int .i64 6) (.bool true)]) (by kernel_rfl) ⟨qJz (fun _ => qLz _ _ _ _ _ _) q2, trivial⟩ ?_
    refine qFz (by kernel_rfl) ?_
    go_wp2
    go_ret
    refine ⟨false, rfl, ⟨fun e => absurd e Bool.false_ne_true, fun e => ?_⟩, hk⟩; exfalso; exact (own7 (by have := q2.out; omega)).1 (qqz.1 e).2.1
   ·replace q2 : Hid (¬ (6 < x.kind)) := q2
    refine qAz [some (.bool false), none, none, none, some (.slice a2 n2 k2)] 12 (obs := [.test .gtr 3 (.tmp 14) (.const (.int .i64 6)) (.int .i64 x.kind) (.int .i64 6) (.bool false), .load 39 (B) (2) (.slice a2 n2 k2)]) (by kernel_rfl) ⟨q2z (fun _ => qLz _ _ _ _ _ _) q2, qez (fun _ e => by rw [e]; exact hb) c2 ga0, trivial⟩ ?_
    refine q4z (i := 17) (f := 120) (vs := [.slice a2 n2 k2]) (d := some 20) (by kernel_rfl) call120 (xaz l2 hk) ?_ ?_
    ·intro w3 q3 hb1; replace hb := hb.next hb1; replace hk := btz hk hb1; clear hb1
     refine qAz [none, none, none, none, some (.int .i64 x.quota)] 18 (obs := [.load 3 (B) (3) (.int .i64 x.quota)]) (by kernel_rfl) ⟨qez (fun _ e => by rw [e]; exact hb) c3 ga2, trivial⟩ ?_
     by_cases q4 : x.quota < 1
     ·replace q4 : Hid (x.quota < 1) := q4
      refine qDz (some (.bool true) :: nl 11) 23 (a' := { tmps := #[.agg C, pt B 0, .bool false, pt B 0, .int .u64 x.id, .bool true, .bool false, .bool false, pt B 1, .int .i64 x.kind, .bool false, .bool false, .bool false, pt B 1, .int .i64 x.kind, .bool false, .bool false, .bool false, pt B 2, .slice a2 n2 k2, .bool true, .bool false, .bool false, .bool false, pt B 3, .int .i64 x.quota, .bool true, .bool true, .bool true, ud, ud, ud, .bool true, .bool true, ud, ud, ud, .bool true, ud, ud, ud, ud, ud, ud, ud, ud, ud, ud, ud, ud, ud, ud, ud, ud, ud, ud, ud, ud, ud, ud, ud, ud, ud, ud, ud, ud, ud, ud, ud, ud, ud, ud, ud, ud, ud, ud, ud, ud, ud, ud, ud, ud, ud, ud, ud, ud, ud, ud, ud, ud, ud, ud, ud, ud, ud, ud, ud, ud, ud, ud, ud, ud, ud, ud, ud, ud, ud, ud, ud, ud, ud, ud, ud, ud, ud, ud, ud, ud, ud], defers := [] }) (obs := [.test .lss 3 (.tmp 25) (.const (.int .i64 1)) (.int .i64 x.quota) (.int .i64 1) (.bool true)]) (by kernel_rfl) ⟨qJz (fun _ => wnz _ _ _ _ _ _) q4, trivial⟩ ?_
      refine qFz (by kernel_rfl) ?_
      go_wp2
      go_ret
      refine ⟨false, rfl, ⟨fun e => absurd e Bool.false_ne_true, fun e => ?_⟩, hk⟩; exfalso; have := qSz.1 (qqz.1 e).1; have := q4.out; omega
     ·replace q4 : Hid (¬ (x.quota < 1)) := q4
      refine qAz [some (.bool false), none, none, none, some (.int .i64 x.quota)] 23 (obs := [.test .lss 3 (.tmp 25) (.const (.int .i64 1)) (.int .i64 x.quota) (.int .i64 1) (.bool false), .load 3 (B) (3) (.int .i64 x.quota)]) (by kernel_rfl) ⟨q2z (fun _ => wnz _ _ _ _ _ _) q4, qez (fun _ e => by rw [e]; exact hb) c3 ga2, trivial⟩ ?_
      by_cases q5 : 4096 < x.quota
      ·replace q5 : Hid (4096 < x.quota) := q5
       refine qDz [some (.bool true), none, none, none, none, none, none] 28 (a' := { tmps := #[.agg C, pt B 0, .bool false, pt B 0, .int .u64 x.id, .bool true, .bool false, .bool false, pt B 1, .int .i64 x.kind, .bool false, .bool false, .bool false, pt B 1, .int .i64 x.kind, .bool false, .bool false, .bool false, pt B 2, .slice a2 n2 k2, .bool true, .bool false, .bool false, .bool false, pt B 3, .int .i64 x.quota, .bool false, .bool false, .bool false, pt B 3, .int .i64 x.quota, .bool true, .bool true, .bool true, ud, ud, ud, .bool true, ud, ud, ud, ud, ud, ud, ud, ud, ud, ud, ud, ud, ud, ud, ud, ud, ud, ud, ud, ud, ud, ud, ud, ud, ud, ud, ud, ud, ud, ud, ud, ud, ud, ud, ud, ud, ud, ud, ud, ud, ud, ud, ud, ud, ud, ud, ud, ud, ud, ud, ud, ud, ud, ud, ud, ud, ud, ud, ud, ud, ud, ud, ud, ud, ud, ud, ud, ud, ud, ud, ud, ud, ud, ud, ud, ud, ud, ud, ud, ud, ud], defers := [] }) (obs := [.test .gtr 3 (.tmp 30) (.const (.int .i64 4096)) (.int .i64 x.quota) (.int .i64 4096) (.bool true)]) (by kernel_rfl) ⟨qJz (fun _ => qLz _ _ _ _ _ _) q5, trivial⟩ ?_
       refine qFz (by kernel_rfl) ?_
       go_wp2
       go_ret
       refine ⟨false, rfl, ⟨fun e => absurd e Bool.false_ne_true, fun e => ?_⟩, hk⟩; exfalso; have := qSz.1 (qqz.1 e).1; have := q5.out; omega
      ·replace q5 : Hid (¬ (4096 < x.quota)) := q5
       refine qAz [some (.bool false), none, none, some (.agg C)] 28 (obs := [.test .gtr 3 (.tmp 30) (.const (.int .i64 4096)) (.int .i64 x.quota) (.int .i64 4096) (.bool false), .load 55 (B) (0) (.agg C)]) (by kernel_rfl) ⟨q2z (fun _ => qLz _ _ _ _ _ _) q5, qBz (fun _ e => by rw [e]; exact hb) underlying55 (by kernel_rfl) (qfz hz), trivial⟩ ?_
       refine q4z (i := 32) (f := 121) (vs := [.agg C]) (d := some 35) (by kernel_rfl) call121 (uTz (h.next hk)) ?_ ?_
       ·intro w6 q6 hb1; replace hb := hb.next hb1; replace hk := btz hk hb1; clear hb1
        refine qDz [none, none] 33 (a' := { tmps := #[.agg C, pt B 0, .bool false, pt B 0, .int .u64 x.id, .bool true, .bool false, .bool false, pt B 1, .int .i64 x.kind, .bool false, .bool false, .bool false, pt B 1, .int .i64 x.kind, .bool false, .bool false, .bool false, pt B 2, .slice a2 n2 k2, .bool true, .bool false, .bool false, .bool false, pt B 3, .int .i64 x.quota, .bool false, .bool false, .bool false, pt B 3, .int .i64 x.quota, .bool false, .bool false, .bool false, .agg C, .bool true, .bool false, .bool false, ud, ud, ud, ud, ud, ud, ud, ud, ud, ud, ud, ud, ud, ud, ud, ud, ud, ud, ud, ud, ud, ud, ud, ud, ud, ud, ud, ud, ud, ud, ud, ud, ud, ud, ud, ud, ud, ud, ud, ud, ud, ud, ud, ud, ud, ud, ud, ud, ud, ud, ud, ud, ud, ud, ud, ud, ud, ud, ud, ud, ud, ud, ud, ud, ud, ud, ud, ud, ud, ud, ud, ud, ud, ud, ud, ud, ud, ud, ud, ud, ud], defers := [] }) (obs := []) (by kernel_rfl) trivial ?_
        refine qFz (by kernel_rfl) ?_
        have hqa : 1 ≤ x.quota := by have := q4.out; omega
        have hqb : x.quota ≤ 4096 := by have := q5.out; omega
        have hka : 1 ≤ x.kind := by have := q1.out; omega
        have hkb : x.kind ≤ 6 := by have := q2.out; omega
        have hkl : n2 < 274877906944 := by have := (qvz.1 q3.out).1; rw [hn2.out] at this; omega
        have hw1 : IntKind.i64.wrap (x.quota - 1) = x.quota - 1 := by rw [IntKind.wrap_i64]; omega
        have hw2 : IntKind.i64.wrap (16 * (x.quota - 1)) = 16 * (x.quota - 1) := by rw [IntKind.wrap_i64]; omega
        by_cases hk1 : x.kind = 1
        ·have hkd0 := hk1
         replace c1 : C[1]? = some (.int .i64 1) := c1.trans (by rw [hkd0])
         have hkd : x.kind = 1 := hkd0
         have hkH : Hid (x.kind = 1) := hkd
         clear hkd hkd0 hka hkb hk1
         go_wp2_with (first
          | go_skip
          | (with_reducible refine qaz (by kernel_rfl) _ _ rfl B _ rfl _ _ hb _ (by assumption) (by assumption) ?_)
          | ((with_reducible refine qgz (by kernel_rfl) .leq _ _ _ _ rfl _ _ rfl rfl (wez _ _ _ _ _ _) ?_ ?_) <;> intro hq)
          | (go_at_call 122; (with_reducible refine (wNz l2 hk hkl).mono ?_); rintro e w1 ⟨ao1, cap1, rfl, hb1⟩; replace hb := hb.next hb1; replace hk := btz hk hb1; clear hb1)
          | ((with_reducible refine qgz (by kernel_rfl) .gtr _ _ _ _ rfl _ _ rfl rfl (qLz _ _ _ _ _ _) ?_ ?_) <;> intro hq))
         all_goals go_ret
         all_goals first
          | (refine qpz (qqz.2 ⟨qSz.2 ⟨q0.out, hqa, hqb, q3.out, .inr (xPz (Hid.out (by assumption)))⟩, (own1 hkH.out).2 ?_, (wdz x).2 q6.out⟩) hk; rw [hn6.out]; exact Hid.out (by assumption))
          | (have hl : 16 * (x.quota - 1) < (n6 : Int) := Hid.out (by assumption); refine ⟨false, rfl, ⟨fun e => absurd e Bool.false_ne_true, fun e => ?_⟩, hk⟩; exfalso; replace e := ((own1 hkH.out).1 (qqz.1 e).2.1); rw [hn6.out] at e; omega)
          | (have hl : 0 < ((wOz x.label).length : Int) := Hid.out (by assumption); refine ⟨false, rfl, ⟨fun e => absurd e Bool.false_ne_true, fun e => ?_⟩, hk⟩; exact (kTz (by have := hkH.out; omega) hl e).elim)
          | fail
        by_cases hk2 : x.kind = 2
        ·have hkd0 := hk2
         replace c1 : C[1]? = some (.int .i64 2) := c1.trans (by rw [hkd0])
         have hkd : x.kind = 2 := hkd0
         have hkH : Hid (x.kind = 2) := hkd
         clear hkd hkd0 hka hkb hk1 hk2
         go_wp2_with (first
          | go_skip
          | (with_reducible refine qaz (by kernel_rfl) _ _ rfl B _ rfl _ _ hb _ (by assumption) (by assumption) ?_)
          | ((with_reducible refine qgz (by kernel_rfl) .leq _ _ _ _ rfl _ _ rfl rfl (wez _ _ _ _ _ _) ?_ ?_) <;> intro hq)
          | (go_at_call 123; (with_reducible refine (ylz l5 hk).on ?_ ?_) <;> (intro w1 hq hb1; replace hb := hb.next hb1; replace hk := btz hk hb1; clear hb1))
          | (go_at_call 122; (with_reducible refine (wNz l2 hk hkl).mono ?_); rintro e w1 ⟨ao1, cap1, rfl, hb1⟩; replace hb := hb.next hb1; replace hk := btz hk hb1; clear hb1)
          | ((with_reducible refine qgz (by kernel_rfl) .gtr _ _ _ _ rfl _ _ rfl rfl (qLz _ _ _ _ _ _) ?_ ?_) <;> intro hq))
         all_goals go_ret
         all_goals first
          | (refine qpz (qqz.2 ⟨qSz.2 ⟨q0.out, hqa, hqb, q3.out, .inr (xPz (Hid.out (by assumption)))⟩, (own2 hkH.out).2 ⟨?_, (Hid.out (by assumption) : allI x.links = true ∧ risB x.links = true).1, (Hid.out (by assumption) : allI x.links = true ∧ risB x.links = true).2⟩, (wdz x).2 q6.out⟩) hk; (have hl : (n5 : Int) ≤ 64 := Hid.out (by assumption)); rw [hn5.out]; omega)
          | (refine qjz (Y := allI x.links = true ∧ risB x.links = true) (by assumption) hk (fun e => ((own2 hkH.out).1 (qqz.1 e).2.1).2))
          | (have hl : 64 < (n5 : Int) := Hid.out (by assumption); refine ⟨false, rfl, ⟨fun e => absurd e Bool.false_ne_true, fun e => ?_⟩, hk⟩; exfalso; replace e := ((own2 hkH.out).1 (qqz.1 e).2.1); have := e.1; rw [hn5.out] at this; omega)
          | (have hl : 0 < ((wOz x.label).length : Int) := Hid.out (by assumption); refine ⟨false, rfl, ⟨fun e => absurd e Bool.false_ne_true, fun e => ?_⟩, hk⟩; exact (kTz (by have := hkH.out; omega) hl e).elim)
          | fail
        by_cases hk3 : x.kind = 3
        ·have hkd0 := hk3
         replace c1 : C[1]? = some (.int .i64 3) := c1.trans (by rw [hkd0])
         have hkd : x.kind = 3 := hkd0
         have hkH : Hid (x.kind = 3) := hkd
         clear hkd hkd0 hka hkb hk1 hk2 hk3
         go_wp2_with (first
          | go_skip
          | (with_reducible refine qaz (by kernel_rfl) _ _ rfl B _ rfl _ _ hb _ (by assumption) (by assumption) ?_)
          | (go_at_call 124; (with_reducible refine (Asks.of (PgM.rfit_any (MpD.mp' l7 hk))).on ?_ ?_) <;> (intro w1 hq hb1; replace hb := hb.next hb1; replace hk := btz hk hb1; clear hb1))
          | (go_at_call 122; (with_reducible refine (wNz l2 hk hkl).mono ?_); rintro e w1 ⟨ao1, cap1, rfl, hb1⟩; replace hb := hb.next hb1; replace hk := btz hk hb1; clear hb1)
          | ((with_reducible refine qgz (by kernel_rfl) .gtr _ _ _ _ rfl _ _ rfl rfl (qLz _ _ _ _ _ _) ?_ ?_) <;> intro hq))
         all_goals go_ret
         all_goals first
          | (refine qpz (qqz.2 ⟨qSz.2 ⟨q0.out, hqa, hqb, q3.out, .inr (xPz (Hid.out (by assumption)))⟩, (own3 hkH.out).2 (Hid.out (by assumption)), (wdz x).2 q6.out⟩) hk)
          | (refine qjz (Y := PgM.Pg.fitB x.maps = true) (by assumption) hk (fun e => (own3 hkH.out).1 (qqz.1 e).2.1))
          | (have hl : 0 < ((wOz x.label).length : Int) := Hid.out (by assumption); refine ⟨false, rfl, ⟨fun e => absurd e Bool.false_ne_true, fun e => ?_⟩, hk⟩; exact (kTz (by have := hkH.out; omega) hl e).elim)
          | fail
        by_cases hk4 : x.kind = 4
        ·have hkd0 := hk4
         replace c1 : C[1]? = some (.int .i64 4) := c1.trans (by rw [hkd0])
         have hkd : x.kind = 4 := hkd0
         have hkH : Hid (x.kind = 4) := hkd
         clear hkd hkd0 hka hkb hk1 hk2 hk3 hk4
         cases hfx : x.fixed with
         | false =>
          rw [hfx] at c4
          go_wp2_with (first
           | go_skip
           | (with_reducible refine qaz (by kernel_rfl) _ _ rfl B _ rfl _ _ hb _ (by assumption) (by assumption) ?_)
           | (with_reducible refine qnz (by kernel_rfl) 51 _ rfl B _ rfl 35 _ _ hb _ rfl (by rw [hz]; omega) _ underlying51 (by kernel_rfl) w9z ?_)
           | (go_at_call 125; (with_reducible refine (kMz (bhz l2 hk) (h.thd.next hk)).on ?_ ?_) <;> (intro w1 hq hb1; replace hb := hb.next hb1; replace hk := btz hk hb1; clear hb1)))
          all_goals go_ret
          all_goals first
           | (refine qpz (qqz.2 ⟨qSz.2 ⟨q0.out, hqa, hqb, q3.out, .inl hkH.out⟩, (own4 hkH.out).2 ⟨hfx, q5z.2 ⟨q3.out, (Hid.out (by assumption) : (qYz x.th.clear = true ∧ wWz x.label x.th.clear = true ∧ thrB x.th = true)).1, by rw [← xFz (wpz (qvz.1 q3.out).2.1) (wpz (qvz.1 (Hid.out (by assumption) : (qYz x.th.clear = true ∧ wWz x.label x.th.clear = true ∧ thrB x.th = true)).1).2.1)]; exact (Hid.out (by assumption) : (qYz x.th.clear = true ∧ wWz x.label x.th.clear = true ∧ thrB x.th = true)).2.1⟩, (Hid.out (by assumption) : (qYz x.th.clear = true ∧ wWz x.label x.th.clear = true ∧ thrB x.th = true)).2.2⟩, (wdz x).2 q6.out⟩) hk)
           | (refine qjz (Y := (qYz x.th.clear = true ∧ wWz x.label x.th.clear = true ∧ thrB x.th = true)) (by assumption) hk (fun e => ?_); have e4 := (own4 hkH.out).1 (qqz.1 e).2.1; have e5 := q5z.1 e4.2.1; exact ⟨e5.2.1, (by rw [xFz (wpz (qvz.1 e5.1).2.1) (wpz (qvz.1 e5.2.1).2.1)]; exact e5.2.2), e4.2.2⟩)
           | (refine ⟨false, rfl, ⟨fun e => absurd e Bool.false_ne_true, fun e => ?_⟩, hk⟩; exfalso; replace e := ((own4 hkH.out).1 (qqz.1 e).2.1); rw [hfx] at e; cases e.1)
           | fail
         | true =>
          rw [hfx] at c4
          go_wp2_with (first
           | go_skip
           | (with_reducible refine qaz (by kernel_rfl) _ _ rfl B _ rfl _ _ hb _ (by assumption) (by assumption) ?_)
           | (with_reducible refine qnz (by kernel_rfl) 51 _ rfl B _ rfl 35 _ _ hb _ rfl (by rw [hz]; omega) _ underlying51 (by kernel_rfl) w9z ?_)
           | (go_at_call 125; (with_reducible refine (kMz (bhz l2 hk) (h.thd.next hk)).on ?_ ?_) <;> (intro w1 hq hb1; replace hb := hb.next hb1; replace hk := btz hk hb1; clear hb1)))
          all_goals go_ret
          all_goals first
           | (refine qpz (qqz.2 ⟨qSz.2 ⟨q0.out, hqa, hqb, q3.out, .inl hkH.out⟩, (own4 hkH.out).2 ⟨hfx, q5z.2 ⟨q3.out, (Hid.out (by assumption) : (qYz x.th.clear = true ∧ wWz x.label x.th.clear = true ∧ thrB x.th = true)).1, by rw [← xFz (wpz (qvz.1 q3.out).2.1) (wpz (qvz.1 (Hid.out (by assumption) : (qYz x.th.clear = true ∧ wWz x.label x.th.clear = true ∧ thrB x.th = true)).1).2.1)]; exact (Hid.out (by assumption) : (qYz x.th.clear = true ∧ wWz x.label x.th.clear = true ∧ thrB x.th = true)).2.1⟩, (Hid.out (by assumption) : (qYz x.th.clear = true ∧ wWz x.label x.th.clear = true ∧ thrB x.th = true)).2.2⟩, (wdz x).2 q6.out⟩) hk)
           | (refine qjz (Y := (qYz x.th.clear = true ∧ wWz x.label x.th.clear = true ∧ thrB x.th = true)) (by assumption) hk (fun e => ?_); have e4 := (own4 hkH.out).1 (qqz.1 e).2.1; have e5 := q5z.1 e4.2.1; exact ⟨e5.2.1, (by rw [xFz (wpz (qvz.1 e5.1).2.1) (wpz (qvz.1 e5.2.1).2.1)]; exact e5.2.2), e4.2.2⟩)
           | (refine ⟨false, rfl, ⟨fun e => absurd e Bool.false_ne_true, fun e => ?_⟩, hk⟩; exfalso; replace e := ((own4 hkH.out).1 (qqz.1 e).2.1); rw [hfx] at e; cases e.1)
           | fail
        by_cases hk5 : x.kind = 5
        ·have hkd0 := hk5
         replace c1 : C[1]? = some (.int .i64 5) := c1.trans (by rw [hkd0])
         have hkd : x.kind = 5 := hkd0
         have hkH : Hid (x.kind = 5) := hkd
         clear hkd hkd0 hka hkb hk1 hk2 hk3 hk4 hk5
         go_wp2_with (first
          | go_skip
          | (with_reducible refine qaz (by kernel_rfl) _ _ rfl B _ rfl _ _ hb _ (by assumption) (by assumption) ?_)
          | (go_at_call 120; (with_reducible refine (xaz l43 hk).on ?_ ?_) <;> (intro w1 hq hb1; replace hb := hb.next hb1; replace hk := btz hk hb1; clear hb1))
          | (go_at_call 120; (with_reducible refine (xaz l44 hk).on ?_ ?_) <;> (intro w1 hq hb1; replace hb := hb.next hb1; replace hk := btz hk hb1; clear hb1))
          | (go_at_call 19; (with_reducible refine (Asks.of (kOz (l43.lab' hk) (l44.lab' hk))).on ?_ ?_) <;> (intro w1 hq hb1; replace hb := hb.next hb1; replace hk := btz hk hb1; clear hb1))
          | (go_at_call 122; (with_reducible refine (wNz l2 hk hkl).mono ?_); rintro e w1 ⟨ao1, cap1, rfl, hb1⟩; replace hb := hb.next hb1; replace hk := btz hk hb1; clear hb1)
          | ((with_reducible refine qgz (by kernel_rfl) .gtr _ _ _ _ rfl _ _ rfl rfl (qLz _ _ _ _ _ _) ?_ ?_) <;> intro hq))
         all_goals go_ret
         all_goals first
          | (refine qpz (qqz.2 ⟨qSz.2 ⟨q0.out, hqa, hqb, q3.out, .inr (xPz (Hid.out (by assumption)))⟩, (own5 hkH.out).2 (q5z.2 ⟨Hid.out (by assumption), Hid.out (by assumption), by rw [← xFz (wpz (qvz.1 (Hid.out (by assumption) : qYz x.gt.grant = true)).2.1) (wpz (qvz.1 (Hid.out (by assumption) : qYz x.gt.clear = true)).2.1)]; exact Hid.out (by assumption)⟩), (wdz x).2 q6.out⟩) hk)
          | (refine qjz (Y := wWz x.gt.grant x.gt.clear = true) (by assumption) hk (fun e => ?_); have e5 := q5z.1 ((own5 hkH.out).1 (qqz.1 e).2.1); rw [xFz (wpz (qvz.1 e5.1).2.1) (wpz (qvz.1 e5.2.1).2.1)]; exact e5.2.2)
          | (refine qjz (Y := qYz x.gt.clear = true) (by assumption) hk (fun e => (q5z.1 ((own5 hkH.out).1 (qqz.1 e).2.1)).2.1))
          | (refine qjz (Y := qYz x.gt.grant = true) (by assumption) hk (fun e => (q5z.1 ((own5 hkH.out).1 (qqz.1 e).2.1)).1))
          | (have hl : 0 < ((wOz x.label).length : Int) := Hid.out (by assumption); refine ⟨false, rfl, ⟨fun e => absurd e Bool.false_ne_true, fun e => ?_⟩, hk⟩; exact (kTz (by have := hkH.out; omega) hl e).elim)
          | fail
        ·have hkd0 : x.kind = 6 := by omega
         replace c1 : C[1]? = some (.int .i64 6) := c1.trans (by rw [hkd0])
         have hkd : x.kind = 6 := hkd0
         have hkH : Hid (x.kind = 6) := hkd
         clear hkd hkd0 hka hkb hk1 hk2 hk3 hk4 hk5
         go_wp2_with (first
          | go_skip
          | (with_reducible refine qaz (by kernel_rfl) _ _ rfl B _ rfl _ _ hb _ (by assumption) (by assumption) ?_)
          | ((with_reducible refine qgz (by kernel_rfl) .leq _ _ _ _ rfl _ _ rfl rfl (wez _ _ _ _ _ _) ?_ ?_) <;> intro hq)
          | (go_at_call 122; (with_reducible refine (wNz l2 hk hkl).mono ?_); rintro e w1 ⟨ao1, cap1, rfl, hb1⟩; replace hb := hb.next hb1; replace hk := btz hk hb1; clear hb1)
          | ((with_reducible refine qgz (by kernel_rfl) .gtr _ _ _ _ rfl _ _ rfl rfl (qLz _ _ _ _ _ _) ?_ ?_) <;> intro hq))
         all_goals go_ret
         all_goals first
          | (have h1 : (n49 : Int) ≤ 64 := Hid.out (by assumption); have h2 : (n50 : Int) ≤ 1024 := Hid.out (by assumption); exact qpz (qqz.2 ⟨qSz.2 ⟨q0.out, hqa, hqb, q3.out, .inr (xPz (Hid.out (by assumption)))⟩, (own6 hkH.out).2 ⟨by rw [hn49.out]; omega, by rw [hn50.out]; omega⟩, (wdz x).2 q6.out⟩) hk)
          | (have hl : 1024 < (n50 : Int) := Hid.out (by assumption); refine ⟨false, rfl, ⟨fun e => absurd e Bool.false_ne_true, fun e => ?_⟩, hk⟩; exfalso; replace e := ((own6 hkH.out).1 (qqz.1 e).2.1); have := e.2; rw [hn50.out] at this; omega)
          | (have hl : 64 < (n49 : Int) := Hid.out (by assumption); refine ⟨false, rfl, ⟨fun e => absurd e Bool.false_ne_true, fun e => ?_⟩, hk⟩; exfalso; replace e := ((own6 hkH.out).1 (qqz.1 e).2.1); have := e.1; rw [hn49.out] at this; omega)
          | (have hl : 0 < ((wOz x.label).length : Int) := Hid.out (by assumption); refine ⟨false, rfl, ⟨fun e => absurd e Bool.false_ne_true, fun e => ?_⟩, hk⟩; exact (kTz (by have := hkH.out; omega) hl e).elim)
          | fail
       ·intro w6 q6 hb1; replace hb := hb.next hb1; replace hk := btz hk hb1; clear hb1
        refine qDz [none, none] 33 (a' := { tmps := #[.agg C, pt B 0, .bool false, pt B 0, .int .u64 x.id, .bool true, .bool false, .bool false, pt B 1, .int .i64 x.kind, .bool false, .bool false, .bool false, pt B 1, .int .i64 x.kind, .bool false, .bool false, .bool false, pt B 2, .slice a2 n2 k2, .bool true, .bool false, .bool false, .bool false, pt B 3, .int .i64 x.quota, .bool false, .bool false, .bool false, pt B 3, .int .i64 x.quota, .bool false, .bool false, .bool false, .agg C, .bool false, .bool true, .bool true, ud, ud, ud, ud, ud, ud, ud, ud, ud, ud, ud, ud, ud, ud, ud, ud, ud, ud, ud, ud, ud, ud, ud, ud, ud, ud, ud, ud, ud, ud, ud, ud, ud, ud, ud, ud, ud, ud, ud, ud, ud, ud, ud, ud, ud, ud, ud, ud, ud, ud, ud, ud, ud, ud, ud, ud, ud, ud, ud, ud, ud, ud, ud, ud, ud, ud, ud, ud, ud, ud, ud, ud, ud, ud, ud, ud, ud, ud, ud, ud, ud], defers := [] }) (obs := []) (by kernel_rfl) trivial ?_
        refine qFz (by kernel_rfl) ?_
        go_wp2
        go_ret
        exact qjz q6 hk (fun e => (wdz x).1 (qqz.1 e).2.2)
    ·intro w3 q3 hb1; replace hb := hb.next hb1; replace hk := btz hk hb1; clear hb1
     refine qDz (nl 17) 18 (a' := { tmps := #[.agg C, pt B 0, .bool false, pt B 0, .int .u64 x.id, .bool true, .bool false, .bool false, pt B 1, .int .i64 x.kind, .bool false, .bool false, .bool false, pt B 1, .int .i64 x.kind, .bool false, .bool false, .bool false, pt B 2, .slice a2 n2 k2, .bool false, .bool true, .bool true, .bool true, ud, ud, ud, .bool true, .bool true, ud, ud, ud, .bool true, .bool true, ud, ud, ud, .bool true, ud, ud, ud, ud, ud, ud, ud, ud, ud, ud, ud, ud, ud, ud, ud, ud, ud, ud, ud, ud, ud, ud, ud, ud, ud, ud, ud, ud, ud, ud, ud, ud, ud, ud, ud, ud, ud, ud, ud, ud, ud, ud, ud, ud, ud, ud, ud, ud, ud, ud, ud, ud, ud, ud, ud, ud, ud, ud, ud, ud, ud, ud, ud, ud, ud, ud, ud, ud, ud, ud, ud, ud, ud, ud, ud, ud, ud, ud, ud, ud, ud], defers := [] }) (obs := []) (by kernel_rfl) trivial ?_
     refine qFz (by kernel_rfl) ?_
     go_wp2
     go_ret
     exact qjz q3 hk (fun e => (qSz.1 (qqz.1 e).1).2.2.2.1)
 ·intro w0 q0 hb1; replace hb := hb.next hb1; replace hk := btz hk hb1; clear hb1
  refine qDz (nl 32) 3 (a' := { tmps := #[.agg C, pt B 0, .bool false, pt B 0, .int .u64 x.id, .bool false, .bool true, .bool true, ud, ud, ud, .bool true, .bool true, ud, ud, ud, .bool true, .bool true, ud, ud, ud, ud, .bool true, .bool true, ud, ud, ud, .bool true, .bool true, ud, ud, ud, .bool true, .bool true, ud, ud, ud, .bool true, ud, ud, ud, ud, ud, ud, ud, ud, ud, ud, ud, ud, ud, ud, ud, ud, ud, ud, ud, ud, ud, ud, ud, ud, ud, ud, ud, ud, ud, ud, ud, ud, ud, ud, ud, ud, ud, ud, ud, ud, ud, ud, ud, ud, ud, ud, ud, ud, ud, ud, ud, ud, ud, ud, ud, ud, ud, ud, ud, ud, ud, ud, ud, ud, ud, ud, ud, ud, ud, ud, ud, ud, ud, ud, ud, ud, ud, ud, ud, ud, ud], defers := [] }) (obs := []) (by kernel_rfl) trivial ?_
  refine qFz (by kernel_rfl) ?_
  go_wp2
  go_ret
  exact qjz q0 hk (fun e => (qSz.1 (qqz.1 e).1).1)
def RowC (k : Nat) (D : Nat → Prop) (w : World) (ao : Option Addr) (n cap : Nat) (cs : List Value) : Prop :=
 cs.length = n * k ∧ n ≤ cap ∧ (cap ≤ 9223372036854775807 ∧ (ao = none → cap = 0)) ∧ (0 < n → ∃ b off, ao = some ⟨b, off, none⟩ ∧ D b ∧ w.rangeAt b off cs)
theorem RowC.cells {k : Nat} {D : Nat → Prop} {ad : Addr} {n cap : Nat} {cs : List Value} (h : RowC k D w (some ad) n cap cs) : ∀ j u, cs[j]? = some u → w.cell? (ad.add j) = some u := by
 intro j u hj
 have hl := (List.getElem?_eq_some_iff.1 hj).1
 have hn : 0 < n := by
  rcases Nat.eq_zero_or_pos n with h0 | h0
  ·have := h.1; rw [h0] at this; omega
  ·exact h0
 obtain ⟨b, off, e, _, hr⟩ := h.2.2.2 hn
 cases e
 rw [Addr.add_mid]
 exact hr j u hj
theorem RowC.of_owns {k base : Nat} {e : TypeId} {v : Value} {n : Nat} {cs : List Value} (h : w.ownsRow base e k v n cs) : ∃ ao cap, v = .slice ao n cap ∧ RowC k (fun b => base ≤ b ∧ b < w.heap.size) w ao n cap cs := by
 have hl := h
 rcases h.2 with ⟨rfl, h0⟩ | ⟨g, c, cur, rfl, hb, hg, hkc, hcm, hcs, htk⟩
 ·subst h0
  exact ⟨none, 0, rfl, h.1, lrz _, ⟨by omega, fun _ => rfl⟩, fun hn => absurd hn (by omega)⟩
 ·refine ⟨some ⟨g, 0, none⟩, c, rfl, h.1, hkc, ⟨by unfold maxLen at hcm; omega, fun e => by cases e⟩, fun hn => ⟨g, 0, rfl, ⟨hb, (Array.getElem?_eq_some_iff.1 hg).1⟩, fun j u hj => ?_⟩⟩
  have := hl.cells (g := g) rfl j u hj
  rw [Addr.add_mid] at this
  exact this
section
variable {D : Nat → Prop} {w : World} {ao : Option Addr} {n cap : Nat}
theorem kbz (L : Lb) : (cellsOf L).length = L.length * 2 := by
 induction L with
 | nil => rfl
 | cons p r ih => simp [cellsOf, ih]; omega
theorem vZz {L : Lb} : ∀ {i : Nat}, i < L.length → (cellsOf L)[i * 2]? = some (.int .u64 (L.getD i (0, 0)).1) ∧ (cellsOf L)[i * 2 + 1]? = some (.int .i64 (L.getD i (0, 0)).2) := by
 induction L with
 | nil => intro i hi; simp at hi
 | cons p r ih =>
  intro i hi
  cases i with
  | zero => exact ⟨rfl, rfl⟩
  | succ i =>
   have := ih (i := i) (by simpa using hi)
   rw [show (i + 1) * 2 = i * 2 + 1 + 1 by omega]
   exact ⟨this.1, this.2⟩
theorem LabD.row {L : Lb} (h : LabD D w ao n cap L) : RowC 2 D w ao n cap (cellsOf L) := by
 refine ⟨by rw [kbz, h.1], h.2.1, h.2.2.1, fun hn => ?_⟩
 obtain ⟨b, off, e, hb, hc⟩ := h.2.2.2 hn
 refine ⟨b, off, e, hb, fun j u hj => ?_⟩
 have hl : j < L.length * 2 := by rw [← kbz]; exact (List.getElem?_eq_some_iff.1 hj).1
 have hi : j / 2 < L.length := by omega
 have c := vZz hi
 have q := hc (j / 2) (by rw [← h.1]; exact hi)
 rcases Nat.mod_two_eq_zero_or_one j with h0 | h1
 ·rw [show j / 2 * 2 = j by omega] at c q
  rw [hj] at c
  cases c.1
  exact q.1
 ·have e1 : j / 2 * 2 + 1 = j := by omega
  have q2 := q.2
  rw [show off + j / 2 * 2 + 1 = off + j by omega] at q2
  rw [e1, hj] at c
  cases c.2
  exact q2
theorem RowC.lab {L : Lb} (h : RowC 2 D w ao n cap (cellsOf L)) : LabD D w ao n cap L := by
 have hl := h.1
 rw [kbz] at hl
 refine ⟨by omega, h.2.1, h.2.2.1, fun hn => ?_⟩
 obtain ⟨b, off, e, hb, hc⟩ := h.2.2.2 hn
 refine ⟨b, off, e, hb, fun i hi => ?_⟩
 have c := vZz (L := L) (i := i) (by omega)
 exact ⟨hc _ _ c.1, hc _ _ c.2⟩
def qNz (L : List Int) : List Value := L.map (Value.int .u64)
theorem CtD.row {L : List Int} (h : CtD D w ao n cap L) : RowC 1 D w ao n cap (qNz L) := by
 refine ⟨by simp [qNz, h.1], h.2.1, h.2.2.1, fun hn => ?_⟩
 obtain ⟨b, off, e, hb, hc⟩ := h.2.2.2 hn
 refine ⟨b, off, e, hb, fun j u hj => ?_⟩
 have hl : j < L.length := by have := (List.getElem?_eq_some_iff.1 hj).1; simpa [qNz] using this
 rw [hc j (by rw [← h.1]; exact hl), ← hj]
 simp [qNz, List.getD_eq_getElem?_getD, List.getElem?_eq_getElem hl]
theorem RowC.ct {L : List Int} (h : RowC 1 D w ao n cap (qNz L)) : CtD D w ao n cap L := by
 have hl := h.1
 simp [qNz] at hl
 refine ⟨hl, h.2.1, h.2.2.1, fun hn => ?_⟩
 obtain ⟨b, off, e, hb, hc⟩ := h.2.2.2 hn
 refine ⟨b, off, e, hb, fun i hi => hc i _ ?_⟩
 have hi' : i < L.length := by omega
 simp [qNz, List.getD_eq_getElem?_getD, List.getElem?_eq_getElem hi']
theorem MpD.row {L : List PgM.Pg.Mp} (h : MpD D w ao n cap L) : RowC 6 D w ao n cap (PgM.mpC L) := by
 refine ⟨by rw [PgM.mpC_len, h.1], h.2.1, h.2.2.1, fun hn => ?_⟩
 obtain ⟨b, off, e, hb, hc⟩ := h.2.2.2 hn
 refine ⟨b, off, e, hb, fun j u hj => ?_⟩
 obtain ⟨h1, h2⟩ := PgM.mpC_back hj
 have := hc (j / 6) (by rw [← h.1]; exact h1) (j % 6) u h2
 rwa [show off + j / 6 * 6 + j % 6 = off + j by omega] at this
theorem RowC.mp {L : List PgM.Pg.Mp} (h : RowC 6 D w ao n cap (PgM.mpC L)) : MpD D w ao n cap L := by
 have hl := h.1
 rw [PgM.mpC_len] at hl
 refine ⟨by omega, h.2.1, h.2.2.1, fun hn => ?_⟩
 obtain ⟨b, off, e, hb, hc⟩ := h.2.2.2 hn
 refine ⟨b, off, e, hb, fun i hi j v hv => ?_⟩
 have := hc (i * 6 + j) v (PgM.mpC_at (by omega) hv)
 rwa [show off + (i * 6 + j) = off + i * 6 + j by omega] at this
end
section
variable {ops : Array Oper} {rest : List Oper} {o : Oper} {a : Act} {Q : Exit → Act → World → Prop} {w : World}
theorem qOz {t e : TypeId} {z : Value} {k by_ : Nat} (hinfo : (prog.info? e).map (fun i => (i.zero, i.size, i.bytes)) = some (some z, k, by_)) (ht : prog.underlying t = some (.slice e)) (hzs : z.cells.size = k) (hk : 0 < k) (hgd : o.guard = none) (s x : Operand) (ho : o.op = .call { callee := .builtin .append, args := #[s, x], argTypes := #[t, t] })
  (base : Nat) (v : Value) (m : Nat) (cs' : List Value) (hs : a.eval s = v) (hown : w.ownsRow base e k v m cs') (D : Nat → Prop) (ao : Option Addr) (n cap : Nat) (cs : List Value) (hx : a.eval x = .slice ao n cap) (hL : RowC k D w ao n cap cs) (h1 : ∀ u ∈ cs, u.oneCell' = true) (h63 : m + n ≤ maxLen) (hby : (m + n) * by_ ≤ 140737488355328) (hbase : base ≤ w.heap.size)
  (h : ∀ v' w', w'.ownsRow base e k v' (m + n) (cs' ++ cs) → w.grownBy w' v.ownBlock → wpList prog ops Q rest (a.put o.dst v') w') : wpList prog ops Q (o :: rest) a w := by
 obtain ⟨i0, hi, hz0, hz1, hz2⟩ := info_parts hinfo
 cases ao with
 | none =>
  have h0 := hL.2.2.1.2 rfl
  have hn0 : n = 0 := by have := hL.2.1; omega
  subst hn0
  have hl : cs = [] := List.eq_nil_of_length_eq_zero (by have := hL.1; omega)
  subst hl
  subst h0
  refine wpList_append_own_none hgd s x t ho base e i0 k ht hi v _ _ hs hown hx ?_
  exact h v w (by simpa using hown) (PgM.grownBy_refl _ _)
 | some ad =>
  refine wpList_append_own w hgd s x t ho base e i0 z k by_ ht hi hz0 hz1 hz2 hzs hk v _ _ hs hown ad n cap cs hx hL.1 hL.cells h1 h63 hby hbase ?_
  intro v' w' h2 h3 _
  exact h v' w' h2 h3
end
theorem u2z : (prog.info? 22).map (fun i => (i.zero, i.size, i.bytes)) = some (some (.int .u64 0), 1, 8) := by kernel_rfl
theorem infoP : (prog.info? 86).map (fun i => (i.zero, i.size, i.bytes)) = some (some (.agg #[.int .u64 0, .int .i64 0]), 2, 16) := by kernel_rfl
theorem infoM : (prog.info? 115).map (fun i => (i.zero, i.size, i.bytes)) = some (some (.agg #[.int .i64 0, .int .i64 0, .int .u64 0, .int .u64 0, .int .i64 0, .bool false]), 6, 48) := by kernel_rfl
theorem gdz (L : Lb) : ∀ u ∈ cellsOf L, u.oneCell' = true := by
 induction L with
 | nil => intro u hu; cases hu
 | cons p r ih =>
  intro u hu
  simp [cellsOf] at hu
  rcases hu with rfl | rfl | hu
  ·rfl
  ·rfl
  ·exact ih u hu
theorem uFz (L : List Int) : ∀ u ∈ qNz L, u.oneCell' = true := by
 intro u hu
 simp [qNz] at hu
 obtain ⟨x, _, rfl⟩ := hu
 rfl
abbrev New (w w' : World) : Nat → Prop := fun b => w.heap.size ≤ b ∧ b < w'.heap.size
theorem xHz {w w' : World} (h : w.grownBy w' (Value.ownBlock (.slice none 0 0))) : Below w.heap.size w w' := (brz _ _).grown h (lrz _) (fun j e => by have e' : none = some j := e; cases e')
variable {ao : Option Addr} {n cap : Nat} {w0 w : World}
theorem xWz {L : Lb} (h : LabD (LtN w0) w0 ao n cap L) (hk : Below w0.heap.size w0 w) (hn : n < 8796093022208) :
  Calls prog 132 #[.slice ao n cap] w fun e w' => ∃ ao1 cap1, e = .returned (.slice ao1 n cap1) ∧ LabD (New w w') w' ao1 n cap1 L ∧ Below w.heap.size w w' := by
 have hL := (bhz h hk).row
 go_enter func132, ntmps132
 go_wp2_with (at_builtin; refine qOz infoP underlying39 rfl (by omega) rfl _ _ rfl w.heap.size _ 0 [] rfl (World.ownsRow_nil _ _ _ _) _ _ _ _ (cellsOf L) rfl hL (gdz L) (by unfold maxLen; omega) (by omega) (lrz _) ?_; intro v' w1 hown hgrow)
 go_ret
 rw [Nat.zero_add, List.nil_append] at hown
 obtain ⟨ao1, cap1, rfl, hr⟩ := RowC.of_owns hown
 exact ⟨ao1, cap1, rfl, hr.lab, xHz hgrow⟩
theorem copyL {L : Lb} (h : LabD (LtN w0) w0 ao n cap L) (hk : Below w0.heap.size w0 w) (hn : n < 4294967296) :
  Calls prog 132 #[.slice ao n cap] w fun e w' => ∃ ao1 cap1, e = .returned (.slice ao1 n cap1) ∧ LabD (New w w') w' ao1 n cap1 L ∧ Below w.heap.size w w' := xWz h hk (by omega)
variable {L : List Int}
theorem bKz {w : World} {base : Nat} (h : w.ownsRow base 22 1 (.slice ao n cap) n (qNz L)) : CtD (fun b => base ≤ b ∧ b < w.heap.size) w ao n cap L := by
 obtain ⟨a, c, e, hr⟩ := RowC.of_owns h
 cases e
 exact hr.ct
theorem xqz {w w' : World} {base k n : Nat} {e : TypeId} {v : Value} {cs : List Value} (h : w.ownsRow base e k v n cs) (hk : ∀ b, base ≤ b → b < w.heap.size → w'.heap[b]? = w.heap[b]?) : w'.ownsRow base e k v n cs := by
 refine ⟨h.1, ?_⟩
 rcases h.2 with h0 | ⟨g, c, cur, e1, hb, hg, hr⟩
 ·exact .inl h0
 ·exact .inr ⟨g, c, cur, e1, hb, (hk g hb (Array.getElem?_eq_some_iff.1 hg).1).trans hg, hr⟩
theorem vXz (h : CtD (LtN w0) w0 ao n cap L) (hk : Below w0.heap.size w0 w) (hn : n < 4294967296) :
  Calls prog 133 #[.slice ao n cap] w fun e w' => ∃ ao1 cap1, e = .returned (.slice ao1 n cap1) ∧ w'.ownsRow w.heap.size 22 1 (.slice ao1 n cap1) n (qNz L) ∧ Below w.heap.size w w' := by
 have hL := (h.ct' hk).row
 go_enter func133, ntmps133
 go_wp2_with (at_builtin; refine qOz u2z underlying40 rfl (by omega) rfl _ _ rfl w.heap.size _ 0 [] rfl (World.ownsRow_nil _ _ _ _) _ _ _ _ (qNz L) rfl hL (uFz L) (by unfold maxLen; omega) (by omega) (lrz _) ?_; intro v' w1 hown hgrow)
 go_ret
 rw [Nat.zero_add, List.nil_append] at hown
 obtain ⟨ao1, cap1, rfl, hr⟩ := RowC.of_owns hown
 exact ⟨ao1, cap1, rfl, hown, xHz hgrow⟩
theorem copyU (h : CtD (LtN w0) w0 ao n cap L) (hk : Below w0.heap.size w0 w) (hn : n < 4294967296) :
  Calls prog 133 #[.slice ao n cap] w fun e w' => ∃ ao1 cap1, e = .returned (.slice ao1 n cap1) ∧ CtD (New w w') w' ao1 n cap1 L ∧ Below w.heap.size w w' :=
 (vXz h hk hn).mono fun e w' ⟨ao1, cap1, he, ho, hb⟩ => ⟨ao1, cap1, he, bKz ho, hb⟩
theorem copyM {L : List PgM.Pg.Mp} (h : MpD (LtN w0) w0 ao n cap L) (hk : Below w0.heap.size w0 w) (hn : n < 4294967296) :
  Calls prog 134 #[.slice ao n cap] w fun e w' => ∃ ao1 cap1, e = .returned (.slice ao1 n cap1) ∧ MpD (New w w') w' ao1 n cap1 L ∧ Below w.heap.size w w' := by
 have hL := MpD.row (MpD.mp' h hk)
 go_enter func134, ntmps134
 go_wp2_with (at_builtin; refine qOz infoM underlying41 rfl (by omega) rfl _ _ rfl w.heap.size _ 0 [] rfl (World.ownsRow_nil _ _ _ _) _ _ _ _ (PgM.mpC L) rfl hL (PgM.mpC_one L) (by unfold maxLen; omega) (by omega) (lrz _) ?_; intro v' w1 hown hgrow)
 go_ret
 rw [Nat.zero_add, List.nil_append] at hown
 obtain ⟨ao1, cap1, rfl, hr⟩ := RowC.of_owns hown
 exact ⟨ao1, cap1, rfl, hr.mp, xHz hgrow⟩
theorem size34 : (prog.info? 49).map (·.size) = some 4 := by kernel_rfl
variable {C : Array Value}
theorem ext4 {o : Nat} {a b c d : Value} (h0 : C[o]? = some a) (h1 : C[o + 1]? = some b) (h2 : C[o + 2]? = some c) (h3 : C[o + 3]? = some d) : C.extract o (o + 4) = #[a, b, c, d] := by
 have hs : o + 3 < C.size := (Array.getElem?_eq_some_iff.1 h3).1
 apply Array.ext_getElem?
 intro i
 rcases i with _ | _ | _ | _ | i
 ·rw [q1z (n := 4) (by omega) (by omega)]; exact h0
 ·rw [q1z (n := 4) (by omega) (by omega)]; exact h1
 ·rw [q1z (n := 4) (by omega) (by omega)]; exact h2
 ·rw [q1z (n := 4) (by omega) (by omega)]; exact h3
 ·rw [Array.getElem?_extract, if_neg (by omega)]; simp
theorem ix_0 (a b c d : Value) (w : World) : (Instr.index 49 (.agg #[a, b, c, d]) (.int .i64 0)).run prog w = .ok a w := by kernel_rfl
theorem ix_1 (a b c d : Value) (w : World) : (Instr.index 49 (.agg #[a, b, c, d]) (.int .i64 1)).run prog w = .ok b w := by kernel_rfl
theorem ix_2 (a b c d : Value) (w : World) : (Instr.index 49 (.agg #[a, b, c, d]) (.int .i64 2)).run prog w = .ok c w := by kernel_rfl
theorem ix_3 (a b c d : Value) (w : World) : (Instr.index 49 (.agg #[a, b, c, d]) (.int .i64 3)).run prog w = .ok d w := by kernel_rfl
def Cel (D : Nat → Prop) (w : World) (C : Array Value) (x : Ob) (j : Nat) : Prop :=
 match j with
 | 2 => LbV D w C[2]? x.label
 | 5 => CtV D w C[5]? x.links
 | 6 => CtV D w C[6]? x.data
 | 7 => MpV D w C[7]? x.maps
 | 25 => LbV D w C[25]? x.th.clear
 | 36 => CtV D w C[36]? x.th.alerts
 | 39 => LbV D w C[39]? x.th.l0
 | 40 => LbV D w C[40]? x.th.l1
 | 41 => LbV D w C[41]? x.th.l2
 | 42 => LbV D w C[42]? x.th.l3
 | 43 => LbV D w C[43]? x.gt.grant
 | 44 => LbV D w C[44]? x.gt.clear
 | 49 => CtV D w C[49]? x.inn
 | 50 => CtV D w C[50]? x.out
 | _ => True
theorem Cel.laterK {D : Nat → Prop} {w w' : World} {x : Ob} {j : Nat} (h : Cel D w C x j) (k : ∀ b, D b → w'.heap[b]? = w.heap[b]?) : Cel D w' C x j := by
 unfold Cel at h ⊢
 split at h <;> first | exact LbV.laterK h k | exact CtV.laterK h k | exact MpV.laterK h k | trivial
theorem Cel.wide {D D' : Nat → Prop} {w : World} {x : Ob} {j : Nat} (h : Cel D w C x j) (k : ∀ b, D b → D' b) : Cel D' w C x j := by
 unfold Cel at h ⊢
 split at h <;> first | exact LbV.wide h k | exact CtV.wide h k | exact MpV.wide h k | trivial
theorem Cel.congr {D : Nat → Prop} {w : World} {C C' : Array Value} {x : Ob} {j : Nat} (h : Cel D w C x j) (e : C'[j]? = C[j]?) : Cel D w C' x j := by
 unfold Cel at h ⊢
 split at h <;> first | (rw [e]; exact h) | trivial
structure Small (x : Ob) : Prop where
 c2 : x.label.length < 4294967296
 c5 : x.links.length < 4294967296
 c6 : x.data.length < 4294967296
 c7 : x.maps.length < 4294967296
 c25 : x.th.clear.length < 8796093022208
 c36 : x.th.alerts.length < 4294967296
 c39 : x.th.l0.length < 8796093022208
 c40 : x.th.l1.length < 8796093022208
 c41 : x.th.l2.length < 8796093022208
 c42 : x.th.l3.length < 8796093022208
 c43 : x.gt.grant.length < 8796093022208
 c44 : x.gt.clear.length < 8796093022208
 c49 : x.inn.length < 4294967296
 c50 : x.out.length < 4294967296
structure Cp (N : Nat) (w W : World) (B : Nat) (C : Array Value) (x : Ob) (Dn : Nat → Prop) : Prop where
 bx : Bx W B C x
 dn : ∀ j, Dn j → Cel (fun b => (N ≤ b ∧ b < W.heap.size) ∧ b ≠ B) W C x j
 be : Below w.heap.size w W
 le : w.heap.size ≤ B
 nl : N ≤ W.heap.size
 nw : w.heap.size ≤ N
section
variable {N : Nat} {w W W1 W2 : World} {B : Nat} {C : Array Value} {x : Ob} {Dn : Nat → Prop}
theorem Cp.next (h : Cp N w W B C x Dn) (k : Below W.heap.size W W1) : Cp N w W1 B C x Dn :=
 ⟨h.bx.next k, fun j hj => ((h.dn j hj).laterK fun b hb => k.block b hb.1.2).wide fun b hb => ⟨⟨hb.1.1, ltz hb.1.2 k.size⟩, hb.2⟩, h.be.trans (k.mono h.be.size), h.le, Nat.le_trans h.nl k.size, h.nw⟩
theorem Cp.st2 (h : Cp N w W B C x Dn) (k : Below W.heap.size W W1) {a : Option Addr} {n c : Nat} (l : LabD (New W W1) W1 a n c x.label) (o : Oth B W1 W2) (b : Blk W2 B (C.setIfInBounds 2 (.slice a n c)) 55) : Cp N w W2 B (C.setIfInBounds 2 (.slice a n c)) x (fun j => Dn j ∨ j = 2) := by
 have h1 := h.next k
 have hlt := h.bx.blk.lt
 have lz : LbV (Ex B W1) W1 (some (.slice a n c)) x.label := ⟨a, n, c, rfl, LabD.wide l fun b hb => ⟨hb.2, by have := hb.1; omega⟩⟩
 refine ⟨⟨b, ?_⟩, ?_, o.below _ _ h.le h1.be, h.le, by rw [o.size]; exact h1.nl, h.nw⟩
 ·exact ((h1.bx.ob.set2 lz rfl).laterK fun b hb => o.block b hb.2).wide fun b hb => ⟨by rw [o.size]; exact hb.1, hb.2⟩
 ·intro j hj
  by_cases e : j = 2
  ·subst e
   have q : (C.setIfInBounds 2 (Value.slice a n c))[2]? = some (.slice a n c) := by rw [qEz (by rw [h.bx.ob.size]; omega), if_pos rfl]
   show LbV _ _ ((C.setIfInBounds 2 (Value.slice a n c))[2]?) x.label
   rw [q]
   exact ⟨a, n, c, rfl, LabD.wide (LabD.laterK l fun b hb => o.block b (by have := hb.1; omega)) fun b hb => ⟨⟨Nat.le_trans h.nl hb.1, by rw [o.size]; exact hb.2⟩, by have := hb.1; omega⟩⟩
  ·have hj' := hj.resolve_right e
   refine ((Cel.congr (h1.dn j hj') ?_).laterK fun b hb => o.block b hb.2).wide fun b hb => ⟨⟨hb.1.1, by rw [o.size]; exact hb.1.2⟩, hb.2⟩
   rw [qEz (by rw [h.bx.ob.size]; omega), if_neg (fun q => e q.symm)]
theorem Cp.st5 (h : Cp N w W B C x Dn) (k : Below W.heap.size W W1) {a : Option Addr} {n c : Nat} (l : CtD (New W W1) W1 a n c x.links) (o : Oth B W1 W2) (b : Blk W2 B (C.setIfInBounds 5 (.slice a n c)) 55) : Cp N w W2 B (C.setIfInBounds 5 (.slice a n c)) x (fun j => Dn j ∨ j = 5) := by
 have h1 := h.next k
 have hlt := h.bx.blk.lt
 have lz : CtV (Ex B W1) W1 (some (.slice a n c)) x.links := ⟨a, n, c, rfl, CtD.wide l fun b hb => ⟨hb.2, by have := hb.1; omega⟩⟩
 refine ⟨⟨b, ?_⟩, ?_, o.below _ _ h.le h1.be, h.le, by rw [o.size]; exact h1.nl, h.nw⟩
 ·exact ((h1.bx.ob.set5 lz rfl).laterK fun b hb => o.block b hb.2).wide fun b hb => ⟨by rw [o.size]; exact hb.1, hb.2⟩
 ·intro j hj
  by_cases e : j = 5
  ·subst e
   have q : (C.setIfInBounds 5 (Value.slice a n c))[5]? = some (.slice a n c) := by rw [qEz (by rw [h.bx.ob.size]; omega), if_pos rfl]
   show CtV _ _ ((C.setIfInBounds 5 (Value.slice a n c))[5]?) x.links
   rw [q]
   exact ⟨a, n, c, rfl, CtD.wide (CtD.laterK l fun b hb => o.block b (by have := hb.1; omega)) fun b hb => ⟨⟨Nat.le_trans h.nl hb.1, by rw [o.size]; exact hb.2⟩, by have := hb.1; omega⟩⟩
  ·have hj' := hj.resolve_right e
   refine ((Cel.congr (h1.dn j hj') ?_).laterK fun b hb => o.block b hb.2).wide fun b hb => ⟨⟨hb.1.1, by rw [o.size]; exact hb.1.2⟩, hb.2⟩
   rw [qEz (by rw [h.bx.ob.size]; omega), if_neg (fun q => e q.symm)]
theorem Cp.st6 (h : Cp N w W B C x Dn) (k : Below W.heap.size W W1) {a : Option Addr} {n c : Nat} (l : CtD (New W W1) W1 a n c x.data) (o : Oth B W1 W2) (b : Blk W2 B (C.setIfInBounds 6 (.slice a n c)) 55) : Cp N w W2 B (C.setIfInBounds 6 (.slice a n c)) x (fun j => Dn j ∨ j = 6) := by
 have h1 := h.next k
 have hlt := h.bx.blk.lt
 have lz : CtV (Ex B W1) W1 (some (.slice a n c)) x.data := ⟨a, n, c, rfl, CtD.wide l fun b hb => ⟨hb.2, by have := hb.1; omega⟩⟩
 refine ⟨⟨b, ?_⟩, ?_, o.below _ _ h.le h1.be, h.le, by rw [o.size]; exact h1.nl, h.nw⟩
 ·exact ((h1.bx.ob.set6 lz rfl).laterK fun b hb => o.block b hb.2).wide fun b hb => ⟨by rw [o.size]; exact hb.1, hb.2⟩
 ·intro j hj
  by_cases e : j = 6
  ·subst e
   have q : (C.setIfInBounds 6 (Value.slice a n c))[6]? = some (.slice a n c) := by rw [qEz (by rw [h.bx.ob.size]; omega), if_pos rfl]
   show CtV _ _ ((C.setIfInBounds 6 (Value.slice a n c))[6]?) x.data
   rw [q]
   exact ⟨a, n, c, rfl, CtD.wide (CtD.laterK l fun b hb => o.block b (by have := hb.1; omega)) fun b hb => ⟨⟨Nat.le_trans h.nl hb.1, by rw [o.size]; exact hb.2⟩, by have := hb.1; omega⟩⟩
  ·have hj' := hj.resolve_right e
   refine ((Cel.congr (h1.dn j hj') ?_).laterK fun b hb => o.block b hb.2).wide fun b hb => ⟨⟨hb.1.1, by rw [o.size]; exact hb.1.2⟩, hb.2⟩
   rw [qEz (by rw [h.bx.ob.size]; omega), if_neg (fun q => e q.symm)]
theorem Cp.st7 (h : Cp N w W B C x Dn) (k : Below W.heap.size W W1) {a : Option Addr} {n c : Nat} (l : MpD (New W W1) W1 a n c x.maps) (o : Oth B W1 W2) (b : Blk W2 B (C.setIfInBounds 7 (.slice a n c)) 55) : Cp N w W2 B (C.setIfInBounds 7 (.slice a n c)) x (fun j => Dn j ∨ j = 7) := by
 have h1 := h.next k
 have hlt := h.bx.blk.lt
 have lz : MpV (Ex B W1) W1 (some (.slice a n c)) x.maps := ⟨a, n, c, rfl, PgM.MpsD.wide l fun b hb => ⟨hb.2, by have := hb.1; omega⟩⟩
 refine ⟨⟨b, ?_⟩, ?_, o.below _ _ h.le h1.be, h.le, by rw [o.size]; exact h1.nl, h.nw⟩
 ·exact ((h1.bx.ob.set7 lz rfl).laterK fun b hb => o.block b hb.2).wide fun b hb => ⟨by rw [o.size]; exact hb.1, hb.2⟩
 ·intro j hj
  by_cases e : j = 7
  ·subst e
   have q : (C.setIfInBounds 7 (Value.slice a n c))[7]? = some (.slice a n c) := by rw [qEz (by rw [h.bx.ob.size]; omega), if_pos rfl]
   show MpV _ _ ((C.setIfInBounds 7 (Value.slice a n c))[7]?) x.maps
   rw [q]
   exact ⟨a, n, c, rfl, PgM.MpsD.wide (PgM.MpsD.laterK l fun b hb => o.block b (by have := hb.1; omega)) fun b hb => ⟨⟨Nat.le_trans h.nl hb.1, by rw [o.size]; exact hb.2⟩, by have := hb.1; omega⟩⟩
  ·have hj' := hj.resolve_right e
   refine ((Cel.congr (h1.dn j hj') ?_).laterK fun b hb => o.block b hb.2).wide fun b hb => ⟨⟨hb.1.1, by rw [o.size]; exact hb.1.2⟩, hb.2⟩
   rw [qEz (by rw [h.bx.ob.size]; omega), if_neg (fun q => e q.symm)]
theorem Cp.st25 (h : Cp N w W B C x Dn) (k : Below W.heap.size W W1) {a : Option Addr} {n c : Nat} (l : LabD (New W W1) W1 a n c x.th.clear) (o : Oth B W1 W2) (b : Blk W2 B (C.setIfInBounds 25 (.slice a n c)) 55) : Cp N w W2 B (C.setIfInBounds 25 (.slice a n c)) x (fun j => Dn j ∨ j = 25) := by
 have h1 := h.next k
 have hlt := h.bx.blk.lt
 have lz : LbV (Ex B W1) W1 (some (.slice a n c)) x.th.clear := ⟨a, n, c, rfl, LabD.wide l fun b hb => ⟨hb.2, by have := hb.1; omega⟩⟩
 refine ⟨⟨b, ?_⟩, ?_, o.below _ _ h.le h1.be, h.le, by rw [o.size]; exact h1.nl, h.nw⟩
 ·exact ((h1.bx.ob.set25 lz rfl).laterK fun b hb => o.block b hb.2).wide fun b hb => ⟨by rw [o.size]; exact hb.1, hb.2⟩
 ·intro j hj
  by_cases e : j = 25
  ·subst e
   have q : (C.setIfInBounds 25 (Value.slice a n c))[25]? = some (.slice a n c) := by rw [qEz (by rw [h.bx.ob.size]; omega), if_pos rfl]
   show LbV _ _ ((C.setIfInBounds 25 (Value.slice a n c))[25]?) x.th.clear
   rw [q]
   exact ⟨a, n, c, rfl, LabD.wide (LabD.laterK l fun b hb => o.block b (by have := hb.1; omega)) fun b hb => ⟨⟨Nat.le_trans h.nl hb.1, by rw [o.size]; exact hb.2⟩, by have := hb.1; omega⟩⟩
  ·have hj' := hj.resolve_right e
   refine ((Cel.congr (h1.dn j hj') ?_).laterK fun b hb => o.block b hb.2).wide fun b hb => ⟨⟨hb.1.1, by rw [o.size]; exact hb.1.2⟩, hb.2⟩
   rw [qEz (by rw [h.bx.ob.size]; omega), if_neg (fun q => e q.symm)]
theorem Cp.st36 (h : Cp N w W B C x Dn) (k : Below W.heap.size W W1) {a : Option Addr} {n c : Nat} (l : CtD (New W W1) W1 a n c x.th.alerts) (o : Oth B W1 W2) (b : Blk W2 B (C.setIfInBounds 36 (.slice a n c)) 55) : Cp N w W2 B (C.setIfInBounds 36 (.slice a n c)) x (fun j => Dn j ∨ j = 36) := by
 have h1 := h.next k
 have hlt := h.bx.blk.lt
 have lz : CtV (Ex B W1) W1 (some (.slice a n c)) x.th.alerts := ⟨a, n, c, rfl, CtD.wide l fun b hb => ⟨hb.2, by have := hb.1; omega⟩⟩
 refine ⟨⟨b, ?_⟩, ?_, o.below _ _ h.le h1.be, h.le, by rw [o.size]; exact h1.nl, h.nw⟩
 ·exact ((h1.bx.ob.set36 lz rfl).laterK fun b hb => o.block b hb.2).wide fun b hb => ⟨by rw [o.size]; exact hb.1, hb.2⟩
 ·intro j hj
  by_cases e : j = 36
  ·subst e
   have q : (C.setIfInBounds 36 (Value.slice a n c))[36]? = some (.slice a n c) := by rw [qEz (by rw [h.bx.ob.size]; omega), if_pos rfl]
   show CtV _ _ ((C.setIfInBounds 36 (Value.slice a n c))[36]?) x.th.alerts
   rw [q]
   exact ⟨a, n, c, rfl, CtD.wide (CtD.laterK l fun b hb => o.block b (by have := hb.1; omega)) fun b hb => ⟨⟨Nat.le_trans h.nl hb.1, by rw [o.size]; exact hb.2⟩, by have := hb.1; omega⟩⟩
  ·have hj' := hj.resolve_right e
   refine ((Cel.congr (h1.dn j hj') ?_).laterK fun b hb => o.block b hb.2).wide fun b hb => ⟨⟨hb.1.1, by rw [o.size]; exact hb.1.2⟩, hb.2⟩
   rw [qEz (by rw [h.bx.ob.size]; omega), if_neg (fun q => e q.symm)]
theorem Cp.st39 (h : Cp N w W B C x Dn) (k : Below W.heap.size W W1) {a : Option Addr} {n c : Nat} (l : LabD (New W W1) W1 a n c x.th.l0) (o : Oth B W1 W2) (b : Blk W2 B (C.setIfInBounds 39 (.slice a n c)) 55) : Cp N w W2 B (C.setIfInBounds 39 (.slice a n c)) x (fun j => Dn j ∨ j = 39) := by
 have h1 := h.next k
 have hlt := h.bx.blk.lt
 have lz : LbV (Ex B W1) W1 (some (.slice a n c)) x.th.l0 := ⟨a, n, c, rfl, LabD.wide l fun b hb => ⟨hb.2, by have := hb.1; omega⟩⟩
 refine ⟨⟨b, ?_⟩, ?_, o.below _ _ h.le h1.be, h.le, by rw [o.size]; exact h1.nl, h.nw⟩
 ·exact ((h1.bx.ob.set39 lz rfl).laterK fun b hb => o.block b hb.2).wide fun b hb => ⟨by rw [o.size]; exact hb.1, hb.2⟩
 ·intro j hj
  by_cases e : j = 39
  ·subst e
   have q : (C.setIfInBounds 39 (Value.slice a n c))[39]? = some (.slice a n c) := by rw [qEz (by rw [h.bx.ob.size]; omega), if_pos rfl]
   show LbV _ _ ((C.setIfInBounds 39 (Value.slice a n c))[39]?) x.th.l0
   rw [q]
   exact ⟨a, n, c, rfl, LabD.wide (LabD.laterK l fun b hb => o.block b (by have := hb.1; omega)) fun b hb => ⟨⟨Nat.le_trans h.nl hb.1, by rw [o.size]; exact hb.2⟩, by have := hb.1; omega⟩⟩
  ·have hj' := hj.resolve_right e
   refine ((Cel.congr (h1.dn j hj') ?_).laterK fun b hb => o.block b hb.2).wide fun b hb => ⟨⟨hb.1.1, by rw [o.size]; exact hb.1.2⟩, hb.2⟩
   rw [qEz (by rw [h.bx.ob.size]; omega), if_neg (fun q => e q.symm)]
theorem Cp.st40 (h : Cp N w W B C x Dn) (k : Below W.heap.size W W1) {a : Option Addr} {n c : Nat} (l : LabD (New W W1) W1 a n c x.th.l1) (o : Oth B W1 W2) (b : Blk W2 B (C.setIfInBounds 40 (.slice a n c)) 55) : Cp N w W2 B (C.setIfInBounds 40 (.slice a n c)) x (fun j => Dn j ∨ j = 40) := by
 have h1 := h.next k
 have hlt := h.bx.blk.lt
 have lz : LbV (Ex B W1) W1 (some (.slice a n c)) x.th.l1 := ⟨a, n, c, rfl, LabD.wide l fun b hb => ⟨hb.2, by have := hb.1; omega⟩⟩
 refine ⟨⟨b, ?_⟩, ?_, o.below _ _ h.le h1.be, h.le, by rw [o.size]; exact h1.nl, h.nw⟩
 ·exact ((h1.bx.ob.set40 lz rfl).laterK fun b hb => o.block b hb.2).wide fun b hb => ⟨by rw [o.size]; exact hb.1, hb.2⟩
 ·intro j hj
  by_cases e : j = 40
  ·subst e
   have q : (C.setIfInBounds 40 (Value.slice a n c))[40]? = some (.slice a n c) := by rw [qEz (by rw [h.bx.ob.size]; omega), if_pos rfl]
   show LbV _ _ ((C.setIfInBounds 40 (Value.slice a n c))[40]?) x.th.l1
   rw [q]
   exact ⟨a, n, c, rfl, LabD.wide (LabD.laterK l fun b hb => o.block b (by have := hb.1; omega)) fun b hb => ⟨⟨Nat.le_trans h.nl hb.1, by rw [o.size]; exact hb.2⟩, by have := hb.1; omega⟩⟩
  ·have hj' := hj.resolve_right e
   refine ((Cel.congr (h1.dn j hj') ?_).laterK fun b hb => o.block b hb.2).wide fun b hb => ⟨⟨hb.1.1, by rw [o.size]; exact hb.1.2⟩, hb.2⟩
   rw [qEz (by rw [h.bx.ob.size]; omega), if_neg (fun q => e q.symm)]
theorem Cp.st41 (h : Cp N w W B C x Dn) (k : Below W.heap.size W W1) {a : Option Addr} {n c : Nat} (l : LabD (New W W1) W1 a n c x.th.l2) (o : Oth B W1 W2) (b : Blk W2 B (C.setIfInBounds 41 (.slice a n c)) 55) : Cp N w W2 B (C.setIfInBounds 41 (.slice a n c)) x (fun j => Dn j ∨ j = 41) := by
 have h1 := h.next k
 have hlt := h.bx.blk.lt
 have lz : LbV (Ex B W1) W1 (some (.slice a n c)) x.th.l2 := ⟨a, n, c, rfl, LabD.wide l fun b hb => ⟨hb.2, by have := hb.1; omega⟩⟩
 refine ⟨⟨b, ?_⟩, ?_, o.below _ _ h.le h1.be, h.le, by rw [o.size]; exact h1.nl, h.nw⟩
 ·exact ((h1.bx.ob.set41 lz rfl).laterK fun b hb => o.block b hb.2).wide fun b hb => ⟨by rw [o.size]; exact hb.1, hb.2⟩
 ·intro j hj
  by_cases e : j = 41
  ·subst e
   have q : (C.setIfInBounds 41 (Value.slice a n c))[41]? = some (.slice a n c) := by rw [qEz (by rw [h.bx.ob.size]; omega), if_pos rfl]
   show LbV _ _ ((C.setIfInBounds 41 (Value.slice a n c))[41]?) x.th.l2
   rw [q]
   exact ⟨a, n, c, rfl, LabD.wide (LabD.laterK l fun b hb => o.block b (by have := hb.1; omega)) fun b hb => ⟨⟨Nat.le_trans h.nl hb.1, by rw [o.size]; exact hb.2⟩, by have := hb.1; omega⟩⟩
  ·have hj' := hj.resolve_right e
   refine ((Cel.congr (h1.dn j hj') ?_).laterK fun b hb => o.block b hb.2).wide fun b hb => ⟨⟨hb.1.1, by rw [o.size]; exact hb.1.2⟩, hb.2⟩
   rw [qEz (by rw [h.bx.ob.size]; omega), if_neg (fun q => e q.symm)]
theorem Cp.st42 (h : Cp N w W B C x Dn) (k : Below W.heap.size W W1) {a : Option Addr} {n c : Nat} (l : LabD (New W W1) W1 a n c x.th.l3) (o : Oth B W1 W2) (b : Blk W2 B (C.setIfInBounds 42 (.slice a n c)) 55) : Cp N w W2 B (C.setIfInBounds 42 (.slice a n c)) x (fun j => Dn j ∨ j = 42) := by
 have h1 := h.next k
 have hlt := h.bx.blk.lt
 have lz : LbV (Ex B W1) W1 (some (.slice a n c)) x.th.l3 := ⟨a, n, c, rfl, LabD.wide l fun b hb => ⟨hb.2, by have := hb.1; omega⟩⟩
 refine ⟨⟨b, ?_⟩, ?_, o.below _ _ h.le h1.be, h.le, by rw [o.size]; exact h1.nl, h.nw⟩
 ·exact ((h1.bx.ob.set42 lz rfl).laterK fun b hb => o.block b hb.2).wide fun b hb => ⟨by rw [o.size]; exact hb.1, hb.2⟩
 ·intro j hj
  by_cases e : j = 42
  ·subst e
   have q : (C.setIfInBounds 42 (Value.slice a n c))[42]? = some (.slice a n c) := by rw [qEz (by rw [h.bx.ob.size]; omega), if_pos rfl]
   show LbV _ _ ((C.setIfInBounds 42 (Value.slice a n c))[42]?) x.th.l3
   rw [q]
   exact ⟨a, n, c, rfl, LabD.wide (LabD.laterK l fun b hb => o.block b (by have := hb.1; omega)) fun b hb => ⟨⟨Nat.le_trans h.nl hb.1, by rw [o.size]; exact hb.2⟩, by have := hb.1; omega⟩⟩
  ·have hj' := hj.resolve_right e
   refine ((Cel.congr (h1.dn j hj') ?_).laterK fun b hb => o.block b hb.2).wide fun b hb => ⟨⟨hb.1.1, by rw [o.size]; exact hb.1.2⟩, hb.2⟩
   rw [qEz (by rw [h.bx.ob.size]; omega), if_neg (fun q => e q.symm)]
theorem Cp.st43 (h : Cp N w W B C x Dn) (k : Below W.heap.size W W1) {a : Option Addr} {n c : Nat} (l : LabD (New W W1) W1 a n c x.gt.grant) (o : Oth B W1 W2) (b : Blk W2 B (C.setIfInBounds 43 (.slice a n c)) 55) : Cp N w W2 B (C.setIfInBounds 43 (.slice a n c)) x (fun j => Dn j ∨ j = 43) := by
 have h1 := h.next k
 have hlt := h.bx.blk.lt
 have lz : LbV (Ex B W1) W1 (some (.slice a n c)) x.gt.grant := ⟨a, n, c, rfl, LabD.wide l fun b hb => ⟨hb.2, by have := hb.1; omega⟩⟩
 refine ⟨⟨b, ?_⟩, ?_, o.below _ _ h.le h1.be, h.le, by rw [o.size]; exact h1.nl, h.nw⟩
 ·exact ((h1.bx.ob.set43 lz rfl).laterK fun b hb => o.block b hb.2).wide fun b hb => ⟨by rw [o.size]; exact hb.1, hb.2⟩
 ·intro j hj
  by_cases e : j = 43
  ·subst e
   have q : (C.setIfInBounds 43 (Value.slice a n c))[43]? = some (.slice a n c) := by rw [qEz (by rw [h.bx.ob.size]; omega), if_pos rfl]
   show LbV _ _ ((C.setIfInBounds 43 (Value.slice a n c))[43]?) x.gt.grant
   rw [q]
   exact ⟨a, n, c, rfl, LabD.wide (LabD.laterK l fun b hb => o.block b (by have := hb.1; omega)) fun b hb => ⟨⟨Nat.le_trans h.nl hb.1, by rw [o.size]; exact hb.2⟩, by have := hb.1; omega⟩⟩
  ·have hj' := hj.resolve_right e
   refine ((Cel.congr (h1.dn j hj') ?_).laterK fun b hb => o.block b hb.2).wide fun b hb => ⟨⟨hb.1.1, by rw [o.size]; exact hb.1.2⟩, hb.2⟩
   rw [qEz (by rw [h.bx.ob.size]; omega), if_neg (fun q => e q.symm)]
theorem Cp.st44 (h : Cp N w W B C x Dn) (k : Below W.heap.size W W1) {a : Option Addr} {n c : Nat} (l : LabD (New W W1) W1 a n c x.gt.clear) (o : Oth B W1 W2) (b : Blk W2 B (C.setIfInBounds 44 (.slice a n c)) 55) : Cp N w W2 B (C.setIfInBounds 44 (.slice a n c)) x (fun j => Dn j ∨ j = 44) := by
 have h1 := h.next k
 have hlt := h.bx.blk.lt
 have lz : LbV (Ex B W1) W1 (some (.slice a n c)) x.gt.clear := ⟨a, n, c, rfl, LabD.wide l fun b hb => ⟨hb.2, by have := hb.1; omega⟩⟩
 refine ⟨⟨b, ?_⟩, ?_, o.below _ _ h.le h1.be, h.le, by rw [o.size]; exact h1.nl, h.nw⟩
 ·exact ((h1.bx.ob.set44 lz rfl).laterK fun b hb => o.block b hb.2).wide fun b hb => ⟨by rw [o.size]; exact hb.1, hb.2⟩
 ·intro j hj
  by_cases e : j = 44
  ·subst e
   have q : (C.setIfInBounds 44 (Value.slice a n c))[44]? = some (.slice a n c) := by rw [qEz (by rw [h.bx.ob.size]; omega), if_pos rfl]
   show LbV _ _ ((C.setIfInBounds 44 (Value.slice a n c))[44]?) x.gt.clear
   rw [q]
   exact ⟨a, n, c, rfl, LabD.wide (LabD.laterK l fun b hb => o.block b (by have := hb.1; omega)) fun b hb => ⟨⟨Nat.le_trans h.nl hb.1, by rw [o.size]; exact hb.2⟩, by have := hb.1; omega⟩⟩
  ·have hj' := hj.resolve_right e
   refine ((Cel.congr (h1.dn j hj') ?_).laterK fun b hb => o.block b hb.2).wide fun b hb => ⟨⟨hb.1.1, by rw [o.size]; exact hb.1.2⟩, hb.2⟩
   rw [qEz (by rw [h.bx.ob.size]; omega), if_neg (fun q => e q.symm)]
theorem Cp.st49 (h : Cp N w W B C x Dn) (k : Below W.heap.size W W1) {a : Option Addr} {n c : Nat} (l : CtD (New W W1) W1 a n c x.inn) (o : Oth B W1 W2) (b : Blk W2 B (C.setIfInBounds 49 (.slice a n c)) 55) : Cp N w W2 B (C.setIfInBounds 49 (.slice a n c)) x (fun j => Dn j ∨ j = 49) := by
 have h1 := h.next k
 have hlt := h.bx.blk.lt
 have lz : CtV (Ex B W1) W1 (some (.slice a n c)) x.inn := ⟨a, n, c, rfl, CtD.wide l fun b hb => ⟨hb.2, by have := hb.1; omega⟩⟩
 refine ⟨⟨b, ?_⟩, ?_, o.below _ _ h.le h1.be, h.le, by rw [o.size]; exact h1.nl, h.nw⟩
 ·exact ((h1.bx.ob.set49 lz rfl).laterK fun b hb => o.block b hb.2).wide fun b hb => ⟨by rw [o.size]; exact hb.1, hb.2⟩
 ·intro j hj
  by_cases e : j = 49
  ·subst e
   have q : (C.setIfInBounds 49 (Value.slice a n c))[49]? = some (.slice a n c) := by rw [qEz (by rw [h.bx.ob.size]; omega), if_pos rfl]
   show CtV _ _ ((C.setIfInBounds 49 (Value.slice a n c))[49]?) x.inn
   rw [q]
   exact ⟨a, n, c, rfl, CtD.wide (CtD.laterK l fun b hb => o.block b (by have := hb.1; omega)) fun b hb => ⟨⟨Nat.le_trans h.nl hb.1, by rw [o.size]; exact hb.2⟩, by have := hb.1; omega⟩⟩
  ·have hj' := hj.resolve_right e
   refine ((Cel.congr (h1.dn j hj') ?_).laterK fun b hb => o.block b hb.2).wide fun b hb => ⟨⟨hb.1.1, by rw [o.size]; exact hb.1.2⟩, hb.2⟩
   rw [qEz (by rw [h.bx.ob.size]; omega), if_neg (fun q => e q.symm)]
theorem Cp.st50 (h : Cp N w W B C x Dn) (k : Below W.heap.size W W1) {a : Option Addr} {n c : Nat} (l : CtD (New W W1) W1 a n c x.out) (o : Oth B W1 W2) (b : Blk W2 B (C.setIfInBounds 50 (.slice a n c)) 55) : Cp N w W2 B (C.setIfInBounds 50 (.slice a n c)) x (fun j => Dn j ∨ j = 50) := by
 have h1 := h.next k
 have hlt := h.bx.blk.lt
 have lz : CtV (Ex B W1) W1 (some (.slice a n c)) x.out := ⟨a, n, c, rfl, CtD.wide l fun b hb => ⟨hb.2, by have := hb.1; omega⟩⟩
 refine ⟨⟨b, ?_⟩, ?_, o.below _ _ h.le h1.be, h.le, by rw [o.size]; exact h1.nl, h.nw⟩
 ·exact ((h1.bx.ob.set50 lz rfl).laterK fun b hb => o.block b hb.2).wide fun b hb => ⟨by rw [o.size]; exact hb.1, hb.2⟩
 ·intro j hj
  by_cases e : j = 50
  ·subst e
   have q : (C.setIfInBounds 50 (Value.slice a n c))[50]? = some (.slice a n c) := by rw [qEz (by rw [h.bx.ob.size]; omega), if_pos rfl]
   show CtV _ _ ((C.setIfInBounds 50 (Value.slice a n c))[50]?) x.out
   rw [q]
   exact ⟨a, n, c, rfl, CtD.wide (CtD.laterK l fun b hb => o.block b (by have := hb.1; omega)) fun b hb => ⟨⟨Nat.le_trans h.nl hb.1, by rw [o.size]; exact hb.2⟩, by have := hb.1; omega⟩⟩
  ·have hj' := hj.resolve_right e
   refine ((Cel.congr (h1.dn j hj') ?_).laterK fun b hb => o.block b hb.2).wide fun b hb => ⟨⟨hb.1.1, by rw [o.size]; exact hb.1.2⟩, hb.2⟩
   rw [qEz (by rw [h.bx.ob.size]; omega), if_neg (fun q => e q.symm)]
theorem Cp.all (h : Cp N w W B C x Dn) (hd : ∀ j, j ∈ [2, 5, 6, 7, 25, 36, 39, 40, 41, 42, 43, 44, 49, 50] → Dn j) : ObD (fun b => N ≤ b ∧ b < W.heap.size) W C x := by
 have q : ∀ j, j ∈ [2, 5, 6, 7, 25, 36, 39, 40, 41, 42, 43, 44, 49, 50] → Cel (fun b => N ≤ b ∧ b < W.heap.size) W C x j := fun j hj => (h.dn j (hd j hj)).wide fun b hb => hb.1
 have o := h.bx.ob
 exact ⟨o.size, o.one, o.id, o.kind, q 2 (by decide), o.quota, o.fixed, q 5 (by decide), q 6 (by decide), q 7 (by decide),
  ⟨o.th.rlen, o.th.regs, o.th.pc, q 25 (by decide), o.th.sc, o.th.si, o.th.handler, o.th.vector, o.th.state, o.th.wc, o.th.wi, o.th.wx, o.th.wv, o.th.wd, q 36 (by decide), o.th.lo, o.th.hi, q 39 (by decide), q 40 (by decide), q 41 (by decide), q 42 (by decide)⟩,
  ⟨q 43 (by decide), q 44 (by decide), o.gt.sc, o.gt.si, o.gt.pc, o.gt.arg⟩, q 49 (by decide), q 50 (by decide)⟩
def Ap (N : Nat) (W : World) (B M : Nat) (C : Array Value) (x : Ob) : Prop :=
 LbV (fun b => (N ≤ b ∧ b < M) ∧ b ≠ B) W C[2]? x.label ∧ (∃ ao n cap, C[6]? = some (.slice ao n cap) ∧ W.ownsRow M 22 1 (.slice ao n cap) n (qNz x.data)) ∧ N ≤ M ∧ M ≤ W.heap.size ∧ B < M
theorem Ap.of (h : Cp N w W B C x Dn) (hd : Dn 2) (k : Below W.heap.size W W1) {a : Option Addr} {n c : Nat} (l : W1.ownsRow W.heap.size 22 1 (.slice a n c) n (qNz x.data)) (o : Oth B W1 W2) : Ap N W2 B W.heap.size (C.setIfInBounds 6 (.slice a n c)) x := by
 have hz := h.bx.ob.size
 have hB : B < W.heap.size := h.bx.blk.lt
 refine ⟨?_, ⟨a, n, c, by rw [qEz (by omega), if_pos rfl], xqz l fun b hb _ => o.block b (by omega)⟩, h.nl, by rw [o.size]; exact k.size, hB⟩
 have h2 : LbV (fun b => (N ≤ b ∧ b < W.heap.size) ∧ b ≠ B) W C[2]? x.label := h.dn 2 hd
 rw [qEz (by omega), if_neg (by omega)]
 exact LbV.laterK h2 fun b hb => (o.block b hb.2).trans (k.block b hb.1.2)
theorem Ap.st {M : Nat} (h : Ap N W B M C x) (k : Below W.heap.size W W1) (o : Oth B W1 W2) (hz : C.size = 51) {j : Nat} {v : Value} (hj : j < 51 ∧ j ≠ 2 ∧ j ≠ 6) : Ap N W2 B M (C.setIfInBounds j v) x := by
 obtain ⟨h1, ⟨a, n, c, h2, h6⟩, h3, h4, h5⟩ := h
 refine ⟨?_, ⟨a, n, c, ?_, ?_⟩, h3, Nat.le_trans h4 (by rw [o.size]; exact k.size), h5⟩
 ·rw [qEz (by omega), if_neg (by omega)]
  exact LbV.laterK h1 fun b hb => (o.block b hb.2).trans (k.block b (ltz hb.1.2 h4))
 ·rw [qEz (by omega), if_neg (by omega)]
  exact h2
 ·exact xqz h6 fun b hb hl => (o.block b (by omega)).trans (k.block b hl)
end
variable {C : Array Value} {x : Ob} {w : World}
theorem kjz (h : ObD (LtN w) w C x) (hs : Small x) :
  Calls prog 82 #[.agg C] w fun e w' => ∃ C', e = .returned (.agg C') ∧ ObD (New w w') w' C' x ∧ Below w.heap.size w w' ∧ ∃ M, LbV (fun b => New w w' b ∧ b < M) w' C'[2]? x.label ∧ (∃ ao n cap, C'[6]? = some (.slice ao n cap) ∧ w'.ownsRow M 22 1 (.slice ao n cap) n (qNz x.data)) ∧ w.heap.size ≤ M := by
 have ga0 := isAgg39
 have ga1 := isAgg22
 have ga2 := isAgg3
 have ga3 := isAgg4
 have ga4 := isAgg40
 have ga5 := isAgg41
 go_enter func82, ntmps82
 go_wp2_with (first
  | go_skip
  | (with_reducible refine qcz rfl _ _ rfl C rfl ?_; intro B W hB hb hk)
  | ((with_reducible refine qdz rfl _ rfl zC qsz ?_); intro R W' hB' hR0 hk'; have hne : B ≠ R := (by have := hB'.out.1; have := hb.lt; omega); have hC0 : Cp W'.heap.size w W' B C x (fun _ => False) := ⟨(Bx.of h hB hb hk).next hk', fun j hj => False.elim hj, btz hk hk', (by have := hB.out.1; omega), lrz _, (btz hk hk').size⟩; obtain ⟨a2, n2, k2, c2, l2⟩ := hC0.bx.ob.label; (have e2 : n2 < 8796093022208 := (by have := hs.c2; have := l2.1; omega)))
  | (with_reducible refine qaz (by kernel_rfl) _ _ rfl B 2 rfl _ _ hC0.bx.blk _ c2 ga0 ?_)
  | (go_at_call 132; (with_reducible refine (xWz (LabD.wide l2 fun _ hb => hb.1) (brz _ _) e2).mono ?_); rintro e w2 ⟨b2, m2, rfl, z2, kb2⟩; have bl2 := hC0.bx.blk.next kb2)
  | ((with_reducible refine qiz rfl _ _ _ rfl B 2 rfl (.slice b2 n2 m2) rfl rfl _ _ bl2 kdz (by rw [hC0.bx.ob.size]; omega) rfl ?_); intro W2' bb2 oo2; have hC1 := hC0.st2 kb2 z2 oo2 bb2; have hR1 := (hR0.next kb2).other oo2 hne.symm; obtain ⟨a5, n5, k5, c5, l5⟩ := hC1.bx.ob.links; (have e5 : n5 < 4294967296 := (by have := hs.c5; have := l5.1; omega)))
  | (with_reducible refine qaz (by kernel_rfl) _ _ rfl B 5 rfl _ _ hC1.bx.blk _ c5 ga4 ?_)
  | (go_at_call 133; (with_reducible refine (copyU (CtD.wide l5 fun _ hb => hb.1) (brz _ _) e5).mono ?_); rintro e w5 ⟨b5, m5, rfl, z5, kb5⟩; have bl5 := hC1.bx.blk.next kb5)
  | ((with_reducible refine qiz rfl _ _ _ rfl B 5 rfl (.slice b5 n5 m5) rfl rfl _ _ bl5 wDz (by rw [hC1.bx.ob.size]; omega) rfl ?_); intro W5' bb5 oo5; have hC2 := hC1.st5 kb5 z5 oo5 bb5; have hR2 := (hR1.next kb5).other oo5 hne.symm; obtain ⟨a6, n6, k6, c6, l6⟩ := hC2.bx.ob.data; (have e6 : n6 < 4294967296 := (by have := hs.c6; have := l6.1; omega)))
  | (with_reducible refine qaz (by kernel_rfl) _ _ rfl B 6 rfl _ _ hC2.bx.blk _ c6 ga4 ?_)
  | (go_at_call 133; (with_reducible refine (vXz (CtD.wide l6 fun _ hb => hb.1) (brz _ _) e6).mono ?_); rintro e w6 ⟨b6, m6, rfl, z6, kb6⟩; have bl6 := hC2.bx.blk.next kb6)
  | ((with_reducible refine qiz rfl _ _ _ rfl B 6 rfl (.slice b6 n6 m6) rfl rfl _ _ bl6 wDz (by rw [hC2.bx.ob.size]; omega) rfl ?_); intro W6' bb6 oo6; have hC3 := hC2.st6 kb6 (bKz z6) oo6 bb6; have hA3 := Ap.of hC2 (by simp) kb6 z6 oo6; have hR3 := (hR2.next kb6).other oo6 hne.symm; obtain ⟨a7, n7, k7, c7, l7⟩ := hC3.bx.ob.maps; (have e7 : n7 < 4294967296 := (by have := hs.c7; have := l7.1; omega)))
  | (with_reducible refine qaz (by kernel_rfl) _ _ rfl B 7 rfl _ _ hC3.bx.blk _ c7 ga5 ?_)
  | (go_at_call 134; (with_reducible refine (copyM (PgM.MpsD.wide l7 fun _ hb => hb.1) (brz _ _) e7).mono ?_); rintro e w7 ⟨b7, m7, rfl, z7, kb7⟩; have bl7 := hC3.bx.blk.next kb7)
  | ((with_reducible refine qiz rfl _ _ _ rfl B 7 rfl (.slice b7 n7 m7) rfl rfl _ _ bl7 gxz (by rw [hC3.bx.ob.size]; omega) rfl ?_); intro W7' bb7 oo7; have hC4 := hC3.st7 kb7 z7 oo7 bb7; have hA4 := hA3.st kb7 oo7 hC3.bx.ob.size (j := 7) (v := .slice b7 n7 m7) (by omega); have hR4 := (hR3.next kb7).other oo7 hne.symm; obtain ⟨a25, n25, k25, c25, l25⟩ := hC4.bx.ob.th.clear; (have e25 : n25 < 8796093022208 := (by have := hs.c25; have := l25.1; omega)))
  | (with_reducible refine qaz (by kernel_rfl) _ _ rfl B 25 rfl _ _ hC4.bx.blk _ c25 ga0 ?_)
  | (go_at_call 132; (with_reducible refine (xWz (LabD.wide l25 fun _ hb => hb.1) (brz _ _) e25).mono ?_); rintro e w25 ⟨b25, m25, rfl, z25, kb25⟩; have bl25 := hC4.bx.blk.next kb25)
  | ((with_reducible refine qiz rfl _ _ _ rfl B 25 rfl (.slice b25 n25 m25) rfl rfl _ _ bl25 kdz (by rw [hC4.bx.ob.size]; omega) rfl ?_); intro W25' bb25 oo25; have hC5 := hC4.st25 kb25 z25 oo25 bb25; have hA5 := hA4.st kb25 oo25 hC4.bx.ob.size (j := 25) (v := .slice b25 n25 m25) (by omega); have hR5 := (hR4.next kb25).other oo25 hne.symm; obtain ⟨a36, n36, k36, c36, l36⟩ := hC5.bx.ob.th.alerts; (have e36 : n36 < 4294967296 := (by have := hs.c36; have := l36.1; omega)))
  | (with_reducible refine qaz (by kernel_rfl) _ _ rfl B 36 rfl _ _ hC5.bx.blk _ c36 ga4 ?_)
  | (go_at_call 133; (with_reducible refine (copyU (CtD.wide l36 fun _ hb => hb.1) (brz _ _) e36).mono ?_); rintro e w36 ⟨b36, m36, rfl, z36, kb36⟩; have bl36 := hC5.bx.blk.next kb36)
  | ((with_reducible refine qiz rfl _ _ _ rfl B 36 rfl (.slice b36 n36 m36) rfl rfl _ _ bl36 wDz (by rw [hC5.bx.ob.size]; omega) rfl ?_); intro W36' bb36 oo36; have hC6 := hC5.st36 kb36 z36 oo36 bb36; have hA6 := hA5.st kb36 oo36 hC5.bx.ob.size (j := 36) (v := .slice b36 n36 m36) (by omega); have hR6 := (hR5.next kb36).other oo36 hne.symm; obtain ⟨a39, n39, k39, c39, l39⟩ := hC6.bx.ob.th.l0; (have e39 : n39 < 8796093022208 := (by have := hs.c39; have := l39.1; omega)); obtain ⟨a40, n40, k40, c40, l40⟩ := hC6.bx.ob.th.l1; (have e40 : n40 < 8796093022208 := (by have := hs.c40; have := l40.1; omega)); obtain ⟨a41, n41, k41, c41, l41⟩ := hC6.bx.ob.th.l2; (have e41 : n41 < 8796093022208 := (by have := hs.c41; have := l41.1; omega)); obtain ⟨a42, n42, k42, c42, l42⟩ := hC6.bx.ob.th.l3; (have e42 : n42 < 8796093022208 := (by have := hs.c42; have := l42.1; omega)))
  | (with_reducible refine qnz (by kernel_rfl) 49 _ rfl B 39 rfl 4 _ _ hC6.bx.blk _ (ext4 c39 c40 c41 c42) (by rw [hC6.bx.ob.size]; omega) _ underlying49 (by kernel_rfl) size34 ?_))
 have kb0 : W36'.heap.size ≤ W36'.heap.size ∧ ∀ b, Ex B W36' b → W36'.heap[b]? = W36'.heap[b]? := ⟨lrz _, fun _ _ => rfl⟩
 go_loopw [36] (fun i wr => ∃ (k : Nat) (C' : Array Value), k ≤ 4 ∧ i = .int .i64 k ∧ Hid (Cp W'.heap.size w wr B C' x (fun j => j ∈ [2, 5, 6, 7, 25, 36] ∨ (39 ≤ j ∧ j < 39 + k))) ∧ Hid (∃ M, Ap W'.heap.size wr B M C' x) ∧ Blk wr R zC 55 ∧ (W36'.heap.size ≤ wr.heap.size ∧ ∀ b, Ex B W36' b → wr.heap[b]? = W36'.heap[b]?)) (fun i _ => 4 - (intOf i).toNat)
 case atStart =>
  refine ⟨0, _, Nat.zero_le _, rfl, (⟨hC6.bx, fun j hj => ?_, hC6.be, hC6.le, hC6.nl, hC6.nw⟩ : Cp W'.heap.size w W36' B _ x _), ⟨_, hA6⟩, hR6, kb0⟩
  rcases hj with hj | hj
  ·exact hC6.dn j (by simp at hj; rcases hj with rfl | rfl | rfl | rfl | rfl | rfl <;> simp)
  ·omega
 case round =>
  obtain ⟨k, C', hk4, rfl, hCk, hAk, hRk, hkb⟩ := hrel
  obtain ⟨M, hA0⟩ := hAk.out
  have hC0 := hCk.out
  by_cases hkn : k < 4
  ·obtain hcs | hcs | hcs | hcs : k = 0 ∨ k = 1 ∨ k = 2 ∨ k = 3 := by omega
   ·subst hcs
    have ixk := ix_0 (.slice a39 n39 k39) (.slice a40 n40 k40) (.slice a41 n41 k41) (.slice a42 n42 k42)
    have lk : LabD (LtN wr) wr a39 n39 k39 x.th.l0 := (l39.laterK fun b hb => hkb.2 b hb).wide fun b hb => ltz hb.1 hkb.1
    simp only [show (((0 : Nat) : Int)) = 0 from rfl]
    go_wp2_with (first
     | (go_at_call 132; (with_reducible refine (xWz lk (brz _ _) e39).mono ?_); rintro e w39 ⟨b39, m39, rfl, z39, kb39⟩; have bl39 := hC0.bx.blk.next kb39)
     | ((with_reducible refine qiz rfl _ _ _ rfl B 39 rfl (.slice b39 n39 m39) rfl rfl _ _ bl39 kdz (by rw [hC0.bx.ob.size]; omega) rfl ?_); intro W39' bb39 oo39; have hC1 := hC0.st39 kb39 z39 oo39 bb39; have hA1 := hA0.st kb39 oo39 hC0.bx.ob.size (j := 39) (v := .slice b39 n39 m39) (by omega); have hR1 := (hRk.next kb39).other oo39 hne.symm))
    go_roundw
    case rel =>
     refine ⟨1, _, by omega, by go_num, (⟨hC1.bx, fun j hj => hC1.dn j ?_, hC1.be, hC1.le, hC1.nl, hC1.nw⟩ : Cp W'.heap.size w W39' B _ x _), ⟨_, hA1⟩, hR1, Nat.le_trans hkb.1 (by rw [oo39.size]; exact kb39.size), fun b hb => ((oo39.block b hb.2).trans (kb39.block b (ltz hb.1 hkb.1))).trans (hkb.2 b hb)⟩
     rcases hj with hj | hj
     ·exact .inl (.inl hj)
     ·rcases Nat.lt_or_ge j 39 with h' | h'
      ·exact .inl (.inr (by omega))
      ·exact .inr (by omega)
    case measure => simp [intOf]
   ·subst hcs
    have ixk := ix_1 (.slice a39 n39 k39) (.slice a40 n40 k40) (.slice a41 n41 k41) (.slice a42 n42 k42)
    have lk : LabD (LtN wr) wr a40 n40 k40 x.th.l1 := (l40.laterK fun b hb => hkb.2 b hb).wide fun b hb => ltz hb.1 hkb.1
    simp only [show (((1 : Nat) : Int)) = 1 from rfl]
    go_wp2_with (first
     | (go_at_call 132; (with_reducible refine (xWz lk (brz _ _) e40).mono ?_); rintro e w40 ⟨b40, m40, rfl, z40, kb40⟩; have bl40 := hC0.bx.blk.next kb40)
     | ((with_reducible refine qiz rfl _ _ _ rfl B 40 rfl (.slice b40 n40 m40) rfl rfl _ _ bl40 kdz (by rw [hC0.bx.ob.size]; omega) rfl ?_); intro W40' bb40 oo40; have hC1 := hC0.st40 kb40 z40 oo40 bb40; have hA1 := hA0.st kb40 oo40 hC0.bx.ob.size (j := 40) (v := .slice b40 n40 m40) (by omega); have hR1 := (hRk.next kb40).other oo40 hne.symm))
    go_roundw
    case rel =>
     refine ⟨2, _, by omega, by go_num, (⟨hC1.bx, fun j hj => hC1.dn j ?_, hC1.be, hC1.le, hC1.nl, hC1.nw⟩ : Cp W'.heap.size w W40' B _ x _), ⟨_, hA1⟩, hR1, Nat.le_trans hkb.1 (by rw [oo40.size]; exact kb40.size), fun b hb => ((oo40.block b hb.2).trans (kb40.block b (ltz hb.1 hkb.1))).trans (hkb.2 b hb)⟩
     rcases hj with hj | hj
     ·exact .inl (.inl hj)
     ·rcases Nat.lt_or_ge j 40 with h' | h'
      ·exact .inl (.inr (by omega))
      ·exact .inr (by omega)
    case measure => simp [intOf]
   ·subst hcs
    have ixk := ix_2 (.slice a39 n39 k39) (.slice a40 n40 k40) (.slice a41 n41 k41) (.slice a42 n42 k42)
    have lk : LabD (LtN wr) wr a41 n41 k41 x.th.l2 := (l41.laterK fun b hb => hkb.2 b hb).wide fun b hb => ltz hb.1 hkb.1
    simp only [show (((2 : Nat) : Int)) = 2 from rfl]
    go_wp2_with (first
     | (go_at_call 132; (with_reducible refine (xWz lk (brz _ _) e41).mono ?_); rintro e w41 ⟨b41, m41, rfl, z41, kb41⟩; have bl41 := hC0.bx.blk.next kb41)
     | ((with_reducible refine qiz rfl _ _ _ rfl B 41 rfl (.slice b41 n41 m41) rfl rfl _ _ bl41 kdz (by rw [hC0.bx.ob.size]; omega) rfl ?_); intro W41' bb41 oo41; have hC1 := hC0.st41 kb41 z41 oo41 bb41; have hA1 := hA0.st kb41 oo41 hC0.bx.ob.size (j := 41) (v := .slice b41 n41 m41) (by omega); have hR1 := (hRk.next kb41).other oo41 hne.symm))
    go_roundw
    case rel =>
     refine ⟨3, _, by omega, by go_num, (⟨hC1.bx, fun j hj => hC1.dn j ?_, hC1.be, hC1.le, hC1.nl, hC1.nw⟩ : Cp W'.heap.size w W41' B _ x _), ⟨_, hA1⟩, hR1, Nat.le_trans hkb.1 (by rw [oo41.size]; exact kb41.size), fun b hb => ((oo41.block b hb.2).trans (kb41.block b (ltz hb.1 hkb.1))).trans (hkb.2 b hb)⟩
     rcases hj with hj | hj
     ·exact .inl (.inl hj)
     ·rcases Nat.lt_or_ge j 41 with h' | h'
      ·exact .inl (.inr (by omega))
      ·exact .inr (by omega)
    case measure => simp [intOf]
   ·subst hcs
    have ixk := ix_3 (.slice a39 n39 k39) (.slice a40 n40 k40) (.slice a41 n41 k41) (.slice a42 n42 k42)
    have lk : LabD (LtN wr) wr a42 n42 k42 x.th.l3 := (l42.laterK fun b hb => hkb.2 b hb).wide fun b hb => ltz hb.1 hkb.1
    simp only [show (((3 : Nat) : Int)) = 3 from rfl]
    go_wp2_with (first
     | (go_at_call 132; (with_reducible refine (xWz lk (brz _ _) e42).mono ?_); rintro e w42 ⟨b42, m42, rfl, z42, kb42⟩; have bl42 := hC0.bx.blk.next kb42)
     | ((with_reducible refine qiz rfl _ _ _ rfl B 42 rfl (.slice b42 n42 m42) rfl rfl _ _ bl42 kdz (by rw [hC0.bx.ob.size]; omega) rfl ?_); intro W42' bb42 oo42; have hC1 := hC0.st42 kb42 z42 oo42 bb42; have hA1 := hA0.st kb42 oo42 hC0.bx.ob.size (j := 42) (v := .slice b42 n42 m42) (by omega); have hR1 := (hRk.next kb42).other oo42 hne.symm))
    go_roundw
    case rel =>
     refine ⟨4, _, by omega, by go_num, (⟨hC1.bx, fun j hj => hC1.dn j ?_, hC1.be, hC1.le, hC1.nl, hC1.nw⟩ : Cp W'.heap.size w W42' B _ x _), ⟨_, hA1⟩, hR1, Nat.le_trans hkb.1 (by rw [oo42.size]; exact kb42.size), fun b hb => ((oo42.block b hb.2).trans (kb42.block b (ltz hb.1 hkb.1))).trans (hkb.2 b hb)⟩
     rcases hj with hj | hj
     ·exact .inl (.inl hj)
     ·rcases Nat.lt_or_ge j 42 with h' | h'
      ·exact .inl (.inr (by omega))
      ·exact .inr (by omega)
    case measure => simp [intOf]
  ·obtain rfl : k = 4 := by omega
   simp only [show (((4 : Nat) : Int)) = 4 from rfl]
   have hR0 := hRk
   clear c39 l39 e39 c40 l40 e40 c41 l41 e41 c42 l42 e42
   obtain ⟨a43, n43, k43, c43, l43⟩ := hC0.bx.ob.gt.grant; (have e43 : n43 < 8796093022208 := (by have := hs.c43; have := l43.1; omega))
   go_wp2_with (first
    | go_skip
    | (with_reducible refine qaz (by kernel_rfl) _ _ rfl B 43 rfl _ _ hC0.bx.blk _ c43 ga0 ?_)
    | (go_at_call 132; (with_reducible refine (xWz (LabD.wide l43 fun _ hb => hb.1) (brz _ _) e43).mono ?_); rintro e w43 ⟨b43, m43, rfl, z43, kb43⟩; have bl43 := hC0.bx.blk.next kb43)
    | ((with_reducible refine qiz rfl _ _ _ rfl B 43 rfl (.slice b43 n43 m43) rfl rfl _ _ bl43 kdz (by rw [hC0.bx.ob.size]; omega) rfl ?_); intro W43' bb43 oo43; have hC1 := hC0.st43 kb43 z43 oo43 bb43; have hA1 := hA0.st kb43 oo43 hC0.bx.ob.size (j := 43) (v := .slice b43 n43 m43) (by omega); have hR1 := (hR0.next kb43).other oo43 hne.symm; obtain ⟨a44, n44, k44, c44, l44⟩ := hC1.bx.ob.gt.clear; (have e44 : n44 < 8796093022208 := (by have := hs.c44; have := l44.1; omega)))
    | (with_reducible refine qaz (by kernel_rfl) _ _ rfl B 44 rfl _ _ hC1.bx.blk _ c44 ga0 ?_)
    | (go_at_call 132; (with_reducible refine (xWz (LabD.wide l44 fun _ hb => hb.1) (brz _ _) e44).mono ?_); rintro e w44 ⟨b44, m44, rfl, z44, kb44⟩; have bl44 := hC1.bx.blk.next kb44)
    | ((with_reducible refine qiz rfl _ _ _ rfl B 44 rfl (.slice b44 n44 m44) rfl rfl _ _ bl44 kdz (by rw [hC1.bx.ob.size]; omega) rfl ?_); intro W44' bb44 oo44; have hC2 := hC1.st44 kb44 z44 oo44 bb44; have hA2 := hA1.st kb44 oo44 hC1.bx.ob.size (j := 44) (v := .slice b44 n44 m44) (by omega); have hR2 := (hR1.next kb44).other oo44 hne.symm; obtain ⟨a49, n49, k49, c49, l49⟩ := hC2.bx.ob.inn; (have e49 : n49 < 4294967296 := (by have := hs.c49; have := l49.1; omega)))
    | (with_reducible refine qaz (by kernel_rfl) _ _ rfl B 49 rfl _ _ hC2.bx.blk _ c49 ga4 ?_)
    | (go_at_call 133; (with_reducible refine (copyU (CtD.wide l49 fun _ hb => hb.1) (brz _ _) e49).mono ?_); rintro e w49 ⟨b49, m49, rfl, z49, kb49⟩; have bl49 := hC2.bx.blk.next kb49)
    | ((with_reducible refine qiz rfl _ _ _ rfl B 49 rfl (.slice b49 n49 m49) rfl rfl _ _ bl49 wDz (by rw [hC2.bx.ob.size]; omega) rfl ?_); intro W49' bb49 oo49; have hC3 := hC2.st49 kb49 z49 oo49 bb49; have hA3 := hA2.st kb49 oo49 hC2.bx.ob.size (j := 49) (v := .slice b49 n49 m49) (by omega); have hR3 := (hR2.next kb49).other oo49 hne.symm; obtain ⟨a50, n50, k50, c50, l50⟩ := hC3.bx.ob.out; (have e50 : n50 < 4294967296 := (by have := hs.c50; have := l50.1; omega)))
    | (with_reducible refine qaz (by kernel_rfl) _ _ rfl B 50 rfl _ _ hC3.bx.blk _ c50 ga4 ?_)
    | (go_at_call 133; (with_reducible refine (copyU (CtD.wide l50 fun _ hb => hb.1) (brz _ _) e50).mono ?_); rintro e w50 ⟨b50, m50, rfl, z50, kb50⟩; have bl50 := hC3.bx.blk.next kb50)
    | ((with_reducible refine qiz rfl _ _ _ rfl B 50 rfl (.slice b50 n50 m50) rfl rfl _ _ bl50 wDz (by rw [hC3.bx.ob.size]; omega) rfl ?_); intro W50' bb50 oo50; have hC4 := hC3.st50 kb50 z50 oo50 bb50; have hA4 := hA3.st kb50 oo50 hC3.bx.ob.size (j := 50) (v := .slice b50 n50 m50) (by omega); have hR4 := (hR3.next kb50).other oo50 hne.symm; skip)
    | ((with_reducible refine qlz rfl _ _ rfl B rfl _ hC4.bx.blk _ underlying55 rfl (qfz hC4.bx.ob.size) ?_))
    | ((with_reducible refine qbz rfl _ _ _ rfl R rfl _ rfl zC hR4 (qfz hC4.bx.ob.size) (qoz.trans hC4.bx.ob.size.symm) hC4.bx.ob.one ?_); intro W9 b9 o9))
   have hob := hC4.all (fun j hj => by
    simp at hj
    rcases hj with rfl | rfl | rfl | rfl | rfl | rfl | rfl | rfl | rfl | rfl | rfl | rfl | rfl | rfl <;> simp)
   have hlR : w.heap.size ≤ R := by have := hB'.out.1; have := hk.size; omega
   have bz := o9.below w.heap.size w hlR hC4.be
   refine bodyPost_ret (v := .agg _) (xLz results82 rfl b9 hob.size) rfl ?_
   refine ⟨_, rfl, ?_, bz, M, ?_, ?_⟩
   rotate_left
   ·exact (LbV.laterK hA4.1 fun b hb => o9.block b (by have := hB'.out; have := hb.1; omega)).wide fun b hb => ⟨⟨Nat.le_trans hC4.nw hb.1.1, by rw [o9.size]; exact ltz hb.1.2 hA4.2.2.2.1⟩, hb.1.2⟩
   ·obtain ⟨a, n, c, e1, e2⟩ := hA4.2.1
    exact ⟨⟨a, n, c, e1, xqz e2 fun b hb _ => o9.block b (by have := hB'.out; have := hA4.2.2.1; omega)⟩, Nat.le_trans hC4.nw hA4.2.2.1⟩
   exact (hob.laterK fun b hb => o9.block b (by have := hB'.out; have := hb.1; omega)).wide fun b hb => ⟨Nat.le_trans hC4.nw hb.1, by rw [o9.size]; exact hb.2⟩
theorem j9z (h : ObD (LtN w) w C x) (hs : Small x) :
  Calls prog 82 #[.agg C] w fun e w' => ∃ C', e = .returned (.agg C') ∧ ObD (New w w') w' C' x ∧ Below w.heap.size w w' :=
 (kjz h hs).mono fun _ _ ⟨C', e, ho, hk, _⟩ => ⟨C', e, ho, hk⟩
def pagO (x : Ob) : Int := if x.kind = 1 then pagN x else 1
theorem gWz (h : ObD (LtN w) w C x) (hs : Small x) : Calls prog 200 #[.agg C] w fun e w' => e = .returned (.int .i64 (pagO x)) ∧ Below w.heap.size w w' := by
 have hz := h.size
 have c0 := h.id
 have c1 := h.kind
 obtain ⟨a2, n2, k2, c2, l2⟩ := h.label
 have hn2 : Hid (x.label.length = n2) := l2.1
 have c3 := h.quota
 have c4 := h.fixed
 obtain ⟨a5, n5, k5, c5, l5⟩ := h.links
 have hn5 : Hid (x.links.length = n5) := l5.1
 obtain ⟨a6, n6, k6, c6, l6⟩ := h.data
 have hn6 : Hid (x.data.length = n6) := l6.1
 obtain ⟨a7, n7, k7, c7, l7⟩ := h.maps
 have hn7 : Hid (x.maps.length = n7) := l7.1
 obtain ⟨a49, n49, k49, c49, l49⟩ := h.inn
 have hn49 : Hid (x.inn.length = n49) := l49.1
 obtain ⟨a50, n50, k50, c50, l50⟩ := h.out
 have hn50 : Hid (x.out.length = n50) := l50.1
 obtain ⟨a25, n25, k25, c25, l25⟩ := h.th.clear
 obtain ⟨a43, n43, k43, c43, l43⟩ := h.gt.grant
 obtain ⟨a44, n44, k44, c44, l44⟩ := h.gt.clear
 replace c25 : C[25]? = some (.slice a25 n25 k25) := c25
 replace c43 : C[43]? = some (.slice a43 n43 k43) := c43
 replace c44 : C[44]? = some (.slice a44 n44 k44) := c44
 have ga0 := isAgg39
 have ga1 := isAgg22
 have ga2 := isAgg3
 have ga3 := isAgg4
 have ga4 := isAgg40
 have ga5 := isAgg41
 have hs6 := hs.c6
 rw [hn6.out] at hs6
 have hq : ((n6 : Int) + 16 - 1) / 16 = (((n6 + 15) / 16 : Nat) : Int) := by omega
 by_cases hk1 : x.kind = 1
 have hr : Hid (pagO x = 1 + ((n6 : Int) + 15) / 16) := by show _ = _; unfold pagO pagN; rw [if_pos hk1, hn6.out]
 replace c1 : C[1]? = some (.int .i64 1) := c1.trans (by rw [hk1])
 clear hk1
 rotate_left
 have hr : Hid (pagO x = 1) := by show _ = _; unfold pagO; rw [if_neg hk1]
 have g1 : (x.kind == 1) = false := by rw [beq_eq_false_iff_ne]; exact hk1
 clear hk1
 rotate_left
 all_goals go_enter func200, ntmps200
 all_goals go_wp2_with (first
  | go_skip
  | (with_reducible refine qcz rfl _ _ rfl C rfl ?_; intro B W hB hb hk)
  | (with_reducible refine qaz (by kernel_rfl) _ _ rfl B _ rfl _ _ hb _ (by assumption) (by assumption) ?_))
 ·go_ret
  refine ⟨?_, hk⟩
  rw [hr.out]
  refine congrArg (fun z => Ending.returned (.int .i64 z)) ?_
  omega
 ·go_ret
  exact ⟨by rw [hr.out]; rfl, hk⟩
theorem uMz (h : ObD (LtN w) w C x) (hs : Small x) : Calls prog 127 #[.agg C] w fun e w' => e = .returned (.int .i64 (pagN x)) ∧ Below w.heap.size w w' := by
 have hz := h.size
 have c0 := h.id
 have c1 := h.kind
 obtain ⟨a2, n2, k2, c2, l2⟩ := h.label
 have hn2 : Hid (x.label.length = n2) := l2.1
 have c3 := h.quota
 have c4 := h.fixed
 obtain ⟨a5, n5, k5, c5, l5⟩ := h.links
 have hn5 : Hid (x.links.length = n5) := l5.1
 obtain ⟨a6, n6, k6, c6, l6⟩ := h.data
 have hn6 : Hid (x.data.length = n6) := l6.1
 obtain ⟨a7, n7, k7, c7, l7⟩ := h.maps
 have hn7 : Hid (x.maps.length = n7) := l7.1
 obtain ⟨a49, n49, k49, c49, l49⟩ := h.inn
 have hn49 : Hid (x.inn.length = n49) := l49.1
 obtain ⟨a50, n50, k50, c50, l50⟩ := h.out
 have hn50 : Hid (x.out.length = n50) := l50.1
 obtain ⟨a25, n25, k25, c25, l25⟩ := h.th.clear
 obtain ⟨a43, n43, k43, c43, l43⟩ := h.gt.grant
 obtain ⟨a44, n44, k44, c44, l44⟩ := h.gt.clear
 replace c25 : C[25]? = some (.slice a25 n25 k25) := c25
 replace c43 : C[43]? = some (.slice a43 n43 k43) := c43
 replace c44 : C[44]? = some (.slice a44 n44 k44) := c44
 have ga0 := isAgg39
 have ga1 := isAgg22
 have ga2 := isAgg3
 have ga3 := isAgg4
 have ga4 := isAgg40
 have ga5 := isAgg41
 have hs6 := hs.c6
 rw [hn6.out] at hs6
 have hr : Hid (pagN x = 1 + ((n6 : Int) + 15) / 16) := by show _ = _; unfold pagN; rw [hn6.out]
 go_enter func127, ntmps127
 go_wp2_with (first
  | go_skip
  | (with_reducible refine qcz rfl _ _ rfl C rfl ?_; intro B W hB hb hk)
  | (with_reducible refine qaz (by kernel_rfl) _ _ rfl B _ rfl _ _ hb _ (by assumption) (by assumption) ?_))
 go_ret
 refine ⟨?_, hk⟩
 rw [hr.out]
 refine congrArg (fun z => Ending.returned (.int .i64 z)) ?_
 omega
def shoC (x : Ob) : Lb := if x.kind = 4 then wsz x.label else x.label
theorem gzz (h : ObD (LtN w) w C x) (hs : Small x) : Calls prog 265 #[.agg C] w fun e w' => ∃ ao n cap, e = .returned (.slice ao n cap) ∧ LabD (New w w') w' ao n cap (shoC x) ∧ Below w.heap.size w w' := by
 have hz := h.size
 have c0 := h.id
 have c1 := h.kind
 obtain ⟨a2, n2, k2, c2, l2⟩ := h.label
 have hn2 : Hid (x.label.length = n2) := l2.1
 have c3 := h.quota
 have c4 := h.fixed
 obtain ⟨a5, n5, k5, c5, l5⟩ := h.links
 have hn5 : Hid (x.links.length = n5) := l5.1
 obtain ⟨a6, n6, k6, c6, l6⟩ := h.data
 have hn6 : Hid (x.data.length = n6) := l6.1
 obtain ⟨a7, n7, k7, c7, l7⟩ := h.maps
 have hn7 : Hid (x.maps.length = n7) := l7.1
 obtain ⟨a49, n49, k49, c49, l49⟩ := h.inn
 have hn49 : Hid (x.inn.length = n49) := l49.1
 obtain ⟨a50, n50, k50, c50, l50⟩ := h.out
 have hn50 : Hid (x.out.length = n50) := l50.1
 obtain ⟨a25, n25, k25, c25, l25⟩ := h.th.clear
 obtain ⟨a43, n43, k43, c43, l43⟩ := h.gt.grant
 obtain ⟨a44, n44, k44, c44, l44⟩ := h.gt.clear
 replace c25 : C[25]? = some (.slice a25 n25 k25) := c25
 replace c43 : C[43]? = some (.slice a43 n43 k43) := c43
 replace c44 : C[44]? = some (.slice a44 n44 k44) := c44
 have ga0 := isAgg39
 have ga1 := isAgg22
 have ga2 := isAgg3
 have ga3 := isAgg4
 have ga4 := isAgg40
 have ga5 := isAgg41
 have hs2 := hs.c2
 rw [hn2.out] at hs2
 by_cases hk4 : x.kind = 4
 have hr : Hid (shoC x = wsz x.label) := by show _ = _; unfold shoC; rw [if_pos hk4]
 replace c1 : C[1]? = some (.int .i64 4) := c1.trans (by rw [hk4])
 clear hk4
 rotate_left
 have hr : Hid (shoC x = x.label) := by show _ = _; unfold shoC; rw [if_neg hk4]
 have g1 : (x.kind == 4) = false := by rw [beq_eq_false_iff_ne]; exact hk4
 clear hk4
 rotate_left
 all_goals go_enter func265, ntmps265
 all_goals go_wp2_with (first
  | go_skip
  | (with_reducible refine qcz rfl _ _ rfl C rfl ?_; intro B W hB hb hk)
  | (with_reducible refine qaz (by kernel_rfl) _ _ rfl B _ rfl _ _ hb _ (by assumption) (by assumption) ?_)
  | (go_at_call 132; (with_reducible refine (copyL l2 hk hs2).mono ?_); rintro e w1 ⟨ao1, cap1, rfl, hl1, hb1⟩)
  | (go_at_call 241; (with_reducible refine (jrz (l2.lab' hk) ?hn).mono ?_); (case hn => omega); rintro e w1 ⟨ao1, n1, cap1, rfl, hl1, hb1⟩))
 ·go_ret
  obtain ⟨a9, c9, e9, r9⟩ := RowC.of_owns hl1.2
  cases e9
  exact ⟨ao1, n1, cap1, rfl, by rw [hr.out]; exact (r9.lab).wide fun b hb => ⟨Nat.le_trans hk.size hb.1, hb.2⟩, btz hk hb1⟩
 ·go_ret
  exact ⟨ao1, n2, cap1, rfl, by rw [hr.out]; exact hl1.wide fun b hb => ⟨Nat.le_trans hk.size hb.1, hb.2⟩, btz hk hb1⟩
theorem hea4 (h : x.kind = 4) : heaO x = { comO x with label := [] } := by unfold heaO comO; rw [if_pos h]
theorem hea5 (h : ¬ x.kind = 4) : heaO x = comO x := by unfold heaO comO; rw [if_neg h]
end
end Go.Proofs.YtloghnpfplljgaaGreat
