/-
 PROVED HERE: what the document's Sound returns when it is called (contracts over this translation); rows of cells in genera. What is asked stands at each.
-/
import Derived.Deep.DeepCutAuto
import Derived.Laws.AppendOwn
import Derived.Laws.OwnMore
import Derived.Laws.AppendOwnNone
import Derived.Maps.AppendAt
import Derived.Test.YtklnneiblmakmaaGreatZ17
namespace Go.Proofs.YtklnneiblmakmaaGreat
set_option maxRecDepth 100000
set_option maxHeartbeats 8000000
set_option linter.unusedVariables false
open Go.Proofs.Tryz
section
open Go.RowKit Go.Shelf
attribute [local go_sem] Oper.semAt_some
theorem wGz {w0 w : World} {ao : Option Addr} {n cap : Nat} {L : Lb} (h : LabD (LtN w0) w0 ao n cap L) (hk : Below w0.heap.size w0 w) (hn : n < 274877906944) : Calls prog 30 #[.slice ao n cap] w fun e w' => ∃ ao1 cap1, e = .returned (.slice ao1 (wOz L).length cap1) ∧ Below w.heap.size w w' := by
 refine (yzz (h.lab' hk) hn).mono ?_
 rintro e w' ⟨ao1, n1, cap1, rfl, hc, hb⟩
 have e1 := hc.1
 subst e1
 exact ⟨ao1, cap1, rfl, hb⟩
theorem kiz {x : Ob} (hk : ¬ x.kind = 4) (hl : 0 < ((wOz x.label).length : Int)) (e : q3z x = true) : False := by
 rcases (qMz.1 (quz.1 e).1).2.2.2.2 with e1 | e1
 ·exact hk e1
 ·rw [e1] at hl; simp at hl
theorem xsz {L : Lb} (h : ((wOz L).length : Int) ≤ 0) : wOz L = [] := List.eq_nil_of_length_eq_zero (by omega)
theorem kJz {w : World} {C : Array Value} {x : Ob} (h : ObD (LtN w) w C x) : Asks 8 #[.agg C] (q3z x = true) w := by
 have hz := h.size
 have c0 := h.id
 have c1 := h.kind
 obtain ⟨a2, n2, k2, c2, l2⟩ := h.label
 have hn2 : Hid (x.label.length = n2) := l2.1
 have c3 := h.quota
 have c4 := h.fixed
 obtain ⟨a5, n5, k5, c5, l5⟩ := h.links
 have hn5 : Hid (x.links.length = n5) := l5.1
 obtain ⟨a6, n6, k6, c6, l6⟩ := h.data
 have hn6 : Hid (x.data.length = n6) := l6.1
 obtain ⟨a7, n7, k7, c7, l7⟩ := h.maps
 have hn7 : Hid (x.maps.length = n7) := l7.1
 obtain ⟨a49, n49, k49, c49, l49⟩ := h.inn
 have hn49 : Hid (x.inn.length = n49) := l49.1
 obtain ⟨a50, n50, k50, c50, l50⟩ := h.out
 have hn50 : Hid (x.out.length = n50) := l50.1
 obtain ⟨a25, n25, k25, c25, l25⟩ := h.th.clear
 obtain ⟨a43, n43, k43, c43, l43⟩ := h.gt.grant
 obtain ⟨a44, n44, k44, c44, l44⟩ := h.gt.clear
 replace c25 : C[25]? = some (.slice a25 n25 k25) := c25
 replace c43 : C[43]? = some (.slice a43 n43 k43) := c43
 replace c44 : C[44]? = some (.slice a44 n44 k44) := c44
 have ga0 := isAgg27
 have ga1 := isAgg22
 have ga2 := isAgg3
 have ga3 := isAgg4
 have ga4 := isAgg28
 have ga5 := isAgg29
 unfold Asks
 go_enter func8, ntmps8
 try simp only [List.append]
 go_upto_region 1 with (first
  | (with_reducible refine qdz rfl _ _ rfl C rfl ?_; intro B W hB hb hk))
 refine w3z ?_
 refine qrz [none, some (.int .u64 x.id)] 0 (a' := fr [.agg C, pt B 0, .bool false, pt B 0, .int .u64 x.id] 114) (obs := [.load 22 (B) (0) (.int .u64 x.id)]) (by kernel_rfl) ⟨qhz (fun _ e => by rw [e]; exact hb) c0 ga1, trivial⟩ ?_
 refine qVz (i := 2) (f := 27) (vs := [.int .u64 x.id]) (d := some 5) (by kernel_rfl) call27 (rid_any x.id _) ?_ ?_
 ·intro w0 q0 hb1; replace hb := hb.next hb1; replace hk := btz hk hb1; clear hb1
  refine qrz [none, none, none, some (.int .i64 x.kind)] 3 (a' := fr [.agg C, pt B 0, .bool false, pt B 0, .int .u64 x.id, .bool true, .bool false, .bool false, pt B 1, .int .i64 x.kind] 109) (obs := [.load 3 (B) (1) (.int .i64 x.kind)]) (by kernel_rfl) ⟨qhz (fun _ e => by rw [e]; exact hb) c1 ga2, trivial⟩ ?_
  by_cases q1 : x.kind < 1
  ·replace q1 : Hid (x.kind < 1) := q1
   refine qrz (some (.bool true) :: nl 27) 7 (a' := { tmps := #[.agg C, pt B 0, .bool false, pt B 0, .int .u64 x.id, .bool true, .bool false, .bool false, pt B 1, .int .i64 x.kind, .bool true, .bool true, .bool true, ud, ud, ud, .bool true, .bool true, ud, ud, ud, ud, .bool true, .bool true, ud, ud, ud, .bool true, .bool true, ud, ud, ud, .bool true, .bool true, ud, ud, ud, .bool true, ud, ud, ud, ud, ud, ud, ud, ud, ud, ud, ud, ud, ud, ud, ud, ud, ud, ud, ud, ud, ud, ud, ud, ud, ud, ud, ud, ud, ud, ud, ud, ud, ud, ud, ud, ud, ud, ud, ud, ud, ud, ud, ud, ud, ud, ud, ud, ud, ud, ud, ud, ud, ud, ud, ud, ud, ud, ud, ud, ud, ud, ud, ud, ud, ud, ud, ud, ud, ud, ud, ud, ud, ud, ud, ud, ud, ud, ud, ud, ud, ud], defers := [] }) (obs := [.test .lss 3 (.tmp 9) (.const (.int .i64 1)) (.int .i64 x.kind) (.int .i64 1) (.bool true)]) (by kernel_rfl) ⟨qFz (fun _ => qWz _ _ _ _ _ _) q1, trivial⟩ ?_
   refine qEz (by kernel_rfl) ?_
   go_wp2
   go_ret
   refine ⟨false, rfl, ⟨fun e => absurd e Bool.false_ne_true, fun e => ?_⟩, hk⟩; exfalso; exact (own7 (by have := q1.out; omega)).1 (quz.1 e).2.1
  ·replace q1 : Hid (¬ (x.kind < 1)) := q1
   refine qrz [some (.bool false), none, none, none, some (.int .i64 x.kind)] 7 (a' := fr [.agg C, pt B 0, .bool false, pt B 0, .int .u64 x.id, .bool true, .bool false, .bool false, pt B 1, .int .i64 x.kind, .bool false, .bool false, .bool false, pt B 1, .int .i64 x.kind] 104) (obs := [.test .lss 3 (.tmp 9) (.const (.int .i64 1)) (.int .i64 x.kind) (.int .i64 1) (.bool false), .load 3 (B) (1) (.int .i64 x.kind)]) (by kernel_rfl) ⟨qRz (fun _ => qWz _ _ _ _ _ _) q1, qhz (fun _ e => by rw [e]; exact hb) c1 ga2, trivial⟩ ?_
   by_cases q2 : 6 < x.kind
   ·replace q2 : Hid (6 < x.kind) := q2
    refine qrz (some (.bool true) :: nl 22) 12 (a' := { tmps := #[.agg C, pt B 0, .bool false, pt B 0, .int .u64 x.id, .bool true, .bool false, .bool false, pt B 1, .int .i64 x.kind, .bool false, .bool false, .bool false, pt B 1, .int .i64 x.kind, .bool true, .bool true, .bool true, ud, ud, ud, ud, .bool true, .bool true, ud, ud, ud, .bool true, .bool true, ud, ud, ud, .bool true, .bool true, ud, ud, ud, .bool true, ud, ud, ud, ud, ud, ud, ud, ud, ud, ud, ud, ud, ud, ud, ud, ud, ud, ud, ud, ud, ud, ud, ud, ud, ud, ud, ud, ud, ud, ud, ud, ud, ud, ud, ud, ud, ud, ud, ud, ud, ud, ud, ud, ud, ud, ud, ud, ud, ud, ud, ud, ud, ud, ud, ud, ud, ud, ud, ud, ud, ud, ud, ud, ud, ud, ud, ud, ud, ud, ud, ud, ud, ud, ud, ud, ud, ud, ud, ud, ud, ud], defers := [] }) (obs := [.test .gtr 3 (.tmp 14) (.const (.int .i64 6)) (.int .i64 x.kind) (.int .i64 6) (.bool true)]) (by kernel_rfl) ⟨qFz (fun _ => qAz _ _ _ _ _ _) q2, trivial⟩ ?_
    refine qEz (by kernel_rfl) ?_
    go_wp2
    go_ret
    refine ⟨false, rfl, ⟨fun e => absurd e Bool.false_ne_true, fun e => ?_⟩, hk⟩; exfalso; exact (own7 (by have := q2.out; omega)).1 (quz.1 e).2.1
   ·replace q2 : Hid (¬ (6 < x.kind)) := q2
    refine qrz [some (.bool false), none, none, none, some (.slice a2 n2 k2)] 12 (a' := fr [.agg C, pt B 0, .bool false, pt B 0, .int .u64 x.id, .bool true, .bool false, .bool false, pt B 1, .int .i64 x.kind, .bool false, .bool false, .bool false, pt B 1, .int .i64 x.kind, .bool false, .bool false, .bool false, pt B 2, .slice a2 n2 k2] 99) (obs := [.test .gtr 3 (.tmp 14) (.const (.int .i64 6)) (.int .i64 x.kind) (.int .i64 6) (.bool false), .load 27 (B) (2) (.slice a2 n2 k2)]) (by kernel_rfl) ⟨qRz (fun _ => qAz _ _ _ _ _ _) q2, qhz (fun _ e => by rw [e]; exact hb) c2 ga0, trivial⟩ ?_
    refine qVz (i := 17) (f := 28) (vs := [.slice a2 n2 k2]) (d := some 20) (by kernel_rfl) call28 (wWz l2 hk) ?_ ?_
    ·intro w3 q3 hb1; replace hb := hb.next hb1; replace hk := btz hk hb1; clear hb1
     refine qrz [none, none, none, none, some (.int .i64 x.quota)] 18 (a' := fr [.agg C, pt B 0, .bool false, pt B 0, .int .u64 x.id, .bool true, .bool false, .bool false, pt B 1, .int .i64 x.kind, .bool false, .bool false, .bool false, pt B 1, .int .i64 x.kind, .bool false, .bool false, .bool false, pt B 2, .slice a2 n2 k2, .bool true, .bool false, .bool false, .bool false, pt B 3, .int .i64 x.quota] 93) (obs := [.load 3 (B) (3) (.int .i64 x.quota)]) (by kernel_rfl) ⟨qhz (fun _ e => by rw [e]; exact hb) c3 ga2, trivial⟩ ?_
     by_cases q4 : x.quota < 1
     ·replace q4 : Hid (x.quota < 1) := q4
      refine qrz (some (.bool true) :: nl 11) 23 (a' := { tmps := #[.agg C, pt B 0, .bool false, pt B 0, .int .u64 x.id, .bool true, .bool false, .bool false, pt B 1, .int .i64 x.kind, .bool false, .bool false, .bool false, pt B 1, .int .i64 x.kind, .bool false, .bool false, .bool false, pt B 2, .slice a2 n2 k2, .bool true, .bool false, .bool false, .bool false, pt B 3, .int .i64 x.quota, .bool true, .bool true, .bool true, ud, ud, ud, .bool true, .bool true, ud, ud, ud, .bool true, ud, ud, ud, ud, ud, ud, ud, ud, ud, ud, ud, ud, ud, ud, ud, ud, ud, ud, ud, ud, ud, ud, ud, ud, ud, ud, ud, ud, ud, ud, ud, ud, ud, ud, ud, ud, ud, ud, ud, ud, ud, ud, ud, ud, ud, ud, ud, ud, ud, ud, ud, ud, ud, ud, ud, ud, ud, ud, ud, ud, ud, ud, ud, ud, ud, ud, ud, ud, ud, ud, ud, ud, ud, ud, ud, ud, ud, ud, ud, ud, ud], defers := [] }) (obs := [.test .lss 3 (.tmp 25) (.const (.int .i64 1)) (.int .i64 x.quota) (.int .i64 1) (.bool true)]) (by kernel_rfl) ⟨qFz (fun _ => qWz _ _ _ _ _ _) q4, trivial⟩ ?_
      refine qEz (by kernel_rfl) ?_
      go_wp2
      go_ret
      refine ⟨false, rfl, ⟨fun e => absurd e Bool.false_ne_true, fun e => ?_⟩, hk⟩; exfalso; have := qMz.1 (quz.1 e).1; have := q4.out; omega
     ·replace q4 : Hid (¬ (x.quota < 1)) := q4
      refine qrz [some (.bool false), none, none, none, some (.int .i64 x.quota)] 23 (a' := fr [.agg C, pt B 0, .bool false, pt B 0, .int .u64 x.id, .bool true, .bool false, .bool false, pt B 1, .int .i64 x.kind, .bool false, .bool false, .bool false, pt B 1, .int .i64 x.kind, .bool false, .bool false, .bool false, pt B 2, .slice a2 n2 k2, .bool true, .bool false, .bool false, .bool false, pt B 3, .int .i64 x.quota, .bool false, .bool false, .bool false, pt B 3, .int .i64 x.quota] 88) (obs := [.test .lss 3 (.tmp 25) (.const (.int .i64 1)) (.int .i64 x.quota) (.int .i64 1) (.bool false), .load 3 (B) (3) (.int .i64 x.quota)]) (by kernel_rfl) ⟨qRz (fun _ => qWz _ _ _ _ _ _) q4, qhz (fun _ e => by rw [e]; exact hb) c3 ga2, trivial⟩ ?_
      by_cases q5 : 4096 < x.quota
      ·replace q5 : Hid (4096 < x.quota) := q5
       refine qrz [some (.bool true), none, none, none, none, none, none] 28 (a' := { tmps := #[.agg C, pt B 0, .bool false, pt B 0, .int .u64 x.id, .bool true, .bool false, .bool false, pt B 1, .int .i64 x.kind, .bool false, .bool false, .bool false, pt B 1, .int .i64 x.kind, .bool false, .bool false, .bool false, pt B 2, .slice a2 n2 k2, .bool true, .bool false, .bool false, .bool false, pt B 3, .int .i64 x.quota, .bool false, .bool false, .bool false, pt B 3, .int .i64 x.quota, .bool true, .bool true, .bool true, ud, ud, ud, .bool true, ud, ud, ud, ud, ud, ud, ud, ud, ud, ud, ud, ud, ud, ud, ud, ud, ud, ud, ud, ud, ud, ud, ud, ud, ud, ud, ud, ud, ud, ud, ud, ud, ud, ud, ud, ud, ud, ud, ud, ud, ud, ud, ud, ud, ud, ud, ud, ud, ud, ud, ud, ud, ud, ud, ud, ud, ud, ud, ud, ud, ud, ud, ud, ud, ud, ud, ud, ud, ud, ud, ud, ud, ud, ud, ud, ud, ud, ud, ud, ud, ud], defers := [] }) (obs := [.test .gtr 3 (.tmp 30) (.const (.int .i64 4096)) (.int .i64 x.quota) (.int .i64 4096) (.bool true)]) (by kernel_rfl) ⟨qFz (fun _ => qAz _ _ _ _ _ _) q5, trivial⟩ ?_
       refine qEz (by kernel_rfl) ?_
       go_wp2
       go_ret
       refine ⟨false, rfl, ⟨fun e => absurd e Bool.false_ne_true, fun e => ?_⟩, hk⟩; exfalso; have := qMz.1 (quz.1 e).1; have := q5.out; omega
      ·replace q5 : Hid (¬ (4096 < x.quota)) := q5
       refine qrz [some (.bool false), none, none, some (.agg C)] 28 (a' := fr [.agg C, pt B 0, .bool false, pt B 0, .int .u64 x.id, .bool true, .bool false, .bool false, pt B 1, .int .i64 x.kind, .bool false, .bool false, .bool false, pt B 1, .int .i64 x.kind, .bool false, .bool false, .bool false, pt B 2, .slice a2 n2 k2, .bool true, .bool false, .bool false, .bool false, pt B 3, .int .i64 x.quota, .bool false, .bool false, .bool false, pt B 3, .int .i64 x.quota, .bool false, .bool false, .bool false, .agg C] 84) (obs := [.test .gtr 3 (.tmp 30) (.const (.int .i64 4096)) (.int .i64 x.quota) (.int .i64 4096) (.bool false), .load 43 (B) (0) (.agg C)]) (by kernel_rfl) ⟨qRz (fun _ => qAz _ _ _ _ _ _) q5, qwz (fun _ e => by rw [e]; exact hb) underlying43 (by kernel_rfl) (qfz hz), trivial⟩ ?_
       refine qVz (i := 32) (f := 29) (vs := [.agg C]) (d := some 35) (by kernel_rfl) call29 (yIz (h.next hk)) ?_ ?_
       ·intro w6 q6 hb1; replace hb := hb.next hb1; replace hk := btz hk hb1; clear hb1
        refine qrz [none, none] 33 (a' := { tmps := #[.agg C, pt B 0, .bool false, pt B 0, .int .u64 x.id, .bool true, .bool false, .bool false, pt B 1, .int .i64 x.kind, .bool false, .bool false, .bool false, pt B 1, .int .i64 x.kind, .bool false, .bool false, .bool false, pt B 2, .slice a2 n2 k2, .bool true, .bool false, .bool false, .bool false, pt B 3, .int .i64 x.quota, .bool false, .bool false, .bool false, pt B 3, .int .i64 x.quota, .bool false, .bool false, .bool false, .agg C, .bool true, .bool false, .bool false, ud, ud, ud, ud, ud, ud, ud, ud, ud, ud, ud, ud, ud, ud, ud, ud, ud, ud, ud, ud, ud, ud, ud, ud, ud, ud, ud, ud, ud, ud, ud, ud, ud, ud, ud, ud, ud, ud, ud, ud, ud, ud, ud, ud, ud, ud, ud, ud, ud, ud, ud, ud, ud, ud, ud, ud, ud, ud, ud, ud, ud, ud, ud, ud, ud, ud, ud, ud, ud, ud, ud, ud, ud, ud, ud, ud, ud, ud, ud, ud, ud], defers := [] }) (obs := []) (by kernel_rfl) trivial ?_
        refine qEz (by kernel_rfl) ?_
        have hqa : 1 ≤ x.quota := by have := q4.out; omega
        have hqb : x.quota ≤ 4096 := by have := q5.out; omega
        have hka : 1 ≤ x.kind := by have := q1.out; omega
        have hkb : x.kind ≤ 6 := by have := q2.out; omega
        have hkl : n2 < 274877906944 := by have := (qxz.1 q3.out).1; rw [hn2.out] at this; omega
        have hw1 : IntKind.i64.wrap (x.quota - 1) = x.quota - 1 := by rw [IntKind.wrap_i64]; omega
        have hw2 : IntKind.i64.wrap (16 * (x.quota - 1)) = 16 * (x.quota - 1) := by rw [IntKind.wrap_i64]; omega
        by_cases hk1 : x.kind = 1
        ·have hkd0 := hk1
         replace c1 : C[1]? = some (.int .i64 1) := c1.trans (by rw [hkd0])
         have hkd : x.kind = 1 := hkd0
         have hkH : Hid (x.kind = 1) := hkd
         clear hkd hkd0 hka hkb hk1
         go_wp2_with (first
          | go_skip
          | (with_reducible refine qbz (by kernel_rfl) _ _ rfl B _ rfl _ _ hb _ (by assumption) (by assumption) ?_)
          | ((with_reducible refine qgz (by kernel_rfl) .leq _ _ _ _ rfl _ _ rfl rfl (q1z _ _ _ _ _ _) ?_ ?_) <;> intro hq)
          | (go_at_call 30; (with_reducible refine (wGz l2 hk hkl).mono ?_); rintro e w1 ⟨ao1, cap1, rfl, hb1⟩; replace hb := hb.next hb1; replace hk := btz hk hb1; clear hb1)
          | ((with_reducible refine qgz (by kernel_rfl) .gtr _ _ _ _ rfl _ _ rfl rfl (qAz _ _ _ _ _ _) ?_ ?_) <;> intro hq))
         all_goals go_ret
         all_goals first
          | (refine qsz (quz.2 ⟨qMz.2 ⟨q0.out, hqa, hqb, q3.out, .inr (xsz (Hid.out (by assumption)))⟩, (own1 hkH.out).2 ?_, (q8z x).2 q6.out⟩) hk; rw [hn6.out]; exact Hid.out (by assumption))
          | (have hl : 16 * (x.quota - 1) < (n6 : Int) := Hid.out (by assumption); refine ⟨false, rfl, ⟨fun e => absurd e Bool.false_ne_true, fun e => ?_⟩, hk⟩; exfalso; replace e := ((own1 hkH.out).1 (quz.1 e).2.1); rw [hn6.out] at e; omega)
          | (have hl : 0 < ((wOz x.label).length : Int) := Hid.out (by assumption); refine ⟨false, rfl, ⟨fun e => absurd e Bool.false_ne_true, fun e => ?_⟩, hk⟩; exact (kiz (by have := hkH.out; omega) hl e).elim)
          | fail
        by_cases hk2 : x.kind = 2
        ·have hkd0 := hk2
         replace c1 : C[1]? = some (.int .i64 2) := c1.trans (by rw [hkd0])
         have hkd : x.kind = 2 := hkd0
         have hkH : Hid (x.kind = 2) := hkd
         clear hkd hkd0 hka hkb hk1 hk2
         go_wp2_with (first
          | go_skip
          | (with_reducible refine qbz (by kernel_rfl) _ _ rfl B _ rfl _ _ hb _ (by assumption) (by assumption) ?_)
          | ((with_reducible refine qgz (by kernel_rfl) .leq _ _ _ _ rfl _ _ rfl rfl (q1z _ _ _ _ _ _) ?_ ?_) <;> intro hq)
          | (go_at_call 31; (with_reducible refine (vuz l5 hk).on ?_ ?_) <;> (intro w1 hq hb1; replace hb := hb.next hb1; replace hk := btz hk hb1; clear hb1))
          | (go_at_call 30; (with_reducible refine (wGz l2 hk hkl).mono ?_); rintro e w1 ⟨ao1, cap1, rfl, hb1⟩; replace hb := hb.next hb1; replace hk := btz hk hb1; clear hb1)
          | ((with_reducible refine qgz (by kernel_rfl) .gtr _ _ _ _ rfl _ _ rfl rfl (qAz _ _ _ _ _ _) ?_ ?_) <;> intro hq))
         all_goals go_ret
         all_goals first
          | (refine qsz (quz.2 ⟨qMz.2 ⟨q0.out, hqa, hqb, q3.out, .inr (xsz (Hid.out (by assumption)))⟩, (own2 hkH.out).2 ⟨?_, (Hid.out (by assumption) : allI x.links = true ∧ risB x.links = true).1, (Hid.out (by assumption) : allI x.links = true ∧ risB x.links = true).2⟩, (q8z x).2 q6.out⟩) hk; (have hl : (n5 : Int) ≤ 64 := Hid.out (by assumption)); rw [hn5.out]; omega)
          | (refine qkz (Y := allI x.links = true ∧ risB x.links = true) (by assumption) hk (fun e => ((own2 hkH.out).1 (quz.1 e).2.1).2))
          | (have hl : 64 < (n5 : Int) := Hid.out (by assumption); refine ⟨false, rfl, ⟨fun e => absurd e Bool.false_ne_true, fun e => ?_⟩, hk⟩; exfalso; replace e := ((own2 hkH.out).1 (quz.1 e).2.1); have := e.1; rw [hn5.out] at this; omega)
          | (have hl : 0 < ((wOz x.label).length : Int) := Hid.out (by assumption); refine ⟨false, rfl, ⟨fun e => absurd e Bool.false_ne_true, fun e => ?_⟩, hk⟩; exact (kiz (by have := hkH.out; omega) hl e).elim)
          | fail
        by_cases hk3 : x.kind = 3
        ·have hkd0 := hk3
         replace c1 : C[1]? = some (.int .i64 3) := c1.trans (by rw [hkd0])
         have hkd : x.kind = 3 := hkd0
         have hkH : Hid (x.kind = 3) := hkd
         clear hkd hkd0 hka hkb hk1 hk2 hk3
         go_wp2_with (first
          | go_skip
          | (with_reducible refine qbz (by kernel_rfl) _ _ rfl B _ rfl _ _ hb _ (by assumption) (by assumption) ?_)
          | (go_at_call 32; (with_reducible refine (Asks.of (PgM.rfit_any (MpD.mp' l7 hk))).on ?_ ?_) <;> (intro w1 hq hb1; replace hb := hb.next hb1; replace hk := btz hk hb1; clear hb1))
          | (go_at_call 30; (with_reducible refine (wGz l2 hk hkl).mono ?_); rintro e w1 ⟨ao1, cap1, rfl, hb1⟩; replace hb := hb.next hb1; replace hk := btz hk hb1; clear hb1)
          | ((with_reducible refine qgz (by kernel_rfl) .gtr _ _ _ _ rfl _ _ rfl rfl (qAz _ _ _ _ _ _) ?_ ?_) <;> intro hq))
         all_goals go_ret
         all_goals first
          | (refine qsz (quz.2 ⟨qMz.2 ⟨q0.out, hqa, hqb, q3.out, .inr (xsz (Hid.out (by assumption)))⟩, (own3 hkH.out).2 (Hid.out (by assumption)), (q8z x).2 q6.out⟩) hk)
          | (refine qkz (Y := PgM.Pg.fitB x.maps = true) (by assumption) hk (fun e => (own3 hkH.out).1 (quz.1 e).2.1))
          | (have hl : 0 < ((wOz x.label).length : Int) := Hid.out (by assumption); refine ⟨false, rfl, ⟨fun e => absurd e Bool.false_ne_true, fun e => ?_⟩, hk⟩; exact (kiz (by have := hkH.out; omega) hl e).elim)
          | fail
        by_cases hk4 : x.kind = 4
        ·have hkd0 := hk4
         replace c1 : C[1]? = some (.int .i64 4) := c1.trans (by rw [hkd0])
         have hkd : x.kind = 4 := hkd0
         have hkH : Hid (x.kind = 4) := hkd
         clear hkd hkd0 hka hkb hk1 hk2 hk3 hk4
         cases hfx : x.fixed with
         | false =>
          rw [hfx] at c4
          go_wp2_with (first
           | go_skip
           | (with_reducible refine qbz (by kernel_rfl) _ _ rfl B _ rfl _ _ hb _ (by assumption) (by assumption) ?_)
           | (with_reducible refine qoz (by kernel_rfl) 39 _ rfl B _ rfl 35 _ _ hb _ rfl (by rw [hz]; omega) _ underlying39 (by kernel_rfl) wVz ?_)
           | (go_at_call 33; (with_reducible refine (kez (u5z l2 hk) (h.thd.next hk)).on ?_ ?_) <;> (intro w1 hq hb1; replace hb := hb.next hb1; replace hk := btz hk hb1; clear hb1)))
          all_goals go_ret
          all_goals first
           | (refine qsz (quz.2 ⟨qMz.2 ⟨q0.out, hqa, hqb, q3.out, .inl hkH.out⟩, (own4 hkH.out).2 ⟨hfx, q0z.2 ⟨q3.out, (Hid.out (by assumption) : (qSz x.th.clear = true ∧ wNz x.label x.th.clear = true ∧ thrB x.th = true)).1, by rw [← xlz (wmz (qxz.1 q3.out).2.1) (wmz (qxz.1 (Hid.out (by assumption) : (qSz x.th.clear = true ∧ wNz x.label x.th.clear = true ∧ thrB x.th = true)).1).2.1)]; exact (Hid.out (by assumption) : (qSz x.th.clear = true ∧ wNz x.label x.th.clear = true ∧ thrB x.th = true)).2.1⟩, (Hid.out (by assumption) : (qSz x.th.clear = true ∧ wNz x.label x.th.clear = true ∧ thrB x.th = true)).2.2⟩, (q8z x).2 q6.out⟩) hk)
           | (refine qkz (Y := (qSz x.th.clear = true ∧ wNz x.label x.th.clear = true ∧ thrB x.th = true)) (by assumption) hk (fun e => ?_); have e4 := (own4 hkH.out).1 (quz.1 e).2.1; have e5 := q0z.1 e4.2.1; exact ⟨e5.2.1, (by rw [xlz (wmz (qxz.1 e5.1).2.1) (wmz (qxz.1 e5.2.1).2.1)]; exact e5.2.2), e4.2.2⟩)
           | (refine ⟨false, rfl, ⟨fun e => absurd e Bool.false_ne_true, fun e => ?_⟩, hk⟩; exfalso; replace e := ((own4 hkH.out).1 (quz.1 e).2.1); rw [hfx] at e; cases e.1)
           | fail
         | true =>
          rw [hfx] at c4
          go_wp2_with (first
           | go_skip
           | (with_reducible refine qbz (by kernel_rfl) _ _ rfl B _ rfl _ _ hb _ (by assumption) (by assumption) ?_)
           | (with_reducible refine qoz (by kernel_rfl) 39 _ rfl B _ rfl 35 _ _ hb _ rfl (by rw [hz]; omega) _ underlying39 (by kernel_rfl) wVz ?_)
           | (go_at_call 33; (with_reducible refine (kez (u5z l2 hk) (h.thd.next hk)).on ?_ ?_) <;> (intro w1 hq hb1; replace hb := hb.next hb1; replace hk := btz hk hb1; clear hb1)))
          all_goals go_ret
          all_goals first
           | (refine qsz (quz.2 ⟨qMz.2 ⟨q0.out, hqa, hqb, q3.out, .inl hkH.out⟩, (own4 hkH.out).2 ⟨hfx, q0z.2 ⟨q3.out, (Hid.out (by assumption) : (qSz x.th.clear = true ∧ wNz x.label x.th.clear = true ∧ thrB x.th = true)).1, by rw [← xlz (wmz (qxz.1 q3.out).2.1) (wmz (qxz.1 (Hid.out (by assumption) : (qSz x.th.clear = true ∧ wNz x.label x.th.clear = true ∧ thrB x.th = true)).1).2.1)]; exact (Hid.out (by assumption) : (qSz x.th.clear = true ∧ wNz x.label x.th.clear = true ∧ thrB x.th = true)).2.1⟩, (Hid.out (by assumption) : (qSz x.th.clear = true ∧ wNz x.label x.th.clear = true ∧ thrB x.th = true)).2.2⟩, (q8z x).2 q6.out⟩) hk)
           | (refine qkz (Y := (qSz x.th.clear = true ∧ wNz x.label x.th.clear = true ∧ thrB x.th = true)) (by assumption) hk (fun e => ?_); have e4 := (own4 hkH.out).1 (quz.1 e).2.1; have e5 := q0z.1 e4.2.1; exact ⟨e5.2.1, (by rw [xlz (wmz (qxz.1 e5.1).2.1) (wmz (qxz.1 e5.2.1).2.1)]; exact e5.2.2), e4.2.2⟩)
           | (refine ⟨false, rfl, ⟨fun e => absurd e Bool.false_ne_true, fun e => ?_⟩, hk⟩; exfalso; replace e := ((own4 hkH.out).1 (quz.1 e).2.1); rw [hfx] at e; cases e.1)
           | fail
        by_cases hk5 : x.kind = 5
        ·have hkd0 := hk5
         replace c1 : C[1]? = some (.int .i64 5) := c1.trans (by rw [hkd0])
         have hkd : x.kind = 5 := hkd0
         have hkH : Hid (x.kind = 5) := hkd
         clear hkd hkd0 hka hkb hk1 hk2 hk3 hk4 hk5
         go_wp2_with (first
          | go_skip
          | (with_reducible refine qbz (by kernel_rfl) _ _ rfl B _ rfl _ _ hb _ (by assumption) (by assumption) ?_)
          | (go_at_call 28; (with_reducible refine (wWz l43 hk).on ?_ ?_) <;> (intro w1 hq hb1; replace hb := hb.next hb1; replace hk := btz hk hb1; clear hb1))
          | (go_at_call 28; (with_reducible refine (wWz l44 hk).on ?_ ?_) <;> (intro w1 hq hb1; replace hb := hb.next hb1; replace hk := btz hk hb1; clear hb1))
          | (go_at_call 34; (with_reducible refine (Asks.of (kgz (l43.lab' hk) (l44.lab' hk))).on ?_ ?_) <;> (intro w1 hq hb1; replace hb := hb.next hb1; replace hk := btz hk hb1; clear hb1))
          | (go_at_call 30; (with_reducible refine (wGz l2 hk hkl).mono ?_); rintro e w1 ⟨ao1, cap1, rfl, hb1⟩; replace hb := hb.next hb1; replace hk := btz hk hb1; clear hb1)
          | ((with_reducible refine qgz (by kernel_rfl) .gtr _ _ _ _ rfl _ _ rfl rfl (qAz _ _ _ _ _ _) ?_ ?_) <;> intro hq))
         all_goals go_ret
         all_goals first
          | (refine qsz (quz.2 ⟨qMz.2 ⟨q0.out, hqa, hqb, q3.out, .inr (xsz (Hid.out (by assumption)))⟩, (own5 hkH.out).2 (q0z.2 ⟨Hid.out (by assumption), Hid.out (by assumption), by rw [← xlz (wmz (qxz.1 (Hid.out (by assumption) : qSz x.gt.grant = true)).2.1) (wmz (qxz.1 (Hid.out (by assumption) : qSz x.gt.clear = true)).2.1)]; exact Hid.out (by assumption)⟩), (q8z x).2 q6.out⟩) hk)
          | (refine qkz (Y := wNz x.gt.grant x.gt.clear = true) (by assumption) hk (fun e => ?_); have e5 := q0z.1 ((own5 hkH.out).1 (quz.1 e).2.1); rw [xlz (wmz (qxz.1 e5.1).2.1) (wmz (qxz.1 e5.2.1).2.1)]; exact e5.2.2)
          | (refine qkz (Y := qSz x.gt.clear = true) (by assumption) hk (fun e => (q0z.1 ((own5 hkH.out).1 (quz.1 e).2.1)).2.1))
          | (refine qkz (Y := qSz x.gt.grant = true) (by assumption) hk (fun e => (q0z.1 ((own5 hkH.out).1 (quz.1 e).2.1)).1))
          | (have hl : 0 < ((wOz x.label).length : Int) := Hid.out (by assumption); refine ⟨false, rfl, ⟨fun e => absurd e Bool.false_ne_true, fun e => ?_⟩, hk⟩; exact (kiz (by have := hkH.out; omega) hl e).elim)
          | fail
        ·have hkd0 : x.kind = 6 := by omega
         replace c1 : C[1]? = some (.int .i64 6) := c1.trans (by rw [hkd0])
         have hkd : x.kind = 6 := hkd0
         have hkH : Hid (x.kind = 6) := hkd
         clear hkd hkd0 hka hkb hk1 hk2 hk3 hk4 hk5
         go_wp2_with (first
          | go_skip
          | (with_reducible refine qbz (by kernel_rfl) _ _ rfl B _ rfl _ _ hb _ (by assumption) (by assumption) ?_)
          | ((with_reducible refine qgz (by kernel_rfl) .leq _ _ _ _ rfl _ _ rfl rfl (q1z _ _ _ _ _ _) ?_ ?_) <;> intro hq)
          | (go_at_call 30; (with_reducible refine (wGz l2 hk hkl).mono ?_); rintro e w1 ⟨ao1, cap1, rfl, hb1⟩; replace hb := hb.next hb1; replace hk := btz hk hb1; clear hb1)
          | ((with_reducible refine qgz (by kernel_rfl) .gtr _ _ _ _ rfl _ _ rfl rfl (qAz _ _ _ _ _ _) ?_ ?_) <;> intro hq))
         all_goals go_ret
         all_goals first
          | (have h1 : (n49 : Int) ≤ 64 := Hid.out (by assumption); have h2 : (n50 : Int) ≤ 1024 := Hid.out (by assumption); exact qsz (quz.2 ⟨qMz.2 ⟨q0.out, hqa, hqb, q3.out, .inr (xsz (Hid.out (by assumption)))⟩, (own6 hkH.out).2 ⟨by rw [hn49.out]; omega, by rw [hn50.out]; omega⟩, (q8z x).2 q6.out⟩) hk)
          | (have hl : 1024 < (n50 : Int) := Hid.out (by assumption); refine ⟨false, rfl, ⟨fun e => absurd e Bool.false_ne_true, fun e => ?_⟩, hk⟩; exfalso; replace e := ((own6 hkH.out).1 (quz.1 e).2.1); have := e.2; rw [hn50.out] at this; omega)
          | (have hl : 64 < (n49 : Int) := Hid.out (by assumption); refine ⟨false, rfl, ⟨fun e => absurd e Bool.false_ne_true, fun e => ?_⟩, hk⟩; exfalso; replace e := ((own6 hkH.out).1 (quz.1 e).2.1); have := e.1; rw [hn49.out] at this; omega)
          | (have hl : 0 < ((wOz x.label).length : Int) := Hid.out (by assumption); refine ⟨false, rfl, ⟨fun e => absurd e Bool.false_ne_true, fun e => ?_⟩, hk⟩; exact (kiz (by have := hkH.out; omega) hl e).elim)
          | fail
       ·intro w6 q6 hb1; replace hb := hb.next hb1; replace hk := btz hk hb1; clear hb1
        refine qrz [none, none] 33 (a' := { tmps := #[.agg C, pt B 0, .bool false, pt B 0, .int .u64 x.id, .bool true, .bool false, .bool false, pt B 1, .int .i64 x.kind, .bool false, .bool false, .bool false, pt B 1, .int .i64 x.kind, .bool false, .bool false, .bool false, pt B 2, .slice a2 n2 k2, .bool true, .bool false, .bool false, .bool false, pt B 3, .int .i64 x.quota, .bool false, .bool false, .bool false, pt B 3, .int .i64 x.quota, .bool false, .bool false, .bool false, .agg C, .bool false, .bool true, .bool true, ud, ud, ud, ud, ud, ud, ud, ud, ud, ud, ud, ud, ud, ud, ud, ud, ud, ud, ud, ud, ud, ud, ud, ud, ud, ud, ud, ud, ud, ud, ud, ud, ud, ud, ud, ud, ud, ud, ud, ud, ud, ud, ud, ud, ud, ud, ud, ud, ud, ud, ud, ud, ud, ud, ud, ud, ud, ud, ud, ud, ud, ud, ud, ud, ud, ud, ud, ud, ud, ud, ud, ud, ud, ud, ud, ud, ud, ud, ud, ud, ud], defers := [] }) (obs := []) (by kernel_rfl) trivial ?_
        refine qEz (by kernel_rfl) ?_
        go_wp2
        go_ret
        exact qkz q6 hk (fun e => (q8z x).1 (quz.1 e).2.2)
    ·intro w3 q3 hb1; replace hb := hb.next hb1; replace hk := btz hk hb1; clear hb1
     refine qrz (nl 17) 18 (a' := { tmps := #[.agg C, pt B 0, .bool false, pt B 0, .int .u64 x.id, .bool true, .bool false, .bool false, pt B 1, .int .i64 x.kind, .bool false, .bool false, .bool false, pt B 1, .int .i64 x.kind, .bool false, .bool false, .bool false, pt B 2, .slice a2 n2 k2, .bool false, .bool true, .bool true, .bool true, ud, ud, ud, .bool true, .bool true, ud, ud, ud, .bool true, .bool true, ud, ud, ud, .bool true, ud, ud, ud, ud, ud, ud, ud, ud, ud, ud, ud, ud, ud, ud, ud, ud, ud, ud, ud, ud, ud, ud, ud, ud, ud, ud, ud, ud, ud, ud, ud, ud, ud, ud, ud, ud, ud, ud, ud, ud, ud, ud, ud, ud, ud, ud, ud, ud, ud, ud, ud, ud, ud, ud, ud, ud, ud, ud, ud, ud, ud, ud, ud, ud, ud, ud, ud, ud, ud, ud, ud, ud, ud, ud, ud, ud, ud, ud, ud, ud, ud], defers := [] }) (obs := []) (by kernel_rfl) trivial ?_
     refine qEz (by kernel_rfl) ?_
     go_wp2
     go_ret
     exact qkz q3 hk (fun e => (qMz.1 (quz.1 e).1).2.2.2.1)
 ·intro w0 q0 hb1; replace hb := hb.next hb1; replace hk := btz hk hb1; clear hb1
  refine qrz (nl 32) 3 (a' := { tmps := #[.agg C, pt B 0, .bool false, pt B 0, .int .u64 x.id, .bool false, .bool true, .bool true, ud, ud, ud, .bool true, .bool true, ud, ud, ud, .bool true, .bool true, ud, ud, ud, ud, .bool true, .bool true, ud, ud, ud, .bool true, .bool true, ud, ud, ud, .bool true, .bool true, ud, ud, ud, .bool true, ud, ud, ud, ud, ud, ud, ud, ud, ud, ud, ud, ud, ud, ud, ud, ud, ud, ud, ud, ud, ud, ud, ud, ud, ud, ud, ud, ud, ud, ud, ud, ud, ud, ud, ud, ud, ud, ud, ud, ud, ud, ud, ud, ud, ud, ud, ud, ud, ud, ud, ud, ud, ud, ud, ud, ud, ud, ud, ud, ud, ud, ud, ud, ud, ud, ud, ud, ud, ud, ud, ud, ud, ud, ud, ud, ud, ud, ud, ud, ud, ud], defers := [] }) (obs := []) (by kernel_rfl) trivial ?_
  refine qEz (by kernel_rfl) ?_
  go_wp2
  go_ret
  exact qkz q0 hk (fun e => (qMz.1 (quz.1 e).1).1)
end
section
open Go.RowKit Go.Shelf
attribute [local go_sem] Oper.semAt_some
def RowC (k : Nat) (D : Nat → Prop) (w : World) (ao : Option Addr) (n cap : Nat) (cs : List Value) : Prop :=
 cs.length = n * k ∧ n ≤ cap ∧ (cap ≤ 9223372036854775807 ∧ (ao = none → cap = 0)) ∧ (0 < n → ∃ b off, ao = some ⟨b, off, none⟩ ∧ D b ∧ w.rangeAt b off cs)
theorem RowC.cells {k : Nat} {D : Nat → Prop} {w : World} {ad : Addr} {n cap : Nat} {cs : List Value} (h : RowC k D w (some ad) n cap cs) : ∀ j u, cs[j]? = some u → w.cell? (ad.add j) = some u := by
 intro j u hj
 have hl := (List.getElem?_eq_some_iff.1 hj).1
 have hn : 0 < n := by
  rcases Nat.eq_zero_or_pos n with h0 | h0
  ·have := h.1; rw [h0] at this; omega
  ·exact h0
 obtain ⟨b, off, e, _, hr⟩ := h.2.2.2 hn
 cases e
 rw [Addr.add_mid]
 exact hr j u hj
theorem RowC.of_owns {k base : Nat} {w : World} {e : TypeId} {v : Value} {n : Nat} {cs : List Value} (h : w.ownsRow base e k v n cs) : ∃ ao cap, v = .slice ao n cap ∧ RowC k (fun b => base ≤ b ∧ b < w.heap.size) w ao n cap cs := by
 have hl := h
 rcases h.2 with ⟨rfl, h0⟩ | ⟨g, c, cur, rfl, hb, hg, hkc, hcm, hcs, htk⟩
 ·subst h0
  exact ⟨none, 0, rfl, h.1, Nat.le_refl _, ⟨by omega, fun _ => rfl⟩, fun hn => absurd hn (by omega)⟩
 ·refine ⟨some ⟨g, 0, none⟩, c, rfl, h.1, hkc, ⟨by unfold maxLen at hcm; omega, fun e => by cases e⟩, fun hn => ⟨g, 0, rfl, ⟨hb, (Array.getElem?_eq_some_iff.1 hg).1⟩, fun j u hj => ?_⟩⟩
  have := hl.cells (g := g) rfl j u hj
  rw [Addr.add_mid] at this
  exact this
section
variable {D : Nat → Prop} {w : World} {ao : Option Addr} {n cap : Nat}
theorem xIz (L : Lb) : (cellsOf L).length = L.length * 2 := by
 induction L with
 | nil => rfl
 | cons p r ih => simp [cellsOf, ih]; omega
theorem vbz {L : Lb} : ∀ {i : Nat}, i < L.length → (cellsOf L)[i * 2]? = some (.int .u64 (L.getD i (0, 0)).1) ∧ (cellsOf L)[i * 2 + 1]? = some (.int .i64 (L.getD i (0, 0)).2) := by
 induction L with
 | nil => intro i hi; simp at hi
 | cons p r ih =>
  intro i hi
  cases i with
  | zero => exact ⟨rfl, rfl⟩
  | succ i =>
   have := ih (i := i) (by simpa using hi)
   rw [show (i + 1) * 2 = i * 2 + 1 + 1 by omega]
   exact ⟨this.1, this.2⟩
theorem LabD.row {L : Lb} (h : LabD D w ao n cap L) : RowC 2 D w ao n cap (cellsOf L) := by
 refine ⟨by rw [xIz, h.1], h.2.1, h.2.2.1, fun hn => ?_⟩
 obtain ⟨b, off, e, hb, hc⟩ := h.2.2.2 hn
 refine ⟨b, off, e, hb, fun j u hj => ?_⟩
 have hl : j < L.length * 2 := by rw [← xIz]; exact (List.getElem?_eq_some_iff.1 hj).1
 have hi : j / 2 < L.length := by omega
 have c := vbz hi
 have q := hc (j / 2) (by rw [← h.1]; exact hi)
 rcases Nat.mod_two_eq_zero_or_one j with h0 | h1
 ·rw [show j / 2 * 2 = j by omega] at c q
  rw [hj] at c
  cases c.1
  exact q.1
 ·have e1 : j / 2 * 2 + 1 = j := by omega
  have q2 := q.2
  rw [show off + j / 2 * 2 + 1 = off + j by omega] at q2
  rw [e1, hj] at c
  cases c.2
  exact q2
theorem RowC.lab {L : Lb} (h : RowC 2 D w ao n cap (cellsOf L)) : LabD D w ao n cap L := by
 have hl := h.1
 rw [xIz] at hl
 refine ⟨by omega, h.2.1, h.2.2.1, fun hn => ?_⟩
 obtain ⟨b, off, e, hb, hc⟩ := h.2.2.2 hn
 refine ⟨b, off, e, hb, fun i hi => ?_⟩
 have c := vbz (L := L) (i := i) (by omega)
 exact ⟨hc _ _ c.1, hc _ _ c.2⟩
def qIz (L : List Int) : List Value := L.map (Value.int .u64)
theorem CtD.row {L : List Int} (h : CtD D w ao n cap L) : RowC 1 D w ao n cap (qIz L) := by
 refine ⟨by simp [qIz, h.1], h.2.1, h.2.2.1, fun hn => ?_⟩
 obtain ⟨b, off, e, hb, hc⟩ := h.2.2.2 hn
 refine ⟨b, off, e, hb, fun j u hj => ?_⟩
 have hl : j < L.length := by have := (List.getElem?_eq_some_iff.1 hj).1; simpa [qIz] using this
 rw [hc j (by rw [← h.1]; exact hl), ← hj]
 simp [qIz, List.getD_eq_getElem?_getD, List.getElem?_eq_getElem hl]
theorem RowC.ct {L : List Int} (h : RowC 1 D w ao n cap (qIz L)) : CtD D w ao n cap L := by
 have hl := h.1
 simp [qIz] at hl
 refine ⟨hl, h.2.1, h.2.2.1, fun hn => ?_⟩
 obtain ⟨b, off, e, hb, hc⟩ := h.2.2.2 hn
 refine ⟨b, off, e, hb, fun i hi => hc i _ ?_⟩
 have hi' : i < L.length := by omega
 simp [qIz, List.getD_eq_getElem?_getD, List.getElem?_eq_getElem hi']
theorem MpD.row {L : List PgM.Pg.Mp} (h : MpD D w ao n cap L) : RowC 6 D w ao n cap (PgM.mpC L) := by
 refine ⟨by rw [PgM.mpC_len, h.1], h.2.1, h.2.2.1, fun hn => ?_⟩
 obtain ⟨b, off, e, hb, hc⟩ := h.2.2.2 hn
 refine ⟨b, off, e, hb, fun j u hj => ?_⟩
 obtain ⟨h1, h2⟩ := PgM.mpC_back hj
 have := hc (j / 6) (by rw [← h.1]; exact h1) (j % 6) u h2
 rwa [show off + j / 6 * 6 + j % 6 = off + j by omega] at this
theorem RowC.mp {L : List PgM.Pg.Mp} (h : RowC 6 D w ao n cap (PgM.mpC L)) : MpD D w ao n cap L := by
 have hl := h.1
 rw [PgM.mpC_len] at hl
 refine ⟨by omega, h.2.1, h.2.2.1, fun hn => ?_⟩
 obtain ⟨b, off, e, hb, hc⟩ := h.2.2.2 hn
 refine ⟨b, off, e, hb, fun i hi j v hv => ?_⟩
 have := hc (i * 6 + j) v (PgM.mpC_at (by omega) hv)
 rwa [show off + (i * 6 + j) = off + i * 6 + j by omega] at this
end
section
variable {ops : Array Oper} {rest : List Oper} {o : Oper} {a : Act} {Q : Exit → Act → World → Prop} {w : World}
theorem qHz {t e : TypeId} {z : Value} {k by_ : Nat} (hinfo : (prog.info? e).map (fun i => (i.zero, i.size, i.bytes)) = some (some z, k, by_)) (ht : prog.underlying t = some (.slice e)) (hzs : z.cells.size = k) (hk : 0 < k) (hgd : o.guard = none) (s x : Operand) (ho : o.op = .call { callee := .builtin .append, args := #[s, x], argTypes := #[t, t] })
  (base : Nat) (v : Value) (m : Nat) (cs' : List Value) (hs : a.eval s = v) (hown : w.ownsRow base e k v m cs') (D : Nat → Prop) (ao : Option Addr) (n cap : Nat) (cs : List Value) (hx : a.eval x = .slice ao n cap) (hL : RowC k D w ao n cap cs) (h1 : ∀ u ∈ cs, u.oneCell' = true) (h63 : m + n ≤ maxLen) (hby : (m + n) * by_ ≤ 140737488355328) (hbase : base ≤ w.heap.size)
  (h : ∀ v' w', w'.ownsRow base e k v' (m + n) (cs' ++ cs) → w.grownBy w' v.ownBlock → wpList prog ops Q rest (a.put o.dst v') w') : wpList prog ops Q (o :: rest) a w := by
 obtain ⟨i0, hi, hz0, hz1, hz2⟩ := info_parts hinfo
 cases ao with
 | none =>
  have h0 := hL.2.2.1.2 rfl
  have hn0 : n = 0 := by have := hL.2.1; omega
  subst hn0
  have hl : cs = [] := List.eq_nil_of_length_eq_zero (by have := hL.1; omega)
  subst hl
  subst h0
  refine wpList_append_own_none hgd s x t ho base e i0 k ht hi v _ _ hs hown hx ?_
  exact h v w (by simpa using hown) (PgM.grownBy_refl _ _)
 | some ad =>
  refine wpList_append_own w hgd s x t ho base e i0 z k by_ ht hi hz0 hz1 hz2 hzs hk v _ _ hs hown ad n cap cs hx hL.1 hL.cells h1 h63 hby hbase ?_
  intro v' w' h2 h3 _
  exact h v' w' h2 h3
end
theorem vDz : (prog.info? 22).map (fun i => (i.zero, i.size, i.bytes)) = some (some (.int .u64 0), 1, 8) := by kernel_rfl
theorem infoP : (prog.info? 89).map (fun i => (i.zero, i.size, i.bytes)) = some (some (.agg #[.int .u64 0, .int .i64 0]), 2, 16) := by kernel_rfl
theorem infoM : (prog.info? 92).map (fun i => (i.zero, i.size, i.bytes)) = some (some (.agg #[.int .i64 0, .int .i64 0, .int .u64 0, .int .u64 0, .int .i64 0, .bool false]), 6, 48) := by kernel_rfl
theorem y0z (L : Lb) : ∀ u ∈ cellsOf L, u.oneCell' = true := by
 induction L with
 | nil => intro u hu; cases hu
 | cons p r ih =>
  intro u hu
  simp [cellsOf] at hu
  rcases hu with rfl | rfl | hu
  ·rfl
  ·rfl
  ·exact ih u hu
theorem yrz (L : List Int) : ∀ u ∈ qIz L, u.oneCell' = true := by
 intro u hu
 simp [qIz] at hu
 obtain ⟨x, _, rfl⟩ := hu
 rfl
abbrev New (w w' : World) : Nat → Prop := fun b => w.heap.size ≤ b ∧ b < w'.heap.size
theorem xmz {w w' : World} (h : w.grownBy w' (Value.ownBlock (.slice none 0 0))) : Below w.heap.size w w' := (Below.refl _ _).grown h (Nat.le_refl _) (fun j e => by have e' : none = some j := e; cases e')
theorem j9z {w0 w : World} {ao : Option Addr} {n cap : Nat} {L : Lb} (h : LabD (LtN w0) w0 ao n cap L) (hk : Below w0.heap.size w0 w) (hn : n < 4294967296) :
  Calls prog 136 #[.slice ao n cap] w fun e w' => ∃ ao1 cap1, e = .returned (.slice ao1 n cap1) ∧ LabD (New w w') w' ao1 n cap1 L ∧ Below w.heap.size w w' := by
 have hL := (u5z h hk).row
 go_enter func136, ntmps136
 go_wp2_with (at_builtin; refine qHz infoP underlying27 rfl (by omega) rfl _ _ rfl w.heap.size _ 0 [] rfl (World.ownsRow_nil _ _ _ _) _ _ _ _ (cellsOf L) rfl hL (y0z L) (by unfold maxLen; omega) (by omega) (Nat.le_refl _) ?_; intro v' w1 hown hgrow)
 go_ret
 rw [Nat.zero_add, List.nil_append] at hown
 obtain ⟨ao1, cap1, rfl, hr⟩ := RowC.of_owns hown
 exact ⟨ao1, cap1, rfl, hr.lab, xmz hgrow⟩
theorem gtz {w : World} {base : Nat} {ao : Option Addr} {n cap : Nat} {L : List Int} (h : w.ownsRow base 22 1 (.slice ao n cap) n (qIz L)) : CtD (fun b => base ≤ b ∧ b < w.heap.size) w ao n cap L := by
 obtain ⟨a, c, e, hr⟩ := RowC.of_owns h
 cases e
 exact hr.ct
theorem xAz {w w' : World} {base k n : Nat} {e : TypeId} {v : Value} {cs : List Value} (h : w.ownsRow base e k v n cs) (hk : ∀ b, base ≤ b → b < w.heap.size → w'.heap[b]? = w.heap[b]?) : w'.ownsRow base e k v n cs := by
 refine ⟨h.1, ?_⟩
 rcases h.2 with h0 | ⟨g, c, cur, e1, hb, hg, hr⟩
 ·exact .inl h0
 ·exact .inr ⟨g, c, cur, e1, hb, (hk g hb (Array.getElem?_eq_some_iff.1 hg).1).trans hg, hr⟩
theorem j8z {w0 w : World} {ao : Option Addr} {n cap : Nat} {L : List Int} (h : CtD (LtN w0) w0 ao n cap L) (hk : Below w0.heap.size w0 w) (hn : n < 4294967296) :
  Calls prog 137 #[.slice ao n cap] w fun e w' => ∃ ao1 cap1, e = .returned (.slice ao1 n cap1) ∧ w'.ownsRow w.heap.size 22 1 (.slice ao1 n cap1) n (qIz L) ∧ Below w.heap.size w w' := by
 have hL := (h.ct' hk).row
 go_enter func137, ntmps137
 go_wp2_with (at_builtin; refine qHz vDz underlying28 rfl (by omega) rfl _ _ rfl w.heap.size _ 0 [] rfl (World.ownsRow_nil _ _ _ _) _ _ _ _ (qIz L) rfl hL (yrz L) (by unfold maxLen; omega) (by omega) (Nat.le_refl _) ?_; intro v' w1 hown hgrow)
 go_ret
 rw [Nat.zero_add, List.nil_append] at hown
 obtain ⟨ao1, cap1, rfl, hr⟩ := RowC.of_owns hown
 exact ⟨ao1, cap1, rfl, hown, xmz hgrow⟩
theorem copyU {w0 w : World} {ao : Option Addr} {n cap : Nat} {L : List Int} (h : CtD (LtN w0) w0 ao n cap L) (hk : Below w0.heap.size w0 w) (hn : n < 4294967296) :
  Calls prog 137 #[.slice ao n cap] w fun e w' => ∃ ao1 cap1, e = .returned (.slice ao1 n cap1) ∧ CtD (New w w') w' ao1 n cap1 L ∧ Below w.heap.size w w' :=
 (j8z h hk hn).mono fun e w' ⟨ao1, cap1, he, ho, hb⟩ => ⟨ao1, cap1, he, gtz ho, hb⟩
theorem copyM {w0 w : World} {ao : Option Addr} {n cap : Nat} {L : List PgM.Pg.Mp} (h : MpD (LtN w0) w0 ao n cap L) (hk : Below w0.heap.size w0 w) (hn : n < 4294967296) :
  Calls prog 138 #[.slice ao n cap] w fun e w' => ∃ ao1 cap1, e = .returned (.slice ao1 n cap1) ∧ MpD (New w w') w' ao1 n cap1 L ∧ Below w.heap.size w w' := by
 have hL := MpD.row (MpD.mp' h hk)
 go_enter func138, ntmps138
 go_wp2_with (at_builtin; refine qHz infoM underlying29 rfl (by omega) rfl _ _ rfl w.heap.size _ 0 [] rfl (World.ownsRow_nil _ _ _ _) _ _ _ _ (PgM.mpC L) rfl hL (PgM.mpC_one L) (by unfold maxLen; omega) (by omega) (Nat.le_refl _) ?_; intro v' w1 hown hgrow)
 go_ret
 rw [Nat.zero_add, List.nil_append] at hown
 obtain ⟨ao1, cap1, rfl, hr⟩ := RowC.of_owns hown
 exact ⟨ao1, cap1, rfl, hr.mp, xmz hgrow⟩
end
end Go.Proofs.YtklnneiblmakmaaGreat
