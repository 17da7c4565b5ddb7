/-
 PROVED HERE: what the document's up returns when it is called (a contract over this translation); what a view's laid return. What is asked stands at each.
-/
import Derived.Test.YthnpckhmdnjikaaGreatZ1
import Derived.Test.YthnpckhmdnjikaaGreatZ16
namespace Go.Proofs.YthnpckhmdnjikaaGreat
set_option maxRecDepth 100000
set_option maxHeartbeats 8000000
set_option linter.unusedVariables false
open Go.Proofs.Tryz
section
open Go.RowKit Go.Shelf
attribute [local go_sem] Oper.semAt_some
def AtW (v W : World) : Prop := W = v
variable {B : Nat} {C : Array Value}
theorem AtW.blk {v W : World} {t : TypeId} (h : AtW v W) (k : Blk v B C t) : Blk W B C t := by
 unfold AtW at h
 rw [h]
 exact k
theorem AtW.cel {v W : World} {p : Addr} {x : Value} (h : AtW v W) (k : v.cell? p = some x) : W.cell? p = some x := by
 unfold AtW at h
 rw [h]
 exact k
variable {ao : Option Addr} {n cap : Nat}
theorem wAz {S : World → Prop} : Obl.holds prog S (.ln 28 3 (.slice ao n cap) (.int .i64 n)) := fun w hS => by
 go_simp
theorem g4z (L : List Int) : L.getLast?.getD 0 = L.getD (L.length - 1) 0 := by
 rw [List.getLast?_eq_getElem?, List.getD_eq_getElem?_getD]
variable {X : List Ob} {w : World} {t ke ro : Int}
theorem rup_w {i : Int} (h : Obs w ao n cap X) (hn16 : n ≤ 4096) : Calls prog 44 #[.agg #[.int .i64 t, .int .u64 ke, .int .u64 ro, .slice ao n cap], .int .u64 i] w fun e w' => e = .returned (.bool (upB X ro i)) ∧ Below w.heap.size w w' := by
 have hmx : prog.follows .mixedOrders = true := by kernel_rfl
 have g2 : (#[.int .i64 t, .int .u64 ke, .int .u64 ro, .slice ao n cap] : Array Value)[2]? = some (.int .u64 ro) := rfl
 have hzw : (prog.info? 25).map (·.size) = some (#[.int .i64 t, .int .u64 ke, .int .u64 ro, .slice ao n cap] : Array Value).size := by kernel_rfl
 have hab := fun (W : World) (hk : Below w.heap.size w W) => rabove_w (t := t) (ke := ke) (ro := ro) (i := i) (qvz h hk) hn16
 have hlen : (rabv X i).length ≤ 4096 := by
  have hl : X.length = n := h.1
  unfold rabv
  split
  ·omega
  ·exact Nat.zero_le _
 have hU : Hid (upB X ro i = ((decide (i = ro) && decide ((rabv X i).length = 0)) || (decide (0 < (rabv X i).length) && decide ((rabv X i).getD ((rabv X i).length - 1) 0 = ro)))) := by
  show upB X ro i = _
  unfold upB
  rw [g4z]
 rw [hU.out]
 generalize rabv X i = L at hab hlen
 obtain ⟨G, hG⟩ : ∃ G : Array Value, G = #[.int .i64 t, .int .u64 ke, .int .u64 ro, .slice ao n cap] := ⟨_, rfl⟩
 rw [← hG] at g2 hzw hab
 rw [← hG]
 clear hG
 go_enter func44, ntmps44
 go_wp2_with (first
  | (with_reducible refine qcz rfl 25 _ rfl G rfl ?_; intro B2 W2 hN2 hB2 hk)
  | (with_reducible refine qdz (by kernel_rfl) _ _ rfl B2 rfl G hB2 _ underlying25 (by kernel_rfl) hzw ?_)
  | (go_at_call 77; (with_reducible refine (hab _ hk).mono ?_); rintro e w1 ⟨v, rfl, hown, hb1⟩; replace hB2 := hB2.next hb1; replace hk := btz hk hb1; obtain ⟨al, cl, rfl, hct⟩ := kbz hown))
 clear hN2
 have hkd := (brz w1.heap.size w1).drew
 refine PgM.region_out (S := AtW w1.drew) hmx rfl (fun hS => ?_)
 replace hB2 := hB2.next hkd
 replace hk := btz hk hkd
 have hct2 := hct.laterK fun b hb => hkd.block b hb.2
 clear hct hown
 generalize w1.drew = W5 at hS hB2 hk hct2 ⊢
 clear hkd hb1
 by_cases q2 : L.length = 0
 ·replace q2 : Hid (L.length = 0) := q2
  have q2i : Hid ((L.length : Int) = 0) := by show _ = _; have := q2.out; omega
  have q2p : Hid (¬ (0 : Int) < (L.length : Int)) := by refine (?_ : ¬ (0 : Int) < (L.length : Int)); have := q2.out; omega
  by_cases q1 : i = ro
  ·replace q1 : Hid (i = ro) := q1
   refine qlz (by kernel_rfl) (fun _ _ _ _ _ h => h) hS [(0, none), (1, none), (2, some (.int .u64 ro)), (3, some (.bool true)), (4, none), (5, none), (6, some (.int .i64 L.length)), (7, some (.bool true)), (8, none), (9, none), (10, none), (11, none), (12, none), (13, none), (14, none), (15, none), (16, none), (17, none), (18, none), (19, none), (20, none), (21, none), (22, none), (23, none), (24, none), (25, none)] (l' := #[tt, tt, tt, tt, tt, tt, tt, tt, tt, tt, tt, tt, tt, tt, tt, tt, tt, tt, tt, tt, tt, tt, tt, tt, tt, tt]) (a' := { tmps := #[.agg G, .int .u64 i, .pointer (some ⟨B2, 0, none⟩), undef, .bool true, .slice al L.length cl, .agg G, .int .u64 i, .slice al L.length cl, .int .u64 i, .pointer (some ⟨B2, 2, none⟩), .int .u64 ro, .bool true, .bool true, .slice al L.length cl, .int .i64 L.length, .bool true, .bool true, .bool true, ud, ud, ud, ud, ud, ud, ud, ud, ud, ud, ud, ud, ud, undef, .bool true], defers := [] }) (obs := [.load 22 B2 2 (.int .u64 ro), .test .eql 22 (.tmp 9) (.tmp 11) (.int .u64 i) (.int .u64 ro) (.bool true), .ln 28 3 (.slice al L.length cl) (.int .i64 L.length), .test .eql 3 (.tmp 15) (.const (.int .i64 0)) (.int .i64 L.length) (.int .i64 0) (.bool true)]) (n := 0) (by kernel_rfl) (by kernel_rfl) ⟨qhz (fun _ e => AtW.blk e hB2) g2 isAgg22, qFz (fun _ => qsz _ _ _ _ _ _) q1, wAz, qFz (fun _ => qsz _ _ _ _ _ _) q2i, trivial⟩ ?_
   refine wpAnyH_done (by kernel_rfl) ?_ _
   go_wp2
   go_ret
   exact ⟨by rw [List.eq_nil_of_length_eq_zero q2.out]; simp [q1.out], hk⟩
  ·replace q1 : Hid (¬ i = ro) := q1
   refine qlz (by kernel_rfl) (fun _ _ _ _ _ h => h) hS [(0, none), (1, none), (2, some (.int .u64 ro)), (3, some (.bool false)), (4, none), (5, none), (6, none), (7, none), (8, none), (9, none), (10, none), (11, some (.int .i64 L.length)), (12, some (.bool false)), (13, none), (14, none), (15, none), (16, none), (17, none), (18, none), (19, none), (20, none), (21, none), (22, none), (23, none), (24, none), (25, none)] (l' := #[tt, tt, tt, tt, tt, tt, tt, tt, tt, tt, tt, tt, tt, tt, tt, tt, tt, tt, tt, tt, tt, tt, tt, tt, tt, tt]) (a' := { tmps := #[.agg G, .int .u64 i, .pointer (some ⟨B2, 0, none⟩), undef, .bool false, .slice al L.length cl, .agg G, .int .u64 i, .slice al L.length cl, .int .u64 i, .pointer (some ⟨B2, 2, none⟩), .int .u64 ro, .bool false, .bool false, ud, ud, undef, .bool false, .bool false, .slice al L.length cl, .int .i64 L.length, .bool false, .bool false, ud, ud, ud, ud, ud, ud, ud, ud, undef, .bool false, .bool false], defers := [] }) (obs := [.load 22 B2 2 (.int .u64 ro), .test .eql 22 (.tmp 9) (.tmp 11) (.int .u64 i) (.int .u64 ro) (.bool false), .ln 28 3 (.slice al L.length cl) (.int .i64 L.length), .test .gtr 3 (.tmp 20) (.const (.int .i64 0)) (.int .i64 L.length) (.int .i64 0) (.bool false)]) (n := 0) (by kernel_rfl) (by kernel_rfl) ⟨qhz (fun _ e => AtW.blk e hB2) g2 isAgg22, qWz (fun _ => qsz _ _ _ _ _ _) q1, wAz, qWz (fun _ => qCz _ _ _ _ _ _) q2p, trivial⟩ ?_
   refine wpAnyH_done (by kernel_rfl) ?_ _
   go_wp2
   go_ret
   exact ⟨by rw [List.eq_nil_of_length_eq_zero q2.out]; simp [q1.out], hk⟩
 ·replace q2 : Hid (¬ L.length = 0) := q2
  obtain ⟨m, hm⟩ : ∃ m, Hid (L.length = m + 1) := ⟨L.length - 1, by show _ = _; have := q2.out; omega⟩
  have hm2 : m < L.length := by have := hm.out; omega
  have hms : IntKind.i64.wrap ((L.length : Int) - 1) = (m : Int) := by rw [IntKind.wrap_i64]; have := hm.out; omega
  have q2i : Hid (¬ (L.length : Int) = 0) := by refine (?_ : ¬ (L.length : Int) = 0); have := q2.out; omega
  have q2p : Hid ((0 : Int) < (L.length : Int)) := by refine (?_ : (0 : Int) < (L.length : Int)); have := q2.out; omega
  obtain ⟨b, off, rfl, hbb, hc⟩ := jRz hct2 hm2
  have hlz : L.getD (L.length - 1) 0 = L.getD m 0 := by rw [hm.out]; rfl
  generalize L.getD m 0 = z at hc hlz
  have q2q : 0 < L.length := by omega
  by_cases q1 : i = ro
  ·replace q1 : Hid (i = ro) := q1
   by_cases q3 : z = ro
   ·replace q3 : Hid (z = ro) := q3
    refine qlz (by kernel_rfl) (fun _ _ _ _ _ h => h) hS [(0, none), (1, none), (2, some (.int .u64 ro)), (3, some (.bool true)), (4, none), (5, none), (6, some (.int .i64 L.length)), (7, some (.bool false)), (8, none), (9, none), (10, none), (11, some (.int .i64 L.length)), (12, some (.bool true)), (13, none), (14, none), (15, none), (16, some (.int .i64 L.length)), (17, some (.int .i64 m)), (18, some (.pointer (some ⟨b, off + m, none⟩))), (19, some (.int .u64 z)), (20, none), (21, some (.int .u64 ro)), (22, some (.bool true)), (23, none), (24, none), (25, none)] (l' := #[tt, tt, tt, tt, tt, tt, tt, tt, tt, tt, tt, tt, tt, tt, tt, tt, tt, tt, tt, tt, tt, tt, tt, tt, tt, tt]) (a' := { tmps := #[.agg G, .int .u64 i, .pointer (some ⟨B2, 0, none⟩), undef, .bool true, .slice (some ⟨b, off, none⟩) L.length cl, .agg G, .int .u64 i, .slice (some ⟨b, off, none⟩) L.length cl, .int .u64 i, .pointer (some ⟨B2, 2, none⟩), .int .u64 ro, .bool true, .bool true, .slice (some ⟨b, off, none⟩) L.length cl, .int .i64 L.length, .bool false, .bool false, .bool false, .slice (some ⟨b, off, none⟩) L.length cl, .int .i64 L.length, .bool true, .bool true, .slice (some ⟨b, off, none⟩) L.length cl, .slice (some ⟨b, off, none⟩) L.length cl, .int .i64 L.length, .int .i64 m, .pointer (some ⟨b, off + m, none⟩), .int .u64 z, .pointer (some ⟨B2, 2, none⟩), .int .u64 ro, .bool true, .bool true, .bool true], defers := [] }) (obs := [.load 22 B2 2 (.int .u64 ro), .test .eql 22 (.tmp 9) (.tmp 11) (.int .u64 i) (.int .u64 ro) (.bool true), .ln 28 3 (.slice (some ⟨b, off, none⟩) L.length cl) (.int .i64 L.length), .test .eql 3 (.tmp 15) (.const (.int .i64 0)) (.int .i64 L.length) (.int .i64 0) (.bool false), .ln 28 3 (.slice (some ⟨b, off, none⟩) L.length cl) (.int .i64 L.length), .test .gtr 3 (.tmp 20) (.const (.int .i64 0)) (.int .i64 L.length) (.int .i64 0) (.bool true), .ln 28 3 (.slice (some ⟨b, off, none⟩) L.length cl) (.int .i64 L.length), .test .sub 3 (.tmp 25) (.const (.int .i64 1)) (.int .i64 L.length) (.int .i64 1) (.int .i64 m), .ia 28 (.slice (some ⟨b, off, none⟩) L.length cl) (.int .i64 m) (.pointer (some ⟨b, off + m, none⟩)), .load 22 b (off + m) (.int .u64 z), .load 22 B2 2 (.int .u64 ro), .test .eql 22 (.tmp 28) (.tmp 30) (.int .u64 z) (.int .u64 ro) (.bool true)]) (n := 0) (by kernel_rfl) (by kernel_rfl) ⟨qhz (fun _ e => AtW.blk e hB2) g2 isAgg22, qFz (fun _ => qsz _ _ _ _ _ _) q1, wAz, qWz (fun _ => qsz _ _ _ _ _ _) q2i, wAz, qFz (fun _ => qCz _ _ _ _ _ _) q2p, wAz, x6z hm hms, jbz hm2, xVz (fun _ e => AtW.cel e hc) isAgg22, qhz (fun _ e => AtW.blk e hB2) g2 isAgg22, qFz (fun _ => qsz _ _ _ _ _ _) q3, trivial⟩ ?_
    refine wpAnyH_done (by kernel_rfl) ?_ _
    go_wp2
    go_ret
    exact ⟨by rw [hlz]; simp [q1.out, q2.out, q2q, q3.out], hk⟩
   ·replace q3 : Hid (¬ z = ro) := q3
    refine qlz (by kernel_rfl) (fun _ _ _ _ _ h => h) hS [(0, none), (1, none), (2, some (.int .u64 ro)), (3, some (.bool true)), (4, none), (5, none), (6, some (.int .i64 L.length)), (7, some (.bool false)), (8, none), (9, none), (10, none), (11, some (.int .i64 L.length)), (12, some (.bool true)), (13, none), (14, none), (15, none), (16, some (.int .i64 L.length)), (17, some (.int .i64 m)), (18, some (.pointer (some ⟨b, off + m, none⟩))), (19, some (.int .u64 z)), (20, none), (21, some (.int .u64 ro)), (22, some (.bool false)), (23, none), (24, none), (25, none)] (l' := #[tt, tt, tt, tt, tt, tt, tt, tt, tt, tt, tt, tt, tt, tt, tt, tt, tt, tt, tt, tt, tt, tt, tt, tt, tt, tt]) (a' := { tmps := #[.agg G, .int .u64 i, .pointer (some ⟨B2, 0, none⟩), undef, .bool false, .slice (some ⟨b, off, none⟩) L.length cl, .agg G, .int .u64 i, .slice (some ⟨b, off, none⟩) L.length cl, .int .u64 i, .pointer (some ⟨B2, 2, none⟩), .int .u64 ro, .bool true, .bool true, .slice (some ⟨b, off, none⟩) L.length cl, .int .i64 L.length, .bool false, .bool false, .bool false, .slice (some ⟨b, off, none⟩) L.length cl, .int .i64 L.length, .bool true, .bool true, .slice (some ⟨b, off, none⟩) L.length cl, .slice (some ⟨b, off, none⟩) L.length cl, .int .i64 L.length, .int .i64 m, .pointer (some ⟨b, off + m, none⟩), .int .u64 z, .pointer (some ⟨B2, 2, none⟩), .int .u64 ro, .bool false, .bool false, .bool false], defers := [] }) (obs := [.load 22 B2 2 (.int .u64 ro), .test .eql 22 (.tmp 9) (.tmp 11) (.int .u64 i) (.int .u64 ro) (.bool true), .ln 28 3 (.slice (some ⟨b, off, none⟩) L.length cl) (.int .i64 L.length), .test .eql 3 (.tmp 15) (.const (.int .i64 0)) (.int .i64 L.length) (.int .i64 0) (.bool false), .ln 28 3 (.slice (some ⟨b, off, none⟩) L.length cl) (.int .i64 L.length), .test .gtr 3 (.tmp 20) (.const (.int .i64 0)) (.int .i64 L.length) (.int .i64 0) (.bool true), .ln 28 3 (.slice (some ⟨b, off, none⟩) L.length cl) (.int .i64 L.length), .test .sub 3 (.tmp 25) (.const (.int .i64 1)) (.int .i64 L.length) (.int .i64 1) (.int .i64 m), .ia 28 (.slice (some ⟨b, off, none⟩) L.length cl) (.int .i64 m) (.pointer (some ⟨b, off + m, none⟩)), .load 22 b (off + m) (.int .u64 z), .load 22 B2 2 (.int .u64 ro), .test .eql 22 (.tmp 28) (.tmp 30) (.int .u64 z) (.int .u64 ro) (.bool false)]) (n := 0) (by kernel_rfl) (by kernel_rfl) ⟨qhz (fun _ e => AtW.blk e hB2) g2 isAgg22, qFz (fun _ => qsz _ _ _ _ _ _) q1, wAz, qWz (fun _ => qsz _ _ _ _ _ _) q2i, wAz, qFz (fun _ => qCz _ _ _ _ _ _) q2p, wAz, x6z hm hms, jbz hm2, xVz (fun _ e => AtW.cel e hc) isAgg22, qhz (fun _ e => AtW.blk e hB2) g2 isAgg22, qWz (fun _ => qsz _ _ _ _ _ _) q3, trivial⟩ ?_
    refine wpAnyH_done (by kernel_rfl) ?_ _
    go_wp2
    go_ret
    exact ⟨by rw [hlz]; simp [q1.out, q2.out, q2q, q3.out], hk⟩
  ·replace q1 : Hid (¬ i = ro) := q1
   by_cases q3 : z = ro
   ·replace q3 : Hid (z = ro) := q3
    refine qlz (by kernel_rfl) (fun _ _ _ _ _ h => h) hS [(0, none), (1, none), (2, some (.int .u64 ro)), (3, some (.bool false)), (4, none), (5, none), (6, none), (7, none), (8, none), (9, none), (10, none), (11, some (.int .i64 L.length)), (12, some (.bool true)), (13, none), (14, none), (15, none), (16, some (.int .i64 L.length)), (17, some (.int .i64 m)), (18, some (.pointer (some ⟨b, off + m, none⟩))), (19, some (.int .u64 z)), (20, none), (21, some (.int .u64 ro)), (22, some (.bool true)), (23, none), (24, none), (25, none)] (l' := #[tt, tt, tt, tt, tt, tt, tt, tt, tt, tt, tt, tt, tt, tt, tt, tt, tt, tt, tt, tt, tt, tt, tt, tt, tt, tt]) (a' := { tmps := #[.agg G, .int .u64 i, .pointer (some ⟨B2, 0, none⟩), undef, .bool true, .slice (some ⟨b, off, none⟩) L.length cl, .agg G, .int .u64 i, .slice (some ⟨b, off, none⟩) L.length cl, .int .u64 i, .pointer (some ⟨B2, 2, none⟩), .int .u64 ro, .bool false, .bool false, ud, ud, undef, .bool false, .bool false, .slice (some ⟨b, off, none⟩) L.length cl, .int .i64 L.length, .bool true, .bool true, .slice (some ⟨b, off, none⟩) L.length cl, .slice (some ⟨b, off, none⟩) L.length cl, .int .i64 L.length, .int .i64 m, .pointer (some ⟨b, off + m, none⟩), .int .u64 z, .pointer (some ⟨B2, 2, none⟩), .int .u64 ro, .bool true, .bool true, .bool true], defers := [] }) (obs := [.load 22 B2 2 (.int .u64 ro), .test .eql 22 (.tmp 9) (.tmp 11) (.int .u64 i) (.int .u64 ro) (.bool false), .ln 28 3 (.slice (some ⟨b, off, none⟩) L.length cl) (.int .i64 L.length), .test .gtr 3 (.tmp 20) (.const (.int .i64 0)) (.int .i64 L.length) (.int .i64 0) (.bool true), .ln 28 3 (.slice (some ⟨b, off, none⟩) L.length cl) (.int .i64 L.length), .test .sub 3 (.tmp 25) (.const (.int .i64 1)) (.int .i64 L.length) (.int .i64 1) (.int .i64 m), .ia 28 (.slice (some ⟨b, off, none⟩) L.length cl) (.int .i64 m) (.pointer (some ⟨b, off + m, none⟩)), .load 22 b (off + m) (.int .u64 z), .load 22 B2 2 (.int .u64 ro), .test .eql 22 (.tmp 28) (.tmp 30) (.int .u64 z) (.int .u64 ro) (.bool true)]) (n := 0) (by kernel_rfl) (by kernel_rfl) ⟨qhz (fun _ e => AtW.blk e hB2) g2 isAgg22, qWz (fun _ => qsz _ _ _ _ _ _) q1, wAz, qFz (fun _ => qCz _ _ _ _ _ _) q2p, wAz, x6z hm hms, jbz hm2, xVz (fun _ e => AtW.cel e hc) isAgg22, qhz (fun _ e => AtW.blk e hB2) g2 isAgg22, qFz (fun _ => qsz _ _ _ _ _ _) q3, trivial⟩ ?_
    refine wpAnyH_done (by kernel_rfl) ?_ _
    go_wp2
    go_ret
    exact ⟨by rw [hlz]; simp [q1.out, q2.out, q2q, q3.out], hk⟩
   ·replace q3 : Hid (¬ z = ro) := q3
    refine qlz (by kernel_rfl) (fun _ _ _ _ _ h => h) hS [(0, none), (1, none), (2, some (.int .u64 ro)), (3, some (.bool false)), (4, none), (5, none), (6, none), (7, none), (8, none), (9, none), (10, none), (11, some (.int .i64 L.length)), (12, some (.bool true)), (13, none), (14, none), (15, none), (16, some (.int .i64 L.length)), (17, some (.int .i64 m)), (18, some (.pointer (some ⟨b, off + m, none⟩))), (19, some (.int .u64 z)), (20, none), (21, some (.int .u64 ro)), (22, some (.bool false)), (23, none), (24, none), (25, none)] (l' := #[tt, tt, tt, tt, tt, tt, tt, tt, tt, tt, tt, tt, tt, tt, tt, tt, tt, tt, tt, tt, tt, tt, tt, tt, tt, tt]) (a' := { tmps := #[.agg G, .int .u64 i, .pointer (some ⟨B2, 0, none⟩), undef, .bool false, .slice (some ⟨b, off, none⟩) L.length cl, .agg G, .int .u64 i, .slice (some ⟨b, off, none⟩) L.length cl, .int .u64 i, .pointer (some ⟨B2, 2, none⟩), .int .u64 ro, .bool false, .bool false, ud, ud, undef, .bool false, .bool false, .slice (some ⟨b, off, none⟩) L.length cl, .int .i64 L.length, .bool true, .bool true, .slice (some ⟨b, off, none⟩) L.length cl, .slice (some ⟨b, off, none⟩) L.length cl, .int .i64 L.length, .int .i64 m, .pointer (some ⟨b, off + m, none⟩), .int .u64 z, .pointer (some ⟨B2, 2, none⟩), .int .u64 ro, .bool false, .bool false, .bool false], defers := [] }) (obs := [.load 22 B2 2 (.int .u64 ro), .test .eql 22 (.tmp 9) (.tmp 11) (.int .u64 i) (.int .u64 ro) (.bool false), .ln 28 3 (.slice (some ⟨b, off, none⟩) L.length cl) (.int .i64 L.length), .test .gtr 3 (.tmp 20) (.const (.int .i64 0)) (.int .i64 L.length) (.int .i64 0) (.bool true), .ln 28 3 (.slice (some ⟨b, off, none⟩) L.length cl) (.int .i64 L.length), .test .sub 3 (.tmp 25) (.const (.int .i64 1)) (.int .i64 L.length) (.int .i64 1) (.int .i64 m), .ia 28 (.slice (some ⟨b, off, none⟩) L.length cl) (.int .i64 m) (.pointer (some ⟨b, off + m, none⟩)), .load 22 b (off + m) (.int .u64 z), .load 22 B2 2 (.int .u64 ro), .test .eql 22 (.tmp 28) (.tmp 30) (.int .u64 z) (.int .u64 ro) (.bool false)]) (n := 0) (by kernel_rfl) (by kernel_rfl) ⟨qhz (fun _ e => AtW.blk e hB2) g2 isAgg22, qWz (fun _ => qsz _ _ _ _ _ _) q1, wAz, qFz (fun _ => qCz _ _ _ _ _ _) q2p, wAz, x6z hm hms, jbz hm2, xVz (fun _ e => AtW.cel e hc) isAgg22, qhz (fun _ e => AtW.blk e hB2) g2 isAgg22, qWz (fun _ => qsz _ _ _ _ _ _) q3, trivial⟩ ?_
    refine wpAnyH_done (by kernel_rfl) ?_ _
    go_wp2
    go_ret
    exact ⟨by rw [hlz]; simp [q1.out, q2.out, q2q, q3.out], hk⟩
def xrz (X : List Ob) (d : Ob) : Int := d.quota - (pagO d + (d.links.map (qOf X)).sum)
def layE (X : List Ob) (d o : Ob) : Int := if plcB d.label o.label = false then 2 else if 64 ≤ d.links.length then 6 else if xrz X d < o.quota ∨ (o.kind = 2 ∧ 0 < o.links.length) then 5 else 0
def layX (X : List Ob) (d o : Ob) : List Ob := if layE X d o = 0 then puR (puR X o) { d with links := insW d.links o.id } else X
theorem j5z {S : World → Prop} {G : Array Value} (hB : ∀ W, S W → Blk W B G 68) (hV : G.extract 0 (0 + 4) = G) (hG : 0 + 4 ≤ G.size) : Obl.holds prog S (.load 25 B 0 (.agg G)) :=
 qVz 4 hB hV hG underlying25 (by kernel_rfl) wnz
theorem kwz {d : Ob} (h : Small d) {L : List Int} (hL : L.length < 4294967296) : Small { d with links := L } :=
 ⟨h.c2, hL, h.c6, h.c7, h.c25, h.c36, h.c39, h.c40, h.c41, h.c42, h.c43, h.c44, h.c49, h.c50⟩
theorem xkz {x : Ob} (h : wez X) (hx : Small x) : wez (puR X x) := uiz h hx
variable {Cf : Nat → Array Value} {D0 : Nat → Prop}
theorem u1z {Cd Co : Array Value} {d o : Ob} (hD : ∀ b, D0 b → b < w.heap.size) (h : ObsF (LtN w) D0 w ao n cap X Cf) (hs : Srt X) (hn16 : n < 1022) (hsm : wez X) (hid : fnd X 0 = none) (hq : ∀ x ∈ X, 0 ≤ x.quota ∧ x.quota ≤ 4096)
  (hd : ObD D0 w Cd d) (hds : Small d) (hdq : 0 ≤ d.quota ∧ d.quota ≤ 4096) (hdl : d.label.length < 1048576) (hdr : d.links.Pairwise (· < ·)) (hdn : d.links.length ≤ 4000) (ho : ObD D0 w Co o) (hos : Small o) (hol : o.label.length < 1048576) :
  Calls prog 32 #[.agg #[.int .i64 t, .int .u64 ke, .int .u64 ro, .slice ao n cap], .agg Cd, .agg Co] w fun e w' => ∃ ao2 n2 cap2, e = .returned (.tuple #[.agg #[.int .i64 t, .int .u64 ke, .int .u64 ro, .slice ao2 n2 cap2], .int .i64 (layE X d o)]) ∧ ObsN w D0 w' ao2 n2 cap2 (layX X d o) ∧ Below w.heap.size w w' := by
 have hmx : prog.follows .mixedOrders = true := by kernel_rfl
 have hn : Hid (X.length = n) := h.1
 have hO : ObsD (LtN w) D0 w ao n cap X := h.obs
 have hF : ObsF (LtN w) (LtN w) w ao n cap X Cf := h.wide hD (fun _ hb => hb)
 have hdL : ObD (LtN w) w Cd d := hd.wide hD
 have hoL : ObD (LtN w) w Co o := ho.wide hD
 have hzv : (prog.info? 68).map (·.size) = some (#[.int .i64 t, .int .u64 ke, .int .u64 ro, .slice ao n cap] : Array Value).size := by kernel_rfl
 have hV : (#[.int .i64 t, .int .u64 ke, .int .u64 ro, .slice ao n cap] : Array Value).extract 0 (0 + 4) = #[.int .i64 t, .int .u64 ke, .int .u64 ro, .slice ao n cap] := rfl
 have hG4 : 0 + 4 ≤ (#[.int .i64 t, .int .u64 ke, .int .u64 ro, .slice ao n cap] : Array Value).size := lrz _
 have hz2 : ∀ v, (prog.info? 25).map (·.size) = some (#[.int .i64 t, .int .u64 ke, .int .u64 ro, v] : Array Value).size := fun _ => wnz
 have hs2 : ∀ v, zW.size = (#[.int .i64 t, .int .u64 ke, .int .u64 ro, v] : Array Value).size := fun _ => rfl
 have h12 : ∀ ao n cap, (#[.int .i64 t, .int .u64 ke, .int .u64 ro, .slice ao n cap] : Array Value).all (·.oneCell') = true := fun _ _ _ => by kernel_rfl
 have hrf := fun {er : Int} (W : World) (hk : Below w.heap.size w W) => w7z (t := t) (ke := ke) (ro := ro) (er := er) (D0 := D0) (fun b hb => ltz (hD b hb) hk.size) (qZz hO hD hk) hs (by omega) hsm hid
 have hrm := fun (W : World) (hk : Below w.heap.size w W) => yzz (t := t) (ke := ke) (ro := ro) (hF.next hk) hs (by omega) hq (hdL.next hk) hds hdq
 have hpu := fun {W : World} {D1 : Nat → Prop} (hD1 : ∀ b, D1 b → b < W.heap.size) (h01 : ∀ b, D0 b → D1 b) (hk : Below w.heap.size w W) => put_w (t := t) (ke := ke) (ro := ro) (D0 := D1) hD1 ((qZz hO hD hk).wide h01 (fun _ hb => hb)) hs (by omega) hsm ((ho.laterK fun b hb => hk.block b (hD b hb)).wide h01) hos
 have hpv := fun {W : World} {D1 : Nat → Prop} {a2 : Option Addr} {n2 c2 : Nat} {C2 : Array Value} {d2 : Ob} (hD1 : ∀ b, D1 b → b < W.heap.size) (h2 : ObsD (LtN W) D1 W a2 n2 c2 (puR X o)) (hx : ObD D1 W C2 d2) (hxs : Small d2) => put_w (t := t) (ke := ke) (ro := ro) (D0 := D1) hD1 h2 (q2z hs o) (by have := jxz X o; have := h2.1; have := hn.out; omega) (xkz hsm hos) hx hxs
 change ∀ (W : World), Below w.heap.size w W → Calls prog _ _ W fun e w' => e = .returned (.int .i64 (xrz X d)) ∧ _ at hrm
 obtain ⟨ER, hER⟩ : ∃ ER, Hid (layE X d o = ER) := ⟨_, rfl⟩
 obtain ⟨YR, hYR⟩ : ∃ YR, Hid (layX X d o = YR) := ⟨_, rfl⟩
 rw [hER.out, hYR.out]
 obtain ⟨al, nl, cl, c5, hLk⟩ := hd.links
 obtain ⟨aD, nD, cD, c2, hLD⟩ := hdL.label
 obtain ⟨aO, nO, cO, e2, hLO⟩ := hoL.label
 obtain ⟨ak, nk, ck, e5, hLo⟩ := hoL.links
 have hln : Hid (d.links.length = nl) := hLk.1
 have hlo : Hid (o.links.length = nk) := hLo.1
 have hzd := hd.size
 have hzo := ho.size
 have e0 := ho.id
 have e1 := ho.kind
 have e3 := ho.quota
 have hpl := fun (W : World) (hk : Below w.heap.size w W) => CkM.place_any (Lab.next hLD hk) (Lab.next hLO hk) (by rw [← hLD.1]; exact hdl) (by rw [← hLO.1]; exact hol)
 change ∀ (W : World), Below w.heap.size w W → Calls prog _ _ W fun e w' => e = .returned (.bool (plcB d.label o.label)) ∧ _ at hpl
 have hli := fun (W : World) (hk : Below w.heap.size w W) => linked_v (i := o.id) ((hLk.laterK fun b hb => hk.block b (hD b hb)).wide fun b hb => ltz (hD b hb) hk.size) hdr (by rw [← hln.out]; omega)
 obtain ⟨bp, hbp⟩ : ∃ bp, Hid (plcB d.label o.label = bp) := ⟨_, rfl⟩
 simp only [hbp.out] at hpl
 obtain ⟨rm, hrme⟩ : ∃ rm, Hid (xrz X d = rm) := ⟨_, rfl⟩
 simp only [hrme.out] at hrm
 obtain ⟨G, hG⟩ : ∃ G : Array Value, G = #[.int .i64 t, .int .u64 ke, .int .u64 ro, .slice ao n cap] := ⟨_, rfl⟩
 simp only [← hG] at hrf hrm hpu
 rw [← hG] at hzv hV hG4
 rw [← hG]
 clear hG
 cases bp with
 | false =>
  go_enter func32, ntmps32
  go_wp2_with (first
   | (with_reducible refine qcz rfl 68 _ rfl G rfl ?_; intro B3 W3 hN3 hB3 hk)
   | (with_reducible refine qcz rfl 43 (.tmp 1) rfl Cd rfl ?_; intro B4 W4 hN4 hB4 hk4; replace hB3 := hB3.next hk4; replace hk := btz hk hk4)
   | (with_reducible refine qcz rfl 43 (.tmp 2) rfl Co rfl ?_; intro B5 W5 hN5 hB5 hk5; replace hB3 := hB3.next hk5; replace hB4 := hB4.next hk5; replace hk := btz hk hk5)
   | ((with_reducible refine qgz rfl _ rfl zW wlz ?_); intro R W6 hN6 hR hk6; replace hB3 := hB3.next hk6; replace hB4 := hB4.next hk6; replace hB5 := hB5.next hk6; replace hk := btz hk hk6; have hsz : Hid (B3 < W6.heap.size ∧ B4 < W6.heap.size ∧ w.heap.size ≤ B4 ∧ w.heap.size ≤ R ∧ R < W6.heap.size) := (by have := hN3.out; have := hN4.out; have := hN5.out; have := hN6.out; refine (⟨?_, ?_, ?_, ?_, ?_⟩ : _ ∧ _ ∧ _ ∧ _ ∧ _) <;> omega); have hnR : Hid (B3 ≠ R ∧ B4 ≠ R ∧ B5 ≠ R) := (by have := hN3.out; have := hN4.out; have := hN5.out; have := hN6.out; refine (⟨?_, ?_, ?_⟩ : _ ∧ _ ∧ _) <;> omega); have hne : Hid (B4 ≠ R ∧ B4 ≠ B5 ∧ B4 ≠ B3) := (by have := hN3.out; have := hN4.out; have := hN5.out; have := hN6.out; refine (⟨?_, ?_, ?_⟩ : _ ∧ _ ∧ _) <;> omega); have hkz := brz W6.heap.size W6; have hkw0 := hk; clear hN3 hN4 hN5 hN6 hk4 hk5 hk6)
   | (with_reducible refine qaz (by kernel_rfl) _ _ rfl B4 _ rfl _ _ hB4 _ c2 isAgg27 ?_)
   | (with_reducible refine qaz (by kernel_rfl) _ _ rfl B5 _ rfl _ _ hB5 _ e2 isAgg27 ?_)
   | (go_at_call 59; (with_reducible refine (hpl _ hk).mono ?_); rintro e w7 ⟨rfl, hb7⟩; replace hB3 := hB3.next hb7; replace hB4 := hB4.next hb7; replace hB5 := hB5.next hb7; replace hR := hR.next hb7; replace hkz := btz hkz hb7; replace hk := btz hk hb7; clear hb7)
   | (with_reducible refine qdz (by kernel_rfl) 68 _ rfl B3 rfl G hB3 _ underlying68 (by kernel_rfl) hzv ?_)
   | (go_at_call 31; (with_reducible refine (hrf _ hk).mono ?_); rintro e w9 ⟨aX, nX, cX, rfl, oX, hb9⟩; have hR9 := hR.next hb9)
   | ((with_reducible refine qbz rfl _ _ _ rfl R rfl _ rfl zW hR9 (hz2 _) (hs2 _) (h12 aX nX cX) ?_); intro W9 hR10 q9))
  refine bodyPost_ret (qTz results32 rfl rfl hR10 rfl) rfl ?_
  have hE : ER = 2 := by rw [← hER.out]; unfold layE; rw [if_pos hbp.out]
  have hY : YR = X := by rw [← hYR.out]; unfold layX; rw [hER.out, hE]; rfl
  rw [hE, hY]
  exact ⟨aX, nX, cX, rfl, (ObsN.store oX q9 (ltz hsz.out.2.2.2.2 hkz.size) (fun b hb => by have := hD b hb; have := hsz.out.2.2.2.1; omega)).low hk.size, q9.below _ _ hsz.out.2.2.2.1 (btz hk hb9)⟩
 | true =>
  by_cases h64 : 64 ≤ nl
  ·have h64i : (64 : Int) ≤ nl := by omega
   go_enter func32, ntmps32
   go_wp2_with (first
    | (with_reducible refine qcz rfl 68 _ rfl G rfl ?_; intro B3 W3 hN3 hB3 hk)
    | (with_reducible refine qcz rfl 43 (.tmp 1) rfl Cd rfl ?_; intro B4 W4 hN4 hB4 hk4; replace hB3 := hB3.next hk4; replace hk := btz hk hk4)
    | (with_reducible refine qcz rfl 43 (.tmp 2) rfl Co rfl ?_; intro B5 W5 hN5 hB5 hk5; replace hB3 := hB3.next hk5; replace hB4 := hB4.next hk5; replace hk := btz hk hk5)
    | ((with_reducible refine qgz rfl _ rfl zW wlz ?_); intro R W6 hN6 hR hk6; replace hB3 := hB3.next hk6; replace hB4 := hB4.next hk6; replace hB5 := hB5.next hk6; replace hk := btz hk hk6; have hsz : Hid (B3 < W6.heap.size ∧ B4 < W6.heap.size ∧ w.heap.size ≤ B4 ∧ w.heap.size ≤ R ∧ R < W6.heap.size) := (by have := hN3.out; have := hN4.out; have := hN5.out; have := hN6.out; refine (⟨?_, ?_, ?_, ?_, ?_⟩ : _ ∧ _ ∧ _ ∧ _ ∧ _) <;> omega); have hnR : Hid (B3 ≠ R ∧ B4 ≠ R ∧ B5 ≠ R) := (by have := hN3.out; have := hN4.out; have := hN5.out; have := hN6.out; refine (⟨?_, ?_, ?_⟩ : _ ∧ _ ∧ _) <;> omega); have hne : Hid (B4 ≠ R ∧ B4 ≠ B5 ∧ B4 ≠ B3) := (by have := hN3.out; have := hN4.out; have := hN5.out; have := hN6.out; refine (⟨?_, ?_, ?_⟩ : _ ∧ _ ∧ _) <;> omega); have hkz := brz W6.heap.size W6; have hkw0 := hk; clear hN3 hN4 hN5 hN6 hk4 hk5 hk6)
    | (with_reducible refine qaz (by kernel_rfl) _ _ rfl B4 _ rfl _ _ hB4 _ c2 isAgg27 ?_)
    | (with_reducible refine qaz (by kernel_rfl) _ _ rfl B5 _ rfl _ _ hB5 _ e2 isAgg27 ?_)
    | (go_at_call 59; (with_reducible refine (hpl _ hk).mono ?_); rintro e w7 ⟨rfl, hb7⟩; replace hB3 := hB3.next hb7; replace hB4 := hB4.next hb7; replace hB5 := hB5.next hb7; replace hR := hR.next hb7; replace hkz := btz hkz hb7; replace hk := btz hk hb7; clear hb7)
    | (with_reducible refine qaz (by kernel_rfl) _ _ rfl B4 _ rfl _ _ hB4 _ c5 isAgg28 ?_)
    | (with_reducible refine qdz (by kernel_rfl) 68 _ rfl B3 rfl G hB3 _ underlying68 (by kernel_rfl) hzv ?_)
    | (go_at_call 31; (with_reducible refine (hrf _ hk).mono ?_); rintro e w9 ⟨aX, nX, cX, rfl, oX, hb9⟩; have hR9 := hR.next hb9)
    | ((with_reducible refine qbz rfl _ _ _ rfl R rfl _ rfl zW hR9 (hz2 _) (hs2 _) (h12 aX nX cX) ?_); intro W9 hR10 q9))
   refine bodyPost_ret (qTz results32 rfl rfl hR10 rfl) rfl ?_
   have hE : ER = 6 := by rw [← hER.out]; unfold layE; rw [if_neg (by rw [hbp.out]; decide), if_pos (by rw [hln.out]; exact h64)]
   have hY : YR = X := by rw [← hYR.out]; unfold layX; rw [hER.out, hE]; rfl
   rw [hE, hY]
   exact ⟨aX, nX, cX, rfl, (ObsN.store oX q9 (ltz hsz.out.2.2.2.2 hkz.size) (fun b hb => by have := hD b hb; have := hsz.out.2.2.2.1; omega)).low hk.size, q9.below _ _ hsz.out.2.2.2.1 (btz hk hb9)⟩
  ·have h64i : ¬ (64 : Int) ≤ nl := by omega
   go_enter func32, ntmps32
   go_wp2_with (first
    | (with_reducible refine qcz rfl 68 _ rfl G rfl ?_; intro B3 W3 hN3 hB3 hk)
    | (with_reducible refine qcz rfl 43 (.tmp 1) rfl Cd rfl ?_; intro B4 W4 hN4 hB4 hk4; replace hB3 := hB3.next hk4; replace hk := btz hk hk4)
    | (with_reducible refine qcz rfl 43 (.tmp 2) rfl Co rfl ?_; intro B5 W5 hN5 hB5 hk5; replace hB3 := hB3.next hk5; replace hB4 := hB4.next hk5; replace hk := btz hk hk5)
    | ((with_reducible refine qgz rfl _ rfl zW wlz ?_); intro R W6 hN6 hR hk6; replace hB3 := hB3.next hk6; replace hB4 := hB4.next hk6; replace hB5 := hB5.next hk6; replace hk := btz hk hk6; have hsz : Hid (B3 < W6.heap.size ∧ B4 < W6.heap.size ∧ w.heap.size ≤ B4 ∧ w.heap.size ≤ R ∧ R < W6.heap.size) := (by have := hN3.out; have := hN4.out; have := hN5.out; have := hN6.out; refine (⟨?_, ?_, ?_, ?_, ?_⟩ : _ ∧ _ ∧ _ ∧ _ ∧ _) <;> omega); have hnR : Hid (B3 ≠ R ∧ B4 ≠ R ∧ B5 ≠ R) := (by have := hN3.out; have := hN4.out; have := hN5.out; have := hN6.out; refine (⟨?_, ?_, ?_⟩ : _ ∧ _ ∧ _) <;> omega); have hne : Hid (B4 ≠ R ∧ B4 ≠ B5 ∧ B4 ≠ B3) := (by have := hN3.out; have := hN4.out; have := hN5.out; have := hN6.out; refine (⟨?_, ?_, ?_⟩ : _ ∧ _ ∧ _) <;> omega); have hkz := brz W6.heap.size W6; have hkw0 := hk; clear hN3 hN4 hN5 hN6 hk4 hk5 hk6)
    | (with_reducible refine qaz (by kernel_rfl) _ _ rfl B4 _ rfl _ _ hB4 _ c2 isAgg27 ?_)
    | (with_reducible refine qaz (by kernel_rfl) _ _ rfl B5 _ rfl _ _ hB5 _ e2 isAgg27 ?_)
    | (go_at_call 59; (with_reducible refine (hpl _ hk).mono ?_); rintro e w7 ⟨rfl, hb7⟩; replace hB3 := hB3.next hb7; replace hB4 := hB4.next hb7; replace hB5 := hB5.next hb7; replace hR := hR.next hb7; replace hkz := btz hkz hb7; replace hk := btz hk hb7; clear hb7)
    | (with_reducible refine qaz (by kernel_rfl) _ _ rfl B4 _ rfl _ _ hB4 _ c5 isAgg28 ?_))
   refine PgM.region_out (S := fun W => Below w7.heap.size w7 W) hmx ((brz _ _).drew) (fun hS => ?_)
   generalize w7.drew = v7 at hS ⊢
   refine quz (by kernel_rfl) (fun _ _ _ _ _ h => h) hS [(0, none), (1, some (.int .i64 o.quota)), (2, some (.agg G)), (3, some (.agg Cd))] (obs := [.load 3 B5 3 (.int .i64 o.quota), .load 68 B3 0 (.agg G), .load 43 B4 0 (.agg Cd)]) (n := 14) (by kernel_rfl) (by kernel_rfl) ⟨qhz (fun _ h => hB5.next h) e3 isAgg3, qHz (fun _ h => hB3.next h) underlying68 (by kernel_rfl) hzv, qHz (fun _ h => hB4.next h) underlying43 (by kernel_rfl) (qfz hzd), trivial⟩ ?_
   refine qoz (i := 4) (fuel := 13) (f := 39) (vs := [.agg G, .agg Cd]) (d := some 33) (by kernel_rfl) (by kernel_rfl) (by kernel_rfl) call39 (hrm _ (btz hk hS)) ?_
   rintro e v8 ⟨rfl, hb8⟩
   have hS8 : Below w7.heap.size w7 v8 := btz hS hb8
   refine ⟨_, rfl, hS8, ?_⟩
   by_cases q1 : rm < o.quota
   ·replace q1 : Hid (rm < o.quota) := q1
    refine qlz (by kernel_rfl) (fun _ _ _ _ _ h => h) hS8 [(5, some (.bool true)), (6, none), (7, none), (8, none), (9, none), (10, none), (11, none), (12, none), (13, none), (14, none), (15, none), (16, none), (17, none)] (l' := #[tt, tt, tt, tt, tt, tt, tt, tt, tt, tt, tt, tt, tt, tt, tt, tt, tt, tt]) (a' := { tmps := #[.agg G, .agg Cd, .agg Co, .pointer (some ⟨B3, 0, none⟩), .pointer (some ⟨B4, 0, none⟩), .pointer (some ⟨B5, 0, none⟩), .pointer (some ⟨R, 0, none⟩), .int .i64 0, .bool false, .pointer (some ⟨B4, 2, none⟩), .slice aD nD cD, .pointer (some ⟨B5, 2, none⟩), .slice aO nO cO, .bool true, .bool false, ud, ud, ud, undef, .bool (decide ((64 : Int) ≤ (nl : Int))), .pointer (some ⟨B4, 5, none⟩), .slice al nl cl, .int .i64 nl, .bool (decide ((64 : Int) ≤ (nl : Int))), ud, ud, ud, undef, .bool true, .pointer (some ⟨B5, 3, none⟩), .int .i64 o.quota, .agg G, .agg Cd, .int .i64 rm, .bool true, .bool true, ud, ud, ud, ud, ud, ud, ud, ud, undef, .bool true, ud, ud, ud, ud, ud, ud, ud, ud, ud, ud, ud, ud, ud, ud, ud, undef], defers := [] }) (obs := [.test .gtr 3 (.tmp 30) (.tmp 33) (.int .i64 o.quota) (.int .i64 rm) (.bool true)]) (n := 0) (by kernel_rfl) (by kernel_rfl) ⟨qFz (fun _ => qCz _ _ _ _ _ _) q1, trivial⟩ ?_
    refine wpAnyH_done (by kernel_rfl) ?_ _
    replace hB3 := hB3.next hS8
    replace hB4 := hB4.next hS8
    replace hB5 := hB5.next hS8
    replace hR := hR.next hS8
    replace hkz := btz hkz hS8
    replace hk := btz hk hS8
    clear hS8 hS hb8
    go_wp2_with (first
     | (with_reducible refine qdz (by kernel_rfl) 68 _ rfl B3 rfl G hB3 _ underlying68 (by kernel_rfl) hzv ?_)
     | (go_at_call 31; (with_reducible refine (hrf _ hk).mono ?_); rintro e w9 ⟨aX, nX, cX, rfl, oX, hb9⟩; have hR9 := hR.next hb9)
     | ((with_reducible refine qbz rfl _ _ _ rfl R rfl _ rfl zW hR9 (hz2 _) (hs2 _) (h12 aX nX cX) ?_); intro W9 hR10 q9))
    refine bodyPost_ret (qTz results32 rfl rfl hR10 rfl) rfl ?_
    have hE : ER = 5 := by rw [← hER.out]; unfold layE; rw [if_neg (by rw [hbp.out]; decide), if_neg (by rw [hln.out]; exact h64), if_pos (by rw [hrme.out]; exact .inl q1.out)]
    have hY : YR = X := by rw [← hYR.out]; unfold layX; rw [hER.out, hE]; rfl
    rw [hE, hY]
    exact ⟨aX, nX, cX, rfl, (ObsN.store oX q9 (ltz hsz.out.2.2.2.2 hkz.size) (fun b hb => by have := hD b hb; have := hsz.out.2.2.2.1; omega)).low hk.size, q9.below _ _ hsz.out.2.2.2.1 (btz hk hb9)⟩
   ·replace q1 : Hid (¬ rm < o.quota) := q1
    by_cases q2 : o.kind = 2
    ·replace q2 : Hid (o.kind = 2) := q2
     by_cases q3 : (0 : Int) < (nk : Int)
     ·replace q3 : Hid ((0 : Int) < (nk : Int)) := q3
      refine qlz (by kernel_rfl) (fun _ _ _ _ _ h => h) hS8 [(5, some (.bool false)), (6, none), (7, none), (8, some (.int .i64 o.kind)), (9, some (.bool true)), (10, none), (11, none), (12, some (.slice ak nk ck)), (13, some (.int .i64 nk)), (14, some (.bool true)), (15, none), (16, none), (17, none)] (l' := #[tt, tt, tt, tt, tt, tt, tt, tt, tt, tt, tt, tt, tt, tt, tt, tt, tt, tt]) (a' := { tmps := #[.agg G, .agg Cd, .agg Co, .pointer (some ⟨B3, 0, none⟩), .pointer (some ⟨B4, 0, none⟩), .pointer (some ⟨B5, 0, none⟩), .pointer (some ⟨R, 0, none⟩), .int .i64 0, .bool false, .pointer (some ⟨B4, 2, none⟩), .slice aD nD cD, .pointer (some ⟨B5, 2, none⟩), .slice aO nO cO, .bool true, .bool false, ud, ud, ud, undef, .bool (decide ((64 : Int) ≤ (nl : Int))), .pointer (some ⟨B4, 5, none⟩), .slice al nl cl, .int .i64 nl, .bool (decide ((64 : Int) ≤ (nl : Int))), ud, ud, ud, undef, .bool true, .pointer (some ⟨B5, 3, none⟩), .int .i64 o.quota, .agg G, .agg Cd, .int .i64 rm, .bool false, .bool false, .pointer (some ⟨B5, 1, none⟩), .int .i64 o.kind, .bool true, .bool true, .pointer (some ⟨B5, 5, none⟩), .slice ak nk ck, .int .i64 nk, .bool true, .bool true, .bool true, ud, ud, ud, ud, ud, ud, ud, ud, ud, ud, ud, ud, ud, ud, ud, undef], defers := [] }) (obs := [.test .gtr 3 (.tmp 30) (.tmp 33) (.int .i64 o.quota) (.int .i64 rm) (.bool false), .load 3 B5 1 (.int .i64 o.kind), .test .eql 3 (.tmp 37) (.const (.int .i64 2)) (.int .i64 o.kind) (.int .i64 2) (.bool true), .load 28 B5 5 (.slice ak nk ck), .ln 28 3 (.slice ak nk ck) (.int .i64 nk), .test .gtr 3 (.tmp 42) (.const (.int .i64 0)) (.int .i64 nk) (.int .i64 0) (.bool true)]) (n := 0) (by kernel_rfl) (by kernel_rfl) ⟨qWz (fun _ => qCz _ _ _ _ _ _) q1, qhz (fun _ h => hB5.next h) e1 isAgg3, qFz (fun _ => qsz _ _ _ _ _ _) q2, qhz (fun _ h => hB5.next h) e5 isAgg28, wAz, qFz (fun _ => qCz _ _ _ _ _ _) q3, trivial⟩ ?_
      refine wpAnyH_done (by kernel_rfl) ?_ _
      replace hB3 := hB3.next hS8
      replace hB4 := hB4.next hS8
      replace hB5 := hB5.next hS8
      replace hR := hR.next hS8
      replace hkz := btz hkz hS8
      replace hk := btz hk hS8
      clear hS8 hS hb8
      go_wp2_with (first
       | (with_reducible refine qdz (by kernel_rfl) 68 _ rfl B3 rfl G hB3 _ underlying68 (by kernel_rfl) hzv ?_)
       | (go_at_call 31; (with_reducible refine (hrf _ hk).mono ?_); rintro e w9 ⟨aX, nX, cX, rfl, oX, hb9⟩; have hR9 := hR.next hb9)
       | ((with_reducible refine qbz rfl _ _ _ rfl R rfl _ rfl zW hR9 (hz2 _) (hs2 _) (h12 aX nX cX) ?_); intro W9 hR10 q9))
      refine bodyPost_ret (qTz results32 rfl rfl hR10 rfl) rfl ?_
      have hE : ER = 5 := by rw [← hER.out]; unfold layE; rw [if_neg (by rw [hbp.out]; decide), if_neg (by rw [hln.out]; exact h64), if_pos (by exact .inr ⟨q2.out, by rw [hlo.out]; have := q3.out; omega⟩)]
      have hY : YR = X := by rw [← hYR.out]; unfold layX; rw [hER.out, hE]; rfl
      rw [hE, hY]
      exact ⟨aX, nX, cX, rfl, (ObsN.store oX q9 (ltz hsz.out.2.2.2.2 hkz.size) (fun b hb => by have := hD b hb; have := hsz.out.2.2.2.1; omega)).low hk.size, q9.below _ _ hsz.out.2.2.2.1 (btz hk hb9)⟩
     ·replace q3 : Hid (¬ (0 : Int) < (nk : Int)) := q3
      refine qlz (by kernel_rfl) (fun _ _ _ _ _ h => h) hS8 [(5, some (.bool false)), (6, none), (7, none), (8, some (.int .i64 o.kind)), (9, some (.bool true)), (10, none), (11, none), (12, some (.slice ak nk ck)), (13, some (.int .i64 nk)), (14, some (.bool false)), (15, none), (16, none), (17, none)] (l' := #[tt, tt, tt, tt, tt, tt, tt, tt, tt, tt, tt, tt, tt, tt, tt, tt, tt, tt]) (a' := { tmps := #[.agg G, .agg Cd, .agg Co, .pointer (some ⟨B3, 0, none⟩), .pointer (some ⟨B4, 0, none⟩), .pointer (some ⟨B5, 0, none⟩), .pointer (some ⟨R, 0, none⟩), .int .i64 0, .bool false, .pointer (some ⟨B4, 2, none⟩), .slice aD nD cD, .pointer (some ⟨B5, 2, none⟩), .slice aO nO cO, .bool true, .bool false, ud, ud, ud, undef, .bool (decide ((64 : Int) ≤ (nl : Int))), .pointer (some ⟨B4, 5, none⟩), .slice al nl cl, .int .i64 nl, .bool (decide ((64 : Int) ≤ (nl : Int))), ud, ud, ud, undef, .bool false, .pointer (some ⟨B5, 3, none⟩), .int .i64 o.quota, .agg G, .agg Cd, .int .i64 rm, .bool false, .bool false, .pointer (some ⟨B5, 1, none⟩), .int .i64 o.kind, .bool true, .bool true, .pointer (some ⟨B5, 5, none⟩), .slice ak nk ck, .int .i64 nk, .bool false, .bool false, .bool false, ud, ud, ud, ud, ud, ud, ud, ud, ud, ud, ud, ud, ud, ud, ud, undef], defers := [] }) (obs := [.test .gtr 3 (.tmp 30) (.tmp 33) (.int .i64 o.quota) (.int .i64 rm) (.bool false), .load 3 B5 1 (.int .i64 o.kind), .test .eql 3 (.tmp 37) (.const (.int .i64 2)) (.int .i64 o.kind) (.int .i64 2) (.bool true), .load 28 B5 5 (.slice ak nk ck), .ln 28 3 (.slice ak nk ck) (.int .i64 nk), .test .gtr 3 (.tmp 42) (.const (.int .i64 0)) (.int .i64 nk) (.int .i64 0) (.bool false)]) (n := 0) (by kernel_rfl) (by kernel_rfl) ⟨qWz (fun _ => qCz _ _ _ _ _ _) q1, qhz (fun _ h => hB5.next h) e1 isAgg3, qFz (fun _ => qsz _ _ _ _ _ _) q2, qhz (fun _ h => hB5.next h) e5 isAgg28, wAz, qWz (fun _ => qCz _ _ _ _ _ _) q3, trivial⟩ ?_
      refine wpAnyH_done (by kernel_rfl) ?_ _
      replace hB3 := hB3.next hS8
      replace hB4 := hB4.next hS8
      replace hB5 := hB5.next hS8
      replace hR := hR.next hS8
      replace hkz := btz hkz hS8
      replace hk := btz hk hS8
      clear hS8 hS hb8
      go_wp2_with (first
       | (with_reducible refine qaz (by kernel_rfl) _ _ rfl B4 _ rfl _ _ hB4 _ c5 isAgg28 ?_)
       | (with_reducible refine qaz (by kernel_rfl) _ _ rfl B5 _ rfl _ _ hB5 _ e0 isAgg22 ?_)
       | (go_at_call 60; (with_reducible refine (hli _ hk).mono ?_); rintro e w9 ⟨V, rfl, hown, hb9⟩; have hkV := hkz; replace hB3 := hB3.next hb9; replace hB4 := hB4.next hb9; replace hB5 := hB5.next hb9; replace hR := hR.next hb9; replace hkz := btz hkz hb9; replace hk := btz hk hb9; obtain ⟨aV, cV, rfl, hct⟩ := kbz hown)
       | ((with_reducible refine qjz rfl _ _ _ rfl B4 5 rfl (.slice aV (insW d.links o.id).length cV) rfl rfl Cd _ hB4 wHz (by rw [hzd]; omega) rfl ?_); intro W9 hB4n q9; replace hB3 := hB3.other q9 (Ne.symm hne.out.2.2); replace hB5 := hB5.other q9 (Ne.symm hne.out.2.1); replace hR := hR.other q9 (Ne.symm hne.out.1)))
      have hk9 : Below w.heap.size w W9 := q9.below _ _ hsz.out.2.2.1 hk
      have hkz9 : W6.heap.size ≤ W9.heap.size := by rw [q9.size]; exact hkz.size
      have hct9 : CtD (fun b => D0 b ∨ New W6 W9 b) W9 aV (insW d.links o.id).length cV (insW d.links o.id) := (hct.laterK fun b hb => q9.block b (by have := hb.1; have := hkV.size; have := hsz.out.2.1; omega)).wide fun b hb => .inr ⟨Nat.le_trans hkV.size hb.1, by rw [q9.size]; exact hb.2⟩
      have hd9 : ObD (fun b => D0 b ∨ New W6 W9 b) W9 (Cd.setIfInBounds 5 (.slice aV (insW d.links o.id).length cV)) { d with links := insW d.links o.id } := ((hd.laterK fun b hb => hk9.block b (hD b hb)).wide fun b hb => .inl hb).set5 ⟨aV, _, cV, rfl, hct9⟩ rfl
      have hzn : (Cd.setIfInBounds 5 (.slice aV (insW d.links o.id).length cV)).size = 51 := hd9.size
      have hln2 : (insW d.links o.id).length = nl + 1 := by rw [← hln.out]; unfold insW; have := bIz d.links o.id; simp; omega
      have hds2 : Small { d with links := insW d.links o.id } := kwz hds (by rw [hln2]; omega)
      obtain ⟨Cn, hCn⟩ : ∃ Cn, Hid (Cd.setIfInBounds 5 (.slice aV (insW d.links o.id).length cV) = Cn) := ⟨_, rfl⟩
      rw [hCn.out] at hd9 hzn hB4n
      generalize (insW d.links o.id).length = nn at *
      have hS : Below W9.heap.size W9 W9.drew := (brz _ _).drew
      refine PgM.region_out (S := fun W => Blk W B3 G 68 ∧ Blk W B4 Cn 43 ∧ Blk W B5 Co 43) hmx ⟨hB3.next hS, hB4n.next hS, hB5.next hS⟩ (fun hT => ?_)
      generalize W9.drew = v9 at hS hT ⊢
      refine qlz (by kernel_rfl) (fun _ _ _ _ _ h => h) hT [(0, none), (1, some (.agg G)), (2, some (.agg Co)), (4, some (.agg Cn))] (l' := #[tt, tt, tt, ff, tt, ff, ff, ff]) (a' := { tmps := #[.agg G, .agg Cd, .agg Co, .pointer (some ⟨B3, 0, none⟩), .pointer (some ⟨B4, 0, none⟩), .pointer (some ⟨B5, 0, none⟩), .pointer (some ⟨R, 0, none⟩), .int .i64 0, .bool false, .pointer (some ⟨B4, 2, none⟩), .slice aD nD cD, .pointer (some ⟨B5, 2, none⟩), .slice aO nO cO, .bool true, .bool false, ud, ud, ud, undef, .bool (decide ((64 : Int) ≤ (nl : Int))), .pointer (some ⟨B4, 5, none⟩), .slice al nl cl, .int .i64 nl, .bool (decide ((64 : Int) ≤ (nl : Int))), ud, ud, ud, undef, .bool false, .pointer (some ⟨B5, 3, none⟩), .int .i64 o.quota, .agg G, .agg Cd, .int .i64 rm, .bool false, .bool false, .pointer (some ⟨B5, 1, none⟩), .int .i64 o.kind, .bool true, .bool true, .pointer (some ⟨B5, 5, none⟩), .slice ak nk ck, .int .i64 nk, .bool false, .bool false, .bool false, ud, ud, ud, undef, .pointer (some ⟨B4, 5, none⟩), .slice al nl cl, .pointer (some ⟨B5, 0, none⟩), .int .u64 o.id, .slice aV nn cV, .pointer (some ⟨B4, 5, none⟩), .pointer (some ⟨B3, 0, none⟩), .agg G, .agg Co, undef, .agg Cn, undef], defers := [] }) (obs := [.load 25 B3 0 (.agg G), .load 43 B5 0 (.agg Co), .load 43 B4 0 (.agg Cn)]) (n := 4) (by kernel_rfl) (by kernel_rfl) ⟨j5z (fun _ h => h.1) hV hG4, qHz (fun _ h => h.2.2) underlying43 (by kernel_rfl) (qfz hzo), qHz (fun _ h => h.2.1) underlying43 (by kernel_rfl) (qfz hzn), trivial⟩ ?_
      have hDv : ∀ b, (D0 b ∨ New W6 W9 b) → b < v9.heap.size := fun b hb => by rcases hb with c | c; exact ltz (hD b c) (Nat.le_trans hk9.size hS.size); exact ltz c.2 hS.size
      refine qoz (i := 3) (fuel := 3) (f := 38) (vs := [.agg G, .agg Co]) (d := some 59) (by kernel_rfl) (by kernel_rfl) (by kernel_rfl) call38 (hpu (D1 := fun b => D0 b ∨ New W6 W9 b) hDv (fun _ hb => .inl hb) (btz hk9 hS)) ?_
      rintro e vX ⟨aX, nX, cX, rfl, oX, hbX⟩
      have hSX : Below W9.heap.size W9 vX := btz hS hbX
      have hTX : Blk vX B3 G 68 ∧ Blk vX B4 Cn 43 ∧ Blk vX B5 Co 43 := ⟨hB3.next hSX, hB4n.next hSX, hB5.next hSX⟩
      refine ⟨_, rfl, hTX, ?_⟩
      have oX2 : ObsD (LtN vX) (fun b => D0 b ∨ New W6 vX b) vX aX nX cX (puR X o) := ObsD.wide oX (fun b hb => by rcases hb with (c | c) | c; exact .inl c; exact .inr ⟨c.1, ltz c.2 hSX.size⟩; exact .inr ⟨Nat.le_trans hkz9 (Nat.le_trans hS.size c.1), c.2⟩) (fun b hb => hb.2)
      have hdX : ObD (fun b => D0 b ∨ New W6 vX b) vX Cn { d with links := insW d.links o.id } := (hd9.laterK fun b hb => hSX.block b (by rcases hb with c | c; exact ltz (hD b c) hk9.size; exact c.2)).wide fun b hb => hb.imp id fun c => ⟨c.1, ltz c.2 hSX.size⟩
      have hDX : ∀ b, (D0 b ∨ New W6 vX b) → b < vX.heap.size := fun b hb => by rcases hb with c | c; exact ltz (hD b c) (Nat.le_trans hk9.size hSX.size); exact c.2
      refine qoz (i := 5) (fuel := 2) (f := 38) (vs := [.agg #[.int .i64 t, .int .u64 ke, .int .u64 ro, .slice aX nX cX], .agg Cn]) (d := some 61) (by kernel_rfl) (by kernel_rfl) (by kernel_rfl) call38 (hpv hDX oX2 hdX hds2) ?_
      rintro e vY ⟨aY, nY, cY, rfl, oY, hbY⟩
      have hSY : Below W9.heap.size W9 vY := btz hSX hbY
      have hTY : Blk vY B3 G 68 ∧ Blk vY B4 Cn 43 ∧ Blk vY B5 Co 43 := ⟨hB3.next hSY, hB4n.next hSY, hB5.next hSY⟩
      refine ⟨_, rfl, hTY, ?_⟩
      have oY2 : ObsN W6 D0 vY aY nY cY (puR (puR X o) { d with links := insW d.links o.id }) := ObsD.wide oY (fun b hb => by rcases hb with (c | c) | c; exact .inl c; exact .inr ⟨c.1, ltz c.2 hbY.size⟩; exact .inr ⟨Nat.le_trans hkz9 (Nat.le_trans hSX.size c.1), c.2⟩) (fun b hb => ⟨Nat.le_trans hkz9 (Nat.le_trans hSX.size hb.1), hb.2⟩)
      obtain ⟨wZ, hst, hRz, qZ⟩ := wpz (hR.next hSY) (hz2 (.slice aY nY cY)) (hs2 _) (h12 aY nY cY)
      refine qBz (i := 6) (n := 1) rfl (by kernel_rfl) ?_
      refine wtz (ty := 25) (B := R) (off := 0) (v := .agg #[.int .i64 t, .int .u64 ke, .int .u64 ro, .slice aY nY cY]) (d := none) (by kernel_rfl) hst ?_
      have hSZ : Below w.heap.size w wZ := qZ.below _ _ hsz.out.2.2.2.1 (btz hk9 hSY)
      have hRR : Oth R vY wZ := qZ
      have hTZ : Blk wZ B3 G 68 ∧ Blk wZ B4 Cn 43 ∧ Blk wZ B5 Co 43 := ⟨hTY.1.other qZ hnR.out.1, hTY.2.1.other qZ hnR.out.2.1, hTY.2.2.other qZ hnR.out.2.2⟩
      refine ⟨hTZ, ?_⟩
      refine qlz (by kernel_rfl) (fun _ _ _ _ _ h => h) hTZ [(7, none)] (l' := #[tt, tt, tt, tt, tt, tt, tt, tt]) (a' := { tmps := #[.agg G, .agg Cd, .agg Co, .pointer (some ⟨B3, 0, none⟩), .pointer (some ⟨B4, 0, none⟩), .pointer (some ⟨B5, 0, none⟩), .pointer (some ⟨R, 0, none⟩), .int .i64 0, .bool false, .pointer (some ⟨B4, 2, none⟩), .slice aD nD cD, .pointer (some ⟨B5, 2, none⟩), .slice aO nO cO, .bool true, .bool false, ud, ud, ud, undef, .bool (decide ((64 : Int) ≤ (nl : Int))), .pointer (some ⟨B4, 5, none⟩), .slice al nl cl, .int .i64 nl, .bool (decide ((64 : Int) ≤ (nl : Int))), ud, ud, ud, undef, .bool false, .pointer (some ⟨B5, 3, none⟩), .int .i64 o.quota, .agg G, .agg Cd, .int .i64 rm, .bool false, .bool false, .pointer (some ⟨B5, 1, none⟩), .int .i64 o.kind, .bool true, .bool true, .pointer (some ⟨B5, 5, none⟩), .slice ak nk ck, .int .i64 nk, .bool false, .bool false, .bool false, ud, ud, ud, undef, .pointer (some ⟨B4, 5, none⟩), .slice al nl cl, .pointer (some ⟨B5, 0, none⟩), .int .u64 o.id, .slice aV nn cV, .pointer (some ⟨B4, 5, none⟩), .pointer (some ⟨B3, 0, none⟩), .agg G, .agg Co, .agg #[.int .i64 t, .int .u64 ke, .int .u64 ro, .slice aX nX cX], .agg Cn, .agg #[.int .i64 t, .int .u64 ke, .int .u64 ro, .slice aY nY cY]], defers := [] }) (obs := []) (n := 0) (by kernel_rfl) (by kernel_rfl) trivial ?_
      refine wpAnyH_done (by kernel_rfl) ?_ _
      go_wp2
      refine bodyPost_ret (qTz results32 rfl rfl hRz rfl) rfl ?_
      have hE : ER = 0 := by rw [← hER.out]; unfold layE; rw [if_neg (by rw [hbp.out]; decide), if_neg (by rw [hln.out]; exact h64), if_neg (by rw [hrme.out, hlo.out]; have := q1.out; have := q3.out; omega)]
      have hY : YR = puR (puR X o) { d with links := insW d.links o.id } := by rw [← hYR.out]; unfold layX; rw [hER.out, hE]; rfl
      rw [hE, hY]
      exact ⟨aY, nY, cY, rfl, (ObsN.store oY2 qZ hsz.out.2.2.2.2 (fun b hb => by have := hD b hb; have := hsz.out.2.2.2.1; omega)).low hkw0.size, hSZ⟩
    ·replace q2 : Hid (¬ o.kind = 2) := q2
     refine qlz (by kernel_rfl) (fun _ _ _ _ _ h => h) hS8 [(5, some (.bool false)), (6, none), (7, none), (8, some (.int .i64 o.kind)), (9, some (.bool false)), (10, none), (11, none), (12, none), (13, none), (14, none), (15, none), (16, none), (17, none)] (l' := #[tt, tt, tt, tt, tt, tt, tt, tt, tt, tt, tt, tt, tt, tt, tt, tt, tt, tt]) (a' := { tmps := #[.agg G, .agg Cd, .agg Co, .pointer (some ⟨B3, 0, none⟩), .pointer (some ⟨B4, 0, none⟩), .pointer (some ⟨B5, 0, none⟩), .pointer (some ⟨R, 0, none⟩), .int .i64 0, .bool false, .pointer (some ⟨B4, 2, none⟩), .slice aD nD cD, .pointer (some ⟨B5, 2, none⟩), .slice aO nO cO, .bool true, .bool false, ud, ud, ud, undef, .bool (decide ((64 : Int) ≤ (nl : Int))), .pointer (some ⟨B4, 5, none⟩), .slice al nl cl, .int .i64 nl, .bool (decide ((64 : Int) ≤ (nl : Int))), ud, ud, ud, undef, .bool false, .pointer (some ⟨B5, 3, none⟩), .int .i64 o.quota, .agg G, .agg Cd, .int .i64 rm, .bool false, .bool false, .pointer (some ⟨B5, 1, none⟩), .int .i64 o.kind, .bool false, .bool false, ud, ud, ud, undef, .bool false, .bool false, ud, ud, ud, ud, ud, ud, ud, ud, ud, ud, ud, ud, ud, ud, ud, undef], defers := [] }) (obs := [.test .gtr 3 (.tmp 30) (.tmp 33) (.int .i64 o.quota) (.int .i64 rm) (.bool false), .load 3 B5 1 (.int .i64 o.kind), .test .eql 3 (.tmp 37) (.const (.int .i64 2)) (.int .i64 o.kind) (.int .i64 2) (.bool false)]) (n := 0) (by kernel_rfl) (by kernel_rfl) ⟨qWz (fun _ => qCz _ _ _ _ _ _) q1, qhz (fun _ h => hB5.next h) e1 isAgg3, qWz (fun _ => qsz _ _ _ _ _ _) q2, trivial⟩ ?_
     refine wpAnyH_done (by kernel_rfl) ?_ _
     replace hB3 := hB3.next hS8
     replace hB4 := hB4.next hS8
     replace hB5 := hB5.next hS8
     replace hR := hR.next hS8
     replace hkz := btz hkz hS8
     replace hk := btz hk hS8
     clear hS8 hS hb8
     go_wp2_with (first
      | (with_reducible refine qaz (by kernel_rfl) _ _ rfl B4 _ rfl _ _ hB4 _ c5 isAgg28 ?_)
      | (with_reducible refine qaz (by kernel_rfl) _ _ rfl B5 _ rfl _ _ hB5 _ e0 isAgg22 ?_)
      | (go_at_call 60; (with_reducible refine (hli _ hk).mono ?_); rintro e w9 ⟨V, rfl, hown, hb9⟩; have hkV := hkz; replace hB3 := hB3.next hb9; replace hB4 := hB4.next hb9; replace hB5 := hB5.next hb9; replace hR := hR.next hb9; replace hkz := btz hkz hb9; replace hk := btz hk hb9; obtain ⟨aV, cV, rfl, hct⟩ := kbz hown)
      | ((with_reducible refine qjz rfl _ _ _ rfl B4 5 rfl (.slice aV (insW d.links o.id).length cV) rfl rfl Cd _ hB4 wHz (by rw [hzd]; omega) rfl ?_); intro W9 hB4n q9; replace hB3 := hB3.other q9 (Ne.symm hne.out.2.2); replace hB5 := hB5.other q9 (Ne.symm hne.out.2.1); replace hR := hR.other q9 (Ne.symm hne.out.1)))
     have hk9 : Below w.heap.size w W9 := q9.below _ _ hsz.out.2.2.1 hk
     have hkz9 : W6.heap.size ≤ W9.heap.size := by rw [q9.size]; exact hkz.size
     have hct9 : CtD (fun b => D0 b ∨ New W6 W9 b) W9 aV (insW d.links o.id).length cV (insW d.links o.id) := (hct.laterK fun b hb => q9.block b (by have := hb.1; have := hkV.size; have := hsz.out.2.1; omega)).wide fun b hb => .inr ⟨Nat.le_trans hkV.size hb.1, by rw [q9.size]; exact hb.2⟩
     have hd9 : ObD (fun b => D0 b ∨ New W6 W9 b) W9 (Cd.setIfInBounds 5 (.slice aV (insW d.links o.id).length cV)) { d with links := insW d.links o.id } := ((hd.laterK fun b hb => hk9.block b (hD b hb)).wide fun b hb => .inl hb).set5 ⟨aV, _, cV, rfl, hct9⟩ rfl
     have hzn : (Cd.setIfInBounds 5 (.slice aV (insW d.links o.id).length cV)).size = 51 := hd9.size
     have hln2 : (insW d.links o.id).length = nl + 1 := by rw [← hln.out]; unfold insW; have := bIz d.links o.id; simp; omega
     have hds2 : Small { d with links := insW d.links o.id } := kwz hds (by rw [hln2]; omega)
     obtain ⟨Cn, hCn⟩ : ∃ Cn, Hid (Cd.setIfInBounds 5 (.slice aV (insW d.links o.id).length cV) = Cn) := ⟨_, rfl⟩
     rw [hCn.out] at hd9 hzn hB4n
     generalize (insW d.links o.id).length = nn at *
     have hS : Below W9.heap.size W9 W9.drew := (brz _ _).drew
     refine PgM.region_out (S := fun W => Blk W B3 G 68 ∧ Blk W B4 Cn 43 ∧ Blk W B5 Co 43) hmx ⟨hB3.next hS, hB4n.next hS, hB5.next hS⟩ (fun hT => ?_)
     generalize W9.drew = v9 at hS hT ⊢
     refine qlz (by kernel_rfl) (fun _ _ _ _ _ h => h) hT [(0, none), (1, some (.agg G)), (2, some (.agg Co)), (4, some (.agg Cn))] (l' := #[tt, tt, tt, ff, tt, ff, ff, ff]) (a' := { tmps := #[.agg G, .agg Cd, .agg Co, .pointer (some ⟨B3, 0, none⟩), .pointer (some ⟨B4, 0, none⟩), .pointer (some ⟨B5, 0, none⟩), .pointer (some ⟨R, 0, none⟩), .int .i64 0, .bool false, .pointer (some ⟨B4, 2, none⟩), .slice aD nD cD, .pointer (some ⟨B5, 2, none⟩), .slice aO nO cO, .bool true, .bool false, ud, ud, ud, undef, .bool (decide ((64 : Int) ≤ (nl : Int))), .pointer (some ⟨B4, 5, none⟩), .slice al nl cl, .int .i64 nl, .bool (decide ((64 : Int) ≤ (nl : Int))), ud, ud, ud, undef, .bool false, .pointer (some ⟨B5, 3, none⟩), .int .i64 o.quota, .agg G, .agg Cd, .int .i64 rm, .bool false, .bool false, .pointer (some ⟨B5, 1, none⟩), .int .i64 o.kind, .bool false, .bool false, ud, ud, ud, undef, .bool false, .bool false, ud, ud, ud, undef, .pointer (some ⟨B4, 5, none⟩), .slice al nl cl, .pointer (some ⟨B5, 0, none⟩), .int .u64 o.id, .slice aV nn cV, .pointer (some ⟨B4, 5, none⟩), .pointer (some ⟨B3, 0, none⟩), .agg G, .agg Co, undef, .agg Cn, undef], defers := [] }) (obs := [.load 25 B3 0 (.agg G), .load 43 B5 0 (.agg Co), .load 43 B4 0 (.agg Cn)]) (n := 4) (by kernel_rfl) (by kernel_rfl) ⟨j5z (fun _ h => h.1) hV hG4, qHz (fun _ h => h.2.2) underlying43 (by kernel_rfl) (qfz hzo), qHz (fun _ h => h.2.1) underlying43 (by kernel_rfl) (qfz hzn), trivial⟩ ?_
     have hDv : ∀ b, (D0 b ∨ New W6 W9 b) → b < v9.heap.size := fun b hb => by rcases hb with c | c; exact ltz (hD b c) (Nat.le_trans hk9.size hS.size); exact ltz c.2 hS.size
     refine qoz (i := 3) (fuel := 3) (f := 38) (vs := [.agg G, .agg Co]) (d := some 59) (by kernel_rfl) (by kernel_rfl) (by kernel_rfl) call38 (hpu (D1 := fun b => D0 b ∨ New W6 W9 b) hDv (fun _ hb => .inl hb) (btz hk9 hS)) ?_
     rintro e vX ⟨aX, nX, cX, rfl, oX, hbX⟩
     have hSX : Below W9.heap.size W9 vX := btz hS hbX
     have hTX : Blk vX B3 G 68 ∧ Blk vX B4 Cn 43 ∧ Blk vX B5 Co 43 := ⟨hB3.next hSX, hB4n.next hSX, hB5.next hSX⟩
     refine ⟨_, rfl, hTX, ?_⟩
     have oX2 : ObsD (LtN vX) (fun b => D0 b ∨ New W6 vX b) vX aX nX cX (puR X o) := ObsD.wide oX (fun b hb => by rcases hb with (c | c) | c; exact .inl c; exact .inr ⟨c.1, ltz c.2 hSX.size⟩; exact .inr ⟨Nat.le_trans hkz9 (Nat.le_trans hS.size c.1), c.2⟩) (fun b hb => hb.2)
     have hdX : ObD (fun b => D0 b ∨ New W6 vX b) vX Cn { d with links := insW d.links o.id } := (hd9.laterK fun b hb => hSX.block b (by rcases hb with c | c; exact ltz (hD b c) hk9.size; exact c.2)).wide fun b hb => hb.imp id fun c => ⟨c.1, ltz c.2 hSX.size⟩
     have hDX : ∀ b, (D0 b ∨ New W6 vX b) → b < vX.heap.size := fun b hb => by rcases hb with c | c; exact ltz (hD b c) (Nat.le_trans hk9.size hSX.size); exact c.2
     refine qoz (i := 5) (fuel := 2) (f := 38) (vs := [.agg #[.int .i64 t, .int .u64 ke, .int .u64 ro, .slice aX nX cX], .agg Cn]) (d := some 61) (by kernel_rfl) (by kernel_rfl) (by kernel_rfl) call38 (hpv hDX oX2 hdX hds2) ?_
     rintro e vY ⟨aY, nY, cY, rfl, oY, hbY⟩
     have hSY : Below W9.heap.size W9 vY := btz hSX hbY
     have hTY : Blk vY B3 G 68 ∧ Blk vY B4 Cn 43 ∧ Blk vY B5 Co 43 := ⟨hB3.next hSY, hB4n.next hSY, hB5.next hSY⟩
     refine ⟨_, rfl, hTY, ?_⟩
     have oY2 : ObsN W6 D0 vY aY nY cY (puR (puR X o) { d with links := insW d.links o.id }) := ObsD.wide oY (fun b hb => by rcases hb with (c | c) | c; exact .inl c; exact .inr ⟨c.1, ltz c.2 hbY.size⟩; exact .inr ⟨Nat.le_trans hkz9 (Nat.le_trans hSX.size c.1), c.2⟩) (fun b hb => ⟨Nat.le_trans hkz9 (Nat.le_trans hSX.size hb.1), hb.2⟩)
     obtain ⟨wZ, hst, hRz, qZ⟩ := wpz (hR.next hSY) (hz2 (.slice aY nY cY)) (hs2 _) (h12 aY nY cY)
     refine qBz (i := 6) (n := 1) rfl (by kernel_rfl) ?_
     refine wtz (ty := 25) (B := R) (off := 0) (v := .agg #[.int .i64 t, .int .u64 ke, .int .u64 ro, .slice aY nY cY]) (d := none) (by kernel_rfl) hst ?_
     have hSZ : Below w.heap.size w wZ := qZ.below _ _ hsz.out.2.2.2.1 (btz hk9 hSY)
     have hRR : Oth R vY wZ := qZ
     have hTZ : Blk wZ B3 G 68 ∧ Blk wZ B4 Cn 43 ∧ Blk wZ B5 Co 43 := ⟨hTY.1.other qZ hnR.out.1, hTY.2.1.other qZ hnR.out.2.1, hTY.2.2.other qZ hnR.out.2.2⟩
     refine ⟨hTZ, ?_⟩
     refine qlz (by kernel_rfl) (fun _ _ _ _ _ h => h) hTZ [(7, none)] (l' := #[tt, tt, tt, tt, tt, tt, tt, tt]) (a' := { tmps := #[.agg G, .agg Cd, .agg Co, .pointer (some ⟨B3, 0, none⟩), .pointer (some ⟨B4, 0, none⟩), .pointer (some ⟨B5, 0, none⟩), .pointer (some ⟨R, 0, none⟩), .int .i64 0, .bool false, .pointer (some ⟨B4, 2, none⟩), .slice aD nD cD, .pointer (some ⟨B5, 2, none⟩), .slice aO nO cO, .bool true, .bool false, ud, ud, ud, undef, .bool (decide ((64 : Int) ≤ (nl : Int))), .pointer (some ⟨B4, 5, none⟩), .slice al nl cl, .int .i64 nl, .bool (decide ((64 : Int) ≤ (nl : Int))), ud, ud, ud, undef, .bool false, .pointer (some ⟨B5, 3, none⟩), .int .i64 o.quota, .agg G, .agg Cd, .int .i64 rm, .bool false, .bool false, .pointer (some ⟨B5, 1, none⟩), .int .i64 o.kind, .bool false, .bool false, ud, ud, ud, undef, .bool false, .bool false, ud, ud, ud, undef, .pointer (some ⟨B4, 5, none⟩), .slice al nl cl, .pointer (some ⟨B5, 0, none⟩), .int .u64 o.id, .slice aV nn cV, .pointer (some ⟨B4, 5, none⟩), .pointer (some ⟨B3, 0, none⟩), .agg G, .agg Co, .agg #[.int .i64 t, .int .u64 ke, .int .u64 ro, .slice aX nX cX], .agg Cn, .agg #[.int .i64 t, .int .u64 ke, .int .u64 ro, .slice aY nY cY]], defers := [] }) (obs := []) (n := 0) (by kernel_rfl) (by kernel_rfl) trivial ?_
     refine wpAnyH_done (by kernel_rfl) ?_ _
     go_wp2
     refine bodyPost_ret (qTz results32 rfl rfl hRz rfl) rfl ?_
     have hE : ER = 0 := by rw [← hER.out]; unfold layE; rw [if_neg (by rw [hbp.out]; decide), if_neg (by rw [hln.out]; exact h64), if_neg (by rw [hrme.out]; have := q1.out; have := q2.out; omega)]
     have hY : YR = puR (puR X o) { d with links := insW d.links o.id } := by rw [← hYR.out]; unfold layX; rw [hER.out, hE]; rfl
     rw [hE, hY]
     exact ⟨aY, nY, cY, rfl, (ObsN.store oY2 qZ hsz.out.2.2.2.2 (fun b hb => by have := hD b hb; have := hsz.out.2.2.2.1; omega)).low hkw0.size, hSZ⟩
def attE (X : List Ob) (i : Int) (o : Ob) : Int := if (fnd X i).isSome = false then 1 else if (fO X i).kind ≠ 2 then 3 else if (fnd X o.id).isSome = true then 12 else layE X (fO X i) o
def attX (X : List Ob) (i : Int) (o : Ob) : List Ob := if (fnd X i).isSome = false then X else if (fO X i).kind ≠ 2 then X else if (fnd X o.id).isSome = true then X else layX X (fO X i) o
theorem vtz {w w' : World} (h : ObsF (LtN w) D0 w ao n cap X Cf) (hD : ∀ b, D0 b → b < w.heap.size) (k : Below w.heap.size w w') : ObsF (LtN w') D0 w' ao n cap X Cf :=
 (h.laterK (fun b hb => k.block b (hD b hb)) (fun b hb => k.block b hb)).wide (fun _ hb => hb) (fun b hb => ltz hb k.size)
structure Lays (X : List Ob) : Prop where
 srt : Srt X
 sms : wez X
 nul : fnd X 0 = none
 quo : ∀ x ∈ X, 0 ≤ x.quota ∧ x.quota ≤ 4096
 lab : ∀ x ∈ X, x.label.length < 1048576
 ris : ∀ x ∈ X, x.links.Pairwise (· < ·) ∧ x.links.length ≤ 4000
theorem Lays.at (h : Lays X) (i : Int) : Small (fO X i) ∧ (0 ≤ (fO X i).quota ∧ (fO X i).quota ≤ 4096) ∧ (fO X i).label.length < 1048576 ∧ ((fO X i).links.Pairwise (· < ·) ∧ (fO X i).links.length ≤ 4000) := by
 unfold fO
 cases hf : fnd X i with
 | none => exact ⟨⟨by decide, by decide, by decide, by decide, by decide, by decide, by decide, by decide, by decide, by decide, by decide, by decide, by decide, by decide⟩, by decide, by decide, List.Pairwise.nil, by decide⟩
 | some x => exact ⟨h.sms x (wsz hf).2, h.quo x (wsz hf).2, h.lab x (wsz hf).2, h.ris x (wsz hf).2⟩
variable {o : Ob}
theorem jWz {t ke ro i : Int} {Co : Array Value} (hD : ∀ b, D0 b → b < w.heap.size) (h : ObsF (LtN w) D0 w ao n cap X Cf) (hL : Lays X) (hn16 : n < 1022) (ho : ObD D0 w Co o) (hos : Small o) (hol : o.label.length < 1048576) :
  Calls prog 8 #[.agg #[.int .i64 t, .int .u64 ke, .int .u64 ro, .slice ao n cap], .int .u64 i, .agg Co] w fun e w' => ∃ ao2 n2 cap2, e = .returned (.tuple #[.agg #[.int .i64 t, .int .u64 ke, .int .u64 ro, .slice ao2 n2 cap2], .int .i64 (attE X i o)]) ∧ ObsN w D0 w' ao2 n2 cap2 (attX X i o) ∧ Below w.heap.size w w' := by
 have hO : ObsD (LtN w) D0 w ao n cap X := h.obs
 have hF : ObsF (LtN w) (LtN w) w ao n cap X Cf := h.wide hD (fun _ hb => hb)
 have hzw : (prog.info? 25).map (·.size) = some (#[.int .i64 t, .int .u64 ke, .int .u64 ro, .slice ao n cap] : Array Value).size := by kernel_rfl
 have hzv : (prog.info? 68).map (·.size) = some (#[.int .i64 t, .int .u64 ke, .int .u64 ro, .slice ao n cap] : Array Value).size := by kernel_rfl
 have hbt : prog.built 68 [(0, .agg #[.int .i64 t, .int .u64 ke, .int .u64 ro, .slice ao n cap])] = some #[.int .i64 t, .int .u64 ke, .int .u64 ro, .slice ao n cap] := by kernel_rfl
 have hz4 : (#[.int .i64 0, .int .u64 0, .int .u64 0, .slice none 0 0] : Array Value).size = (#[.int .i64 t, .int .u64 ke, .int .u64 ro, .slice ao n cap] : Array Value).size := rfl
 have h14 : (#[.int .i64 t, .int .u64 ke, .int .u64 ro, .slice ao n cap] : Array Value).all (·.oneCell') = true := by simp [Value.oneCell']
 have hz2 : ∀ v, (prog.info? 25).map (·.size) = some (#[.int .i64 t, .int .u64 ke, .int .u64 ro, v] : Array Value).size := fun _ => wnz
 have hs2 : ∀ v, zW.size = (#[.int .i64 t, .int .u64 ke, .int .u64 ro, v] : Array Value).size := fun _ => rfl
 have h12 : ∀ ao n cap, (#[.int .i64 t, .int .u64 ke, .int .u64 ro, .slice ao n cap] : Array Value).all (·.oneCell') = true := fun _ _ _ => by kernel_rfl
 have hrf := fun {er : Int} (W : World) (hk : Below w.heap.size w W) => w7z (t := t) (ke := ke) (ro := ro) (er := er) (D0 := D0) (fun b hb => ltz (hD b hb) hk.size) (qZz hO hD hk) hL.srt (by omega) hL.sms hL.nul
 have hf1 := fun (W : World) (hk : Below w.heap.size w W) => xLz (t := t) (ke := ke) (ro := ro) (i := i) (hF.next hk) hL.srt (by omega)
 have hf2 := fun (W : World) (hk : Below w.heap.size w W) => xLz (t := t) (ke := ke) (ro := ro) (i := o.id) (hF.next hk) hL.srt (by omega)
 have hdo := vHz h hL.srt i
 have hdo2 := vHz h hL.srt o.id
 have hla := fun (W : World) (hk : Below w.heap.size w W) => u1z (t := t) (ke := ke) (ro := ro) (D0 := D0) (fun b hb => ltz (hD b hb) hk.size) (vtz h hD hk) hL.srt hn16 hL.sms hL.nul hL.quo (hdo.laterK fun b hb => hk.block b (hD b hb)) (hL.at i).1 (hL.at i).2.1 (hL.at i).2.2.1 (hL.at i).2.2.2.1 (hL.at i).2.2.2.2 (ho.laterK fun b hb => hk.block b (hD b hb)) hos hol
 have hz1 := hdo.size
 have h1c := hdo.one
 have d1 := hdo.kind
 have hz3 := hdo2.size
 have h3c := hdo2.one
 have hzo := ho.size
 have e0 := ho.id
 obtain ⟨ER, hER⟩ : ∃ ER, Hid (attE X i o = ER) := ⟨_, rfl⟩
 obtain ⟨YR, hYR⟩ : ∃ YR, Hid (attX X i o = YR) := ⟨_, rfl⟩
 rw [hER.out, hYR.out]
 generalize fC X Cf i = C1 at hf1 hz1 h1c d1 hla
 generalize fC X Cf o.id = C2 at hf2 hz3 h3c
 clear hdo hdo2
 obtain ⟨LE, hLE⟩ : ∃ LE, Hid (layE X (fO X i) o = LE) := ⟨_, rfl⟩
 obtain ⟨LX, hLX⟩ : ∃ LX, Hid (layX X (fO X i) o = LX) := ⟨_, rfl⟩
 simp only [hLE.out, hLX.out] at hla
 obtain ⟨kd, hkd⟩ : ∃ kd, Hid ((fO X i).kind = kd) := ⟨_, rfl⟩
 rw [hkd.out] at d1
 obtain ⟨G, hG⟩ : ∃ G : Array Value, G = #[.int .i64 t, .int .u64 ke, .int .u64 ro, .slice ao n cap] := ⟨_, rfl⟩
 simp only [← hG] at hrf hf1 hf2 hla
 rw [← hG] at hzw hzv hbt hz4 h14
 rw [← hG]
 clear hG
 cases hb1 : (fnd X i).isSome
 rw [hb1] at hf1
 generalize (fnd X o.id).isSome = b2 at hf2
 rotate_left
 rw [hb1] at hf1
 by_cases k2 : kd = 2
 subst k2
 cases hb2 : (fnd X o.id).isSome
 rw [hb2] at hf2
 rotate_left
 rw [hb2] at hf2
 rotate_left
 have k2b : (kd == 2) = false := by simpa using k2
 generalize (fnd X o.id).isSome = b2 at hf2
 rotate_left
 all_goals go_enter func8, ntmps8
 all_goals go_wp2_with (first
  | (with_reducible refine qcz rfl 25 _ rfl G rfl ?_; intro B3 W3 hN3 hB3 hk)
  | (with_reducible refine qcz rfl 43 _ rfl Co rfl ?_; intro B5 W5 hN5 hB5 hk5; replace hB3 := hB3.next hk5; replace hk := btz hk hk5)
  | ((with_reducible refine qgz rfl 25 rfl zW wlz ?_); intro R W6 hN6 hR hk6; have hRw : Hid (w.heap.size ≤ R) := (by have := hN6.out; have := hk.size; refine (?_ : w.heap.size ≤ R); omega); replace hB3 := hB3.next hk6; replace hB5 := hB5.next hk6; replace hk := btz hk hk6; clear hN3 hN5 hN6)
  | (with_reducible refine qdz (by kernel_rfl) 25 _ rfl B3 rfl G hB3 _ underlying25 (by kernel_rfl) hzw ?_)
  | ((with_reducible refine qRz (by kernel_rfl) _ [(0, .tmp 13)] rfl G ?hf ?_); (case hf => exact hbt))
  | ((with_reducible refine qgz rfl 68 rfl #[.int .i64 0, .int .u64 0, .int .u64 0, .slice none 0 0] Tryz.zeroValue68 ?_); intro B8 W8 hN8 hR8 hk8)
  | ((with_reducible refine qbz rfl _ _ _ rfl B8 rfl G rfl _ hR8 hzv hz4 h14 ?_); intro V8 hB8 o8; have hb8 : Below W6.heap.size W6 V8 := o8.below W6.heap.size W6 (by have := hN8.out; omega) hk8; replace hB3 := hB3.next hb8; replace hB5 := hB5.next hb8; replace hR := hR.next hb8; replace hk := btz hk hb8; clear hN8 hR8 hk8 o8 hb8)
  | (with_reducible refine qdz (by kernel_rfl) 68 _ rfl B8 rfl G hB8 _ underlying68 (by kernel_rfl) hzv ?_)
  | (with_reducible refine qaz (by kernel_rfl) _ _ rfl B5 _ rfl _ _ hB5 _ e0 isAgg22 ?_)
  | (go_at_call 30; have hx := hP9; (with_reducible refine (hf2 _ hk).mono ?_); rintro e w11 ⟨rfl, hb8⟩; replace hB3 := hB3.next hb8; replace hB5 := hB5.next hb8; replace hR := hR.next hb8; replace hB8 := hB8.next hb8; replace hP9 := hP9.next hb8; replace hk := btz hk hb8; clear hb8 hx)
  | (go_at_call 30; (with_reducible refine (hf1 _ hk).mono ?_); rintro e w9 ⟨rfl, hb8⟩; replace hB3 := hB3.next hb8; replace hB5 := hB5.next hb8; replace hR := hR.next hb8; replace hB8 := hB8.next hb8; replace hk := btz hk hb8; clear hb8)
  | ((with_reducible refine qgz rfl 43 rfl zC qwz ?_); have hx := hP9; intro P11 W11 hN11 hP11a hk11; clear hx)
  | ((with_reducible refine qgz rfl 43 rfl zC qwz ?_); intro P9 W9 hN9 hP9a hk9)
  | ((with_reducible refine qbz rfl _ _ _ rfl P9 rfl C1 rfl zC hP9a (qfz hz1) (qrz.trans hz1.symm) h1c ?_); intro V9 hP9 q9; have hb8 : Below w9.heap.size w9 V9 := q9.below w9.heap.size w9 (by have := hN9.out; omega) hk9; replace hB3 := hB3.next hb8; replace hB5 := hB5.next hb8; replace hR := hR.next hb8; replace hB8 := hB8.next hb8; replace hk := btz hk hb8; clear hN9 hP9a hk9 q9 hb8)
  | ((with_reducible refine qbz rfl _ _ _ rfl P11 rfl C2 rfl zC hP11a (qfz hz3) (qrz.trans hz3.symm) h3c ?_); intro V11 hP11 q11; have hb8 : Below w11.heap.size w11 V11 := q11.below w11.heap.size w11 (by have := hN11.out; omega) hk11; replace hB3 := hB3.next hb8; replace hB5 := hB5.next hb8; replace hR := hR.next hb8; replace hB8 := hB8.next hb8; replace hP9 := hP9.next hb8; replace hk := btz hk hb8; clear hN11 hP11a hk11 q11 hb8)
  | (with_reducible refine qaz (by kernel_rfl) _ _ rfl P9 _ rfl _ _ hP9 _ d1 isAgg3 ?_)
  | (go_at_call 31; (with_reducible refine (hrf _ hk).mono ?_); rintro e w12 ⟨aX, nX, cX, rfl, oX, hb9⟩; have hR9 := hR.next hb9)
  | (with_reducible refine qdz (by kernel_rfl) 43 _ rfl P9 rfl C1 hP9 _ underlying43 (by kernel_rfl) (qfz hz1) ?_)
  | (with_reducible refine qdz (by kernel_rfl) 43 _ rfl B5 rfl Co hB5 _ underlying43 (by kernel_rfl) (qfz hzo) ?_)
  | (go_at_call 32; (with_reducible refine (hla _ hk).mono ?_); rintro e w12 ⟨aX, nX, cX, rfl, oX, hb9⟩; have hR9 := hR.next hb9)
  | ((with_reducible refine qbz rfl _ _ _ rfl R rfl _ rfl zW hR9 (hz2 _) (hs2 _) (h12 aX nX cX) ?_); intro W13 hR13 q13))
 ·refine bodyPost_ret (qTz results8 rfl rfl hR13 rfl) rfl ?_
  have hE : ER = 1 := by rw [← hER.out]; unfold attE; rw [if_pos hb1]
  have hY : YR = X := by rw [← hYR.out]; unfold attX; rw [if_pos hb1]
  rw [hE, hY]
  exact ⟨aX, nX, cX, rfl, (ObsN.store oX q13 hR.lt (fun b hb => by have := hD b hb; have := hRw.out; omega)).low hk.size, q13.below _ _ hRw.out (btz hk hb9)⟩
 ·refine bodyPost_ret (qTz results8 rfl rfl hR13 rfl) rfl ?_
  have hE : ER = LE := by rw [← hER.out]; unfold attE; rw [if_neg (by rw [hb1]; decide), if_neg (by rw [hkd.out]; decide), if_neg (by rw [hb2]; decide), hLE.out]
  have hY : YR = LX := by rw [← hYR.out]; unfold attX; rw [if_neg (by rw [hb1]; decide), if_neg (by rw [hkd.out]; decide), if_neg (by rw [hb2]; decide), hLX.out]
  rw [hE, hY]
  exact ⟨aX, nX, cX, rfl, (ObsN.store oX q13 hR.lt (fun b hb => by have := hD b hb; have := hRw.out; omega)).low hk.size, q13.below _ _ hRw.out (btz hk hb9)⟩
 ·refine bodyPost_ret (qTz results8 rfl rfl hR13 rfl) rfl ?_
  have hE : ER = 12 := by rw [← hER.out]; unfold attE; rw [if_neg (by rw [hb1]; decide), if_neg (by rw [hkd.out]; decide), if_pos hb2]
  have hY : YR = X := by rw [← hYR.out]; unfold attX; rw [if_neg (by rw [hb1]; decide), if_neg (by rw [hkd.out]; decide), if_pos hb2]
  rw [hE, hY]
  exact ⟨aX, nX, cX, rfl, (ObsN.store oX q13 hR.lt (fun b hb => by have := hD b hb; have := hRw.out; omega)).low hk.size, q13.below _ _ hRw.out (btz hk hb9)⟩
 ·refine bodyPost_ret (qTz results8 rfl rfl hR13 rfl) rfl ?_
  have hE : ER = 3 := by rw [← hER.out]; unfold attE; rw [if_neg (by rw [hb1]; decide), if_pos (by rw [hkd.out]; exact k2)]
  have hY : YR = X := by rw [← hYR.out]; unfold attX; rw [if_neg (by rw [hb1]; decide), if_pos (by rw [hkd.out]; exact k2)]
  rw [hE, hY]
  exact ⟨aX, nX, cX, rfl, (ObsN.store oX q13 hR.lt (fun b hb => by have := hD b hb; have := hRw.out; omega)).low hk.size, q13.below _ _ hRw.out (btz hk hb9)⟩
def awD : Ob := ⟨1, 2, [], 3, false, [], [], [], zTh, zGt, [], []⟩
def awS (q : Int) : Ob := ⟨2, 1, [], q, false, [], [], [], zTh, zGt, [], []⟩
def awE : Ob := ⟨1, 2, [], 3, false, [2], [], [], zTh, zGt, [], []⟩
theorem aw_e3 : attE [awD] 1 (awS 3) = 5 := by decide +kernel
theorem aw_e2 : attE [awD] 1 (awS 2) = 0 := by decide +kernel
theorem aw_x2 : attX [awD] 1 (awS 2) = [awE, awS 2] := by decide +kernel
theorem aw_fit : fitT 0 0 1 [awD] = true := by decide +kernel
theorem aw_room : awE.quota - (pagO awE + (awE.links.map (qOf [awE, awS 2])).sum) = 0 := by decide +kernel
theorem xlz (i k q : Int) (f : Bool) (l : List Int) (hl : l.length < 4294967296) : Small ⟨i, k, [], q, f, l, [], [], zTh, zGt, [], []⟩ := ⟨by simp, hl, by simp, by simp, by simp [zTh], by simp [zTh], by simp [zTh], by simp [zTh], by simp [zTh], by simp [zTh], by simp [zGt], by simp [zGt], by simp, by simp⟩
theorem ybz : Lays [awD] := ⟨xJz.1 (by decide +kernel), fun x hx => by rw [List.mem_singleton.1 hx]; exact xlz _ _ _ _ _ (by simp), by decide +kernel, fun x hx => by rw [List.mem_singleton.1 hx]; decide, fun x hx => by rw [List.mem_singleton.1 hx]; decide, fun x hx => by rw [List.mem_singleton.1 hx]; exact ⟨List.Pairwise.nil, by decide⟩⟩
theorem com_set3 (a b c d e v : Value) : (comC a b c d e).setIfInBounds 3 v = comC a b c v e := by kernel_rfl
theorem sizeI : (prog.info? 3).map (·.size) = some 1 := by kernel_rfl
variable {W : World}
theorem bFz {D : Nat → Prop} (h : Blk W B (comC (.int .u64 1) (.int .i64 2) (.slice none 0 0) (.int .i64 3) (.bool false)) 43) : ObsD (LtN W) D W (some ⟨B, 0, none⟩) 1 1 [awD] := gKz h (wKz (LabD.nil D W))
theorem aw_at3 (h : Blk W B (comC (.int .u64 1) (.int .i64 2) (.slice none 0 0) (.int .i64 3) (.bool false)) 43) : Calls prog 8 #[.agg #[.int .i64 0, .int .u64 0, .int .u64 1, .slice (some ⟨B, 0, none⟩) 1 1], .int .u64 1, .agg (comC (.int .u64 2) (.int .i64 1) (.slice none 0 0) (.int .i64 3) (.bool false))] W fun e w' => ∃ ao2 n2 cap2, e = .returned (.tuple #[.agg #[.int .i64 0, .int .u64 0, .int .u64 1, .slice ao2 n2 cap2], .int .i64 5]) ∧ ObsN W (fun _ => False) w' ao2 n2 cap2 (attX [awD] 1 (awS 3)) ∧ Below W.heap.size W w' := by
 obtain ⟨Cf, hF⟩ := (bFz (D := fun _ => False) h).fam
 have := jWz (t := 0) (ke := 0) (ro := 1) (i := 1) (D0 := fun _ => False) (o := awS 3) (fun _ h => h.elim) hF ybz (by omega) (wKz (LabD.nil _ W)) (xlz _ _ _ _ _ (by simp)) (by decide)
 rw [aw_e3] at this
 exact this
theorem aw_at2 (h : Blk W B (comC (.int .u64 1) (.int .i64 2) (.slice none 0 0) (.int .i64 3) (.bool false)) 43) : Calls prog 8 #[.agg #[.int .i64 0, .int .u64 0, .int .u64 1, .slice (some ⟨B, 0, none⟩) 1 1], .int .u64 1, .agg (comC (.int .u64 2) (.int .i64 1) (.slice none 0 0) (.int .i64 2) (.bool false))] W fun e w' => ∃ ao2 n2 cap2, e = .returned (.tuple #[.agg #[.int .i64 0, .int .u64 0, .int .u64 1, .slice ao2 n2 cap2], .int .i64 0]) ∧ ObsN W (fun _ => False) w' ao2 n2 cap2 [awE, awS 2] ∧ Below W.heap.size W w' := by
 obtain ⟨Cf, hF⟩ := (bFz (D := fun _ => False) h).fam
 have := jWz (t := 0) (ke := 0) (ro := 1) (i := 1) (D0 := fun _ => False) (o := awS 2) (fun _ h => h.elim) hF ybz (by omega) (wKz (LabD.nil _ W)) (xlz _ _ _ _ _ (by simp)) (by decide)
 rw [aw_e2, aw_x2] at this
 exact this
theorem aw_ft (h : Blk W B (comC (.int .u64 1) (.int .i64 2) (.slice none 0 0) (.int .i64 3) (.bool false)) 43) : Calls prog 28 #[.agg #[.int .i64 0, .int .u64 0, .int .u64 1, .slice (some ⟨B, 0, none⟩) 1 1]] W fun e w' => e = .returned (.bool true) ∧ Below W.heap.size W w' := by
 obtain ⟨Cf, hF⟩ := (bFz (D := LtN W) h).fam
 have := tfit_v (t := 0) (key := 0) (ro := 1) hF (fun _ => ybz.sms) (fun x hx => by rw [List.mem_singleton.1 hx]; unfold WdO; decide)
 rw [aw_fit] at this
 exact this
theorem aw_rm {cap : Nat} (hO : Obs W ao 2 cap [awE, awS 2]) (hC : ObD (LtN W) W C awE) : Calls prog 29 #[.agg #[.int .i64 0, .int .u64 0, .int .u64 1, .slice ao 2 cap], .agg C] W fun e w' => e = .returned (.int .i64 0) ∧ Below W.heap.size W w' := by
 obtain ⟨Cf, hF⟩ := hO.fam
 have := room_w (t := 0) (ke := 0) (ro := 1) hF (xJz.1 (by decide +kernel)) (by omega) (by decide) hC (xlz _ _ _ _ _ (by simp)) (by decide)
 rw [aw_room] at this
 exact this
theorem wxz (w : World) : Calls prog 7 #[] w fun e w' => e = .returned (.bool true) ∧ Below w.heap.size w w' := by
 have hmx : prog.follows .mixedOrders = true := by kernel_rfl
 have hzd : (comC (.int .u64 1) (.int .i64 2) (.slice none 0 0) (.int .i64 3) (.bool false)).size = 51 := by kernel_rfl
 have hz3s : (comC (.int .u64 2) (.int .i64 1) (.slice none 0 0) (.int .i64 3) (.bool false)).size = 51 := by kernel_rfl
 have hs3 : ∀ (D : Nat → Prop) (w : World), ObD D w (comC (.int .u64 2) (.int .i64 1) (.slice none 0 0) (.int .i64 3) (.bool false)) (awS 3) := fun D w => wKz (LabD.nil D w)
 have hs2o : ∀ (D : Nat → Prop) (w : World), ObD D w (comC (.int .u64 2) (.int .i64 1) (.slice none 0 0) (.int .i64 2) (.bool false)) (awS 2) := fun D w => wKz (LabD.nil D w)
 have hz2 : ∀ v, (prog.info? 25).map (·.size) = some (#[.int .i64 0, .int .u64 0, .int .u64 1, v] : Array Value).size := fun _ => wnz
 have hs2 : ∀ v, zW.size = (#[.int .i64 0, .int .u64 0, .int .u64 1, v] : Array Value).size := fun _ => rfl
 have h12 : ∀ ao n cap, (#[.int .i64 0, .int .u64 0, .int .u64 1, .slice ao n cap] : Array Value).all (·.oneCell') = true := fun _ _ _ => by kernel_rfl
 have hat1 := fun {B : Nat} (W : World) (h : Blk W B (comC (.int .u64 1) (.int .i64 2) (.slice none 0 0) (.int .i64 3) (.bool false)) 43) => aw_at3 h
 have hat2 := fun {B : Nat} (W : World) (h : Blk W B (comC (.int .u64 1) (.int .i64 2) (.slice none 0 0) (.int .i64 3) (.bool false)) 43) => aw_at2 h
 have hfit := fun {B : Nat} (W : World) (h : Blk W B (comC (.int .u64 1) (.int .i64 2) (.slice none 0 0) (.int .i64 3) (.bool false)) 43) => aw_ft h
 go_enter func7, ntmps7
 go_wp2_with (first
  | ((with_reducible refine qRz (by kernel_rfl) 43 [(0, .const (.int .u64 1)), (1, .const (.int .i64 2)), (3, .const (.int .i64 3))] rfl (comC (.int .u64 1) (.int .i64 2) (.slice none 0 0) (.int .i64 3) (.bool false)) ?hf ?_); (case hf => kernel_rfl))
  | ((with_reducible refine kZz rfl _ rfl (comC (.int .u64 1) (.int .i64 2) (.slice none 0 0) (.int .i64 3) (.bool false)) rfl hzd ?_); intro Bx Wx hNx hBx hk)
  | ((with_reducible refine qRz (by kernel_rfl) 25 [(2, .const (.int .u64 1)), (3, .tmp 8)] rfl #[.int .i64 0, .int .u64 0, .int .u64 1, .slice (some ⟨Bx, 0, none⟩) 1 1] ?hf ?_); (case hf => kernel_rfl))
  | ((with_reducible refine qgz rfl 25 rfl zW wlz ?_); have hx := hP3; intro P5 W5 hN5 hP5a hk5; clear hx)
  | ((with_reducible refine qgz rfl 25 rfl zW wlz ?_); have hx := hP2; intro P3 W3 hN3 hP3a hk3; have hne : Hid (Bx ≠ P2 ∧ P1 ≠ P2 ∧ P3 ≠ P2 ∧ w.heap.size ≤ P2) := (by have := hN3.out; have := hlt.out; have := hP2.lt; refine (⟨?_, ?_, ?_, ?_⟩ : _ ∧ _ ∧ _ ∧ _) <;> omega); clear hx)
  | ((with_reducible refine qgz rfl 25 rfl zW wlz ?_); intro P1 W1 hN1 hP1a hk1)
  | ((with_reducible refine qbz rfl _ _ _ rfl P1 rfl #[.int .i64 0, .int .u64 0, .int .u64 1, .slice (some ⟨Bx, 0, none⟩) 1 1] rfl zW hP1a (hz2 _) (hs2 _) (h12 _ _ _) ?_); intro V1 hP1 q1; have hb8 : Below Wx.heap.size Wx V1 := q1.below Wx.heap.size Wx (by have := hN1.out; omega) hk1; replace hBx := hBx.next hb8; replace hk := btz hk hb8; clear hN1 hP1a hk1 q1 hb8)
  | ((with_reducible refine qRz (by kernel_rfl) 43 [(0, .const (.int .u64 2)), (1, .const (.int .i64 1)), (3, .const (.int .i64 3))] rfl (comC (.int .u64 2) (.int .i64 1) (.slice none 0 0) (.int .i64 3) (.bool false)) ?hf ?_); (case hf => kernel_rfl))
  | ((with_reducible refine qgz rfl 43 rfl zC qwz ?_); intro P2 W2 hN2 hP2a hk2; have hlt : Hid (Bx < P2 ∧ P1 < P2 ∧ w.heap.size ≤ P2) := (by have := hN2.out; have := hk.size; have := hBx.lt; have := hP1.lt; refine (⟨?_, ?_, ?_⟩ : _ ∧ _ ∧ _) <;> omega))
  | ((with_reducible refine qbz rfl _ _ _ rfl P2 rfl (comC (.int .u64 2) (.int .i64 1) (.slice none 0 0) (.int .i64 3) (.bool false)) rfl zC hP2a (qfz (hs3 (fun _ => True) w).size) (qrz.trans (hs3 (fun _ => True) w).size.symm) (hs3 (fun _ => True) w).one ?_); intro V2 hP2 q2; have hb8 : Below V1.heap.size V1 V2 := q2.below V1.heap.size V1 (by have := hN2.out; omega) hk2; replace hBx := hBx.next hb8; replace hP1 := hP1.next hb8; replace hk := btz hk hb8; clear hN2 hP2a hk2 q2 hb8)
  | (with_reducible refine qdz (by kernel_rfl) 25 _ rfl P1 rfl _ hP1 _ underlying25 (by kernel_rfl) (hz2 _) ?_)
  | (with_reducible refine qdz (by kernel_rfl) 43 _ rfl P2 rfl _ hP2 _ underlying43 (by kernel_rfl) (qfz (by kernel_rfl)) ?_)
  | (go_at_call 8; have hx := hP3; (with_reducible refine (hat2 _ hBx).mono ?_); rintro e w5 ⟨aX, nX, cX, rfl, oX, hb8⟩; replace hBx := hBx.next hb8; replace hP1 := hP1.next hb8; replace hP2 := hP2.next hb8; replace hP3 := hP3.next hb8; replace hk := btz hk hb8; clear hb8 hx; obtain rfl : 2 = nX := oX.1)
  | (go_at_call 8; (with_reducible refine (hat1 _ hBx).mono ?_); rintro e w3 ⟨aZ, nZ, cZ, rfl, oZ, hb8⟩; replace hBx := hBx.next hb8; replace hP1 := hP1.next hb8; replace hP2 := hP2.next hb8; replace hk := btz hk hb8; clear hb8 oZ)
  | ((with_reducible refine qbz rfl _ _ _ rfl P3 rfl _ rfl zW hP3a (hz2 _) (hs2 _) (h12 aZ nZ cZ) ?_); intro V3 hP3 q3; have hb8 : Below w3.heap.size w3 V3 := q3.below w3.heap.size w3 (by have := hN3.out; omega) hk3; replace hBx := hBx.next hb8; replace hP1 := hP1.next hb8; replace hP2 := hP2.next hb8; replace hk := btz hk hb8; clear hN3 hP3a hk3 q3 hb8)
  | ((with_reducible refine qjz rfl _ _ _ rfl P2 3 rfl (.int .i64 2) rfl rfl _ _ hP2 sizeI (by rw [hz3s]; omega) rfl ?_); intro V4 hP2n q4; replace hBx := hBx.other q4 hne.out.1; replace hP1 := hP1.other q4 hne.out.2.1; replace hP3 := hP3.other q4 hne.out.2.2.1; replace hk := q4.below _ _ hne.out.2.2.2 hk; rw [com_set3] at hP2n; clear hP2; have hP2 := hP2n; clear hP2n q4)
  | ((with_reducible refine qbz rfl _ _ _ rfl P5 rfl _ rfl zW hP5a (hz2 _) (hs2 _) (h12 aX 2 cX) ?_); intro V5 hP5 q5; have hb8 : Below w5.heap.size w5 V5 := q5.below w5.heap.size w5 (by have := hN5.out; omega) hk5; replace oX := ObsN.next oX (fun _ h => h.elim) hb8; replace hP1 := hP1.next hb8; replace hBx := hBx.next hb8; replace hk := btz hk hb8; clear hN5 hP5a hk5 q5 hb8))
 have r5 : Hid ((5 : Int) = 5) := rfl
 have r0 : Hid ((0 : Int) = 0) := rfl
 have r2 : Hid (((2 : Nat) : Int) = 2) := rfl
 obtain ⟨bX, oX0, C0, e0, hbX0, hC0, hr0⟩ := gLz oX (i := 0) (by omega)
 cases e0
 have hbX : bX < V5.heap.size := hbX0.2
 have hroom := fun (W : World) (hk : Below V5.heap.size V5 W) => aw_rm (qvz (oX.wide (fun b hb => by rcases hb with q | q; exact q.elim; exact q.2) (fun b hb => hb.2)) hk) ((hC0.laterK fun b hb => hk.block b (by rcases hb with q | q; exact q.elim; exact q.2)).wide fun b hb => ltz (by rcases hb with q | q; exact q.elim; exact q.2) hk.size)
 refine PgM.region_out (S := fun W => Below V5.heap.size V5 W) hmx ((brz _ _).drew) (fun hS => ?_)
 generalize V5.drew = v5 at hS ⊢
 refine quz (by kernel_rfl) (fun _ _ _ _ _ h => h) hS [(0, some (.agg #[.int .i64 0, .int .u64 0, .int .u64 1, .slice (some ⟨Bx, 0, none⟩) 1 1]))] (obs := [.load 25 P1 0 (.agg #[.int .i64 0, .int .u64 0, .int .u64 1, .slice (some ⟨Bx, 0, none⟩) 1 1])]) (n := 25) (by kernel_rfl) (by kernel_rfl) ⟨qHz (fun _ h => hP1.next h) underlying25 (by kernel_rfl) (hz2 _), trivial⟩ ?_
 refine qoz (i := 1) (fuel := 24) (f := 28) (vs := [.agg #[.int .i64 0, .int .u64 0, .int .u64 1, .slice (some ⟨Bx, 0, none⟩) 1 1]]) (d := some 25) (by kernel_rfl) (by kernel_rfl) (by kernel_rfl) call28 (hfit _ (hBx.next hS)) ?_
 rintro e v6 ⟨rfl, hb⟩
 have hS6 : Below V5.heap.size V5 v6 := btz hS hb
 refine ⟨_, rfl, hS6, ?_⟩
 refine quz (by kernel_rfl) (fun _ _ _ _ _ h => h) hS6 [(2, none), (3, none), (4, some (.bool true)), (5, none), (6, none), (7, none), (8, some (.bool true)), (9, none), (10, none), (11, none), (12, some (.slice (some ⟨bX, oX0, none⟩) 2 cX)), (13, some (.int .i64 2)), (14, some (.bool true)), (15, none), (16, none), (17, some (.agg #[.int .i64 0, .int .u64 0, .int .u64 1, .slice (some ⟨bX, oX0, none⟩) 2 cX])), (18, none), (19, some (.slice (some ⟨bX, oX0, none⟩) 2 cX)), (20, some (.pointer (some ⟨bX, oX0 + 0 * 51, none⟩))), (21, some (.agg C0))] (obs := [.test .eql 47 (.tmp 27) (.const (.int .i64 5)) (.int .i64 5) (.int .i64 5) (.bool true), .test .eql 47 (.tmp 31) (.const (.int .i64 0)) (.int .i64 0) (.int .i64 0) (.bool true), .load 23 P5 3 (.slice (some ⟨bX, oX0, none⟩) 2 cX), .ln 23 3 (.slice (some ⟨bX, oX0, none⟩) 2 cX) (.int .i64 2), .test .eql 3 (.tmp 37) (.const (.int .i64 2)) (.int .i64 2) (.int .i64 2) (.bool true), .load 25 P5 0 (.agg #[.int .i64 0, .int .u64 0, .int .u64 1, .slice (some ⟨bX, oX0, none⟩) 2 cX]), .load 23 P5 3 (.slice (some ⟨bX, oX0, none⟩) 2 cX), .ia 23 (.slice (some ⟨bX, oX0, none⟩) 2 cX) (.int .i64 0) (.pointer (some ⟨bX, oX0 + 0 * 51, none⟩)), .load 43 bX (oX0 + 0 * 51) (.agg C0)]) (n := 4) (by kernel_rfl) (by kernel_rfl) ⟨qFz (fun _ => qsz _ _ _ _ _ _) r5, qFz (fun _ => qsz _ _ _ _ _ _) r0, qhz (fun _ h => hP5.next h) rfl isAgg23, ob_ln (n := 2), qFz (fun _ => qsz _ _ _ _ _ _) r2, qHz (fun _ h => hP5.next h) underlying25 (by kernel_rfl) (hz2 _), qhz (fun _ h => hP5.next h) rfl isAgg23, w1z (i := 0) (by omega), wgz (fun _ h => qpz hr0 (h.block bX hbX)) underlying43 (by kernel_rfl) (qfz hC0.size), trivial⟩ ?_
 refine qoz (i := 22) (fuel := 3) (f := 29) (vs := [.agg #[.int .i64 0, .int .u64 0, .int .u64 1, .slice (some ⟨bX, oX0, none⟩) 2 cX], .agg C0]) (d := some 46) (by kernel_rfl) (by kernel_rfl) (by kernel_rfl) call29 (hroom _ hS6) ?_
 rintro e v7 ⟨rfl, hb⟩
 have hS7 : Below V5.heap.size V5 v7 := btz hS6 hb
 refine ⟨_, rfl, hS7, ?_⟩
 refine qlz (by kernel_rfl) (fun _ _ _ _ _ h => h) hS7 [(23, some (.bool true)), (24, none), (25, none)] (l' := #[tt, tt, tt, tt, tt, tt, tt, tt, tt, tt, tt, tt, tt, tt, tt, tt, tt, tt, tt, tt, tt, tt, tt, tt, tt, tt]) (a' := { tmps := #[.bool true, .pointer (some ⟨P1, 0, none⟩), .pointer (some ⟨P2, 0, none⟩), .pointer (some ⟨P3, 0, none⟩), .int .i64 5, .pointer (some ⟨P5, 0, none⟩), .int .i64 0, .agg (comC (.int .u64 1) (.int .i64 2) (.slice none 0 0) (.int .i64 3) (.bool false)), .slice (some ⟨Bx, 0, none⟩) 1 1, .agg #[.int .i64 0, .int .u64 0, .int .u64 1, .slice (some ⟨Bx, 0, none⟩) 1 1], .agg (comC (.int .u64 2) (.int .i64 1) (.slice none 0 0) (.int .i64 3) (.bool false)), .tuple #[.agg #[.int .i64 0, .int .u64 0, .int .u64 1, .slice aZ nZ cZ], .int .i64 5], .agg #[.int .i64 0, .int .u64 0, .int .u64 1, .slice (some ⟨Bx, 0, none⟩) 1 1], .agg (comC (.int .u64 2) (.int .i64 1) (.slice none 0 0) (.int .i64 3) (.bool false)), .tuple #[.agg #[.int .i64 0, .int .u64 0, .int .u64 1, .slice aZ nZ cZ], .int .i64 5], .agg #[.int .i64 0, .int .u64 0, .int .u64 1, .slice aZ nZ cZ], .int .i64 5, .pointer (some ⟨P2, 3, none⟩), .tuple #[.agg #[.int .i64 0, .int .u64 0, .int .u64 1, .slice (some ⟨bX, oX0, none⟩) 2 cX], .int .i64 0], .agg #[.int .i64 0, .int .u64 0, .int .u64 1, .slice (some ⟨Bx, 0, none⟩) 1 1], .agg (comC (.int .u64 2) (.int .i64 1) (.slice none 0 0) (.int .i64 2) (.bool false)), .tuple #[.agg #[.int .i64 0, .int .u64 0, .int .u64 1, .slice (some ⟨bX, oX0, none⟩) 2 cX], .int .i64 0], .agg #[.int .i64 0, .int .u64 0, .int .u64 1, .slice (some ⟨bX, oX0, none⟩) 2 cX], .int .i64 0, .agg #[.int .i64 0, .int .u64 0, .int .u64 1, .slice (some ⟨Bx, 0, none⟩) 1 1], .bool true, .bool true, .int .i64 5, .bool true, .bool true, .bool true, .int .i64 0, .bool true, .bool true, .bool true, .pointer (some ⟨P5, 3, none⟩), .slice (some ⟨bX, oX0, none⟩) 2 cX, .int .i64 2, .bool true, .bool true, .bool true, .agg #[.int .i64 0, .int .u64 0, .int .u64 1, .slice (some ⟨bX, oX0, none⟩) 2 cX], .pointer (some ⟨P5, 3, none⟩), .slice (some ⟨bX, oX0, none⟩) 2 cX, .pointer (some ⟨bX, oX0 + 0 * 51, none⟩), .agg C0, .int .i64 0, .bool true, .bool true], defers := [] }) (obs := [.test .eql 3 (.tmp 46) (.const (.int .i64 0)) (.int .i64 0) (.int .i64 0) (.bool true)]) (n := 0) (by kernel_rfl) (by kernel_rfl) ⟨qFz (fun _ => qsz _ _ _ _ _ _) r0, trivial⟩ ?_
 refine wpAnyH_done (by kernel_rfl) ?_ _
 go_wp2
 go_ret
 exact ⟨rfl, btz hk hS7⟩
theorem fO_quota (X : List Ob) (i : Int) : (fO X i).quota = qOf X i := by
 unfold fO qOf
 cases fnd X i <;> rfl
theorem pagN_le (h : Small o) : 0 ≤ pagN o ∧ pagN o ≤ 4294967296 := by
 have := h.c6
 unfold pagN
 omega
theorem ruse_le (hq : ∀ x ∈ X, 0 ≤ x.quota ∧ x.quota ≤ 4096) (hsm : Small o) (l : List Int) (hl : l.length < 4294967296) : 0 ≤ pagN o + (l.map (qOf X)).sum ∧ pagN o + (l.map (qOf X)).sum ≤ 17596481011712 := by
 have h1 := sum_le (l := l) (f := qOf X) (k := 4096) fun i _ => qO_le hq i
 have h2 := pagN_le hsm
 omega
theorem sum_take {l : List Int} {f : Int → Int} {k : Nat} (h : k < l.length) : ((l.take (k + 1)).map f).sum = ((l.take k).map f).sum + f (l.getD k 0) := by
 rw [List.take_add_one, List.getElem?_eq_getElem h, Option.toList_some, List.map_append, List.sum_append, List.getD_eq_getElem?_getD, List.getElem?_eq_getElem h]
 simp
theorem ruses_w (h : Obs w ao n cap X) (hq : ∀ x ∈ X, 0 ≤ x.quota ∧ x.quota ≤ 4096) (ho : ObD (LtN w) w C o) (hsm : Small o) : Calls prog 42 #[.agg #[.int .i64 t, .int .u64 ke, .int .u64 ro, .slice ao n cap], .agg C] w fun e w' => e = .returned (.int .i64 (xBz X o)) ∧ Below w.heap.size w w' := by
 have hmx : prog.follows .mixedOrders = true := by kernel_rfl
 have hz := ho.size
 obtain ⟨al, nl, cl, c5, hLk⟩ := ho.links
 have hln : Hid (o.links.length = nl) := hLk.1
 have hlc := hLk.2.1
 have hlm := hLk.2.2.1.1
 have hl32 : nl < 4294967296 := by rw [← hln.out]; exact hsm.c5
 have hzw : (prog.info? 25).map (·.size) = some (#[.int .i64 t, .int .u64 ke, .int .u64 ro, .slice ao n cap] : Array Value).size := by kernel_rfl
 have hpg := fun (W : World) (hk : Below w.heap.size w W) => ulz (ho.next hk) hsm
 have hfd := fun {W : World} {i : Int} (hk : Below w.heap.size w W) => jtz (t := t) (ke := ke) (ro := ro) (i := i) h hk
 have hul := fun k => ruse_le hq hsm (o.links.take k) (by rw [List.length_take, hln.out]; omega)
 have hst := fun k (hk : k < nl) => sum_take (f := qOf X) (show k < o.links.length by rw [hln.out]; exact hk)
 have hfin : Hid (xBz X o = pagN o + ((o.links.take nl).map (qOf X)).sum) := by show xBz X o = _; rw [← hln.out, List.take_length]; rfl
 rw [hfin.out]
 obtain ⟨G, hG⟩ : ∃ G : Array Value, G = #[.int .i64 t, .int .u64 ke, .int .u64 ro, .slice ao n cap] := ⟨_, rfl⟩
 rw [← hG] at hzw hfd
 rw [← hG]
 clear hG
 generalize pagN o = pg at hpg hul hst ⊢
 go_enter func42, ntmps42
 go_wp2_with (first
  | (with_reducible refine qcz rfl 25 _ rfl G rfl ?_; intro B2 W2 hN2 hB2 hk)
  | (with_reducible refine qcz rfl 43 _ rfl C rfl ?_; intro B3 W3 hN3 hB3 hk3; replace hB2 := hB2.next hk3; replace hk := btz hk hk3)
  | (with_reducible refine qdz (by kernel_rfl) _ _ rfl B3 rfl C hB3 _ underlying43 (by kernel_rfl) (qfz hz) ?_)
  | (go_at_call 75; (with_reducible refine (hpg _ hk).mono ?_); rintro e w1 ⟨rfl, hb1⟩; replace hB2 := hB2.next hb1; replace hB3 := hB3.next hb1; replace hk := btz hk hb1))
 clear hN2 hN3 hk3
 go_loopw [5, 6] (fun v j wr => ∃ k : Nat, k ≤ nl ∧ j = .int .i64 k ∧ v = .int .i64 (pg + ((o.links.take k).map (qOf X)).sum) ∧ Blk wr B2 G 25 ∧ Blk wr B3 C 43 ∧ Below w.heap.size w wr) (fun _ j _ => nl - (intOf j).toNat)
 case atStart => exact ⟨0, Nat.zero_le _, rfl, by simp, hB2, hB3, hk⟩
 case round =>
  clear hB2 hB3 hk
  obtain ⟨k, hkn1, rfl, rfl, hB2, hB3, hk⟩ := hrel
  by_cases hkn : k < nl
  ·obtain ⟨b, off, rfl, hbb, hc⟩ := jRz hLk hkn
   have hkn' : (k : Int) < nl := by omega
   have hw5 := hul (k + 1)
   rw [hst k hkn] at hw5
   have hst1 := hst k hkn
   have hq0 := fO_quota X (o.links.getD k 0)
   generalize ((o.links.take k).map (qOf X)).sum = s0 at hst1 hw5 ⊢
   generalize o.links.getD k 0 = i at hc hst1 hq0 hw5
   go_wp2_with (first
    | (with_reducible refine qaz (by kernel_rfl) _ _ rfl B3 _ rfl _ _ hB3 _ c5 isAgg28 ?_))
   refine PgM.region_out (S := fun W => Blk W B2 G 25 ∧ Blk W B3 C 43 ∧ Below w.heap.size w W) hmx ⟨hB2.next (brz _ _).drew, hB3.next (brz _ _).drew, hk.trans ((brz _ _).drew.mono hk.size)⟩ (fun hS => ?_)
   generalize wr.drew = v6 at hS ⊢
   clear hk hB2 hB3 
   refine qlz (by kernel_rfl) (fun _ _ _ _ _ h => h) hS [(0, some (.agg G)), (1, none), (2, some (.slice (some ⟨b, off, none⟩) nl cl)), (3, none), (4, some (.pointer (some ⟨b, off + k, none⟩))), (5, some (.int .u64 i))] (l' := #[tt, tt, tt, tt, tt, tt, ff, ff, ff, ff, ff, ff, ff]) (a' := { tmps := #[.agg G, .agg C, .pointer (some ⟨B2, 0, none⟩), .pointer (some ⟨B3, 0, none⟩), .int .i64 0, .int .i64 (pg + s0), .int .i64 k, u7, u8, .agg C, .int .i64 pg, .int .i64 k, .pointer (some ⟨B3, 5, none⟩), .slice (some ⟨b, off, none⟩) nl cl, .int .i64 nl, .bool true, u16, u17, u18, .agg G, .pointer (some ⟨B3, 5, none⟩), .slice (some ⟨b, off, none⟩) nl cl, .int .i64 k, .pointer (some ⟨b, off + k, none⟩), .int .u64 i, u25, u26, u27, u28, u29, u30, u31, undef], defers := [] }) (obs := [.load 25 B2 0 (.agg G), .load 28 B3 5 (.slice (some ⟨b, off, none⟩) nl cl), .ia 28 (.slice (some ⟨b, off, none⟩) nl cl) (.int .i64 k) (.pointer (some ⟨b, off + k, none⟩)), .load 22 b (off + k) (.int .u64 i)]) (n := 7) (by kernel_rfl) (by kernel_rfl) ⟨qHz (fun _ h => h.1) underlying25 (by kernel_rfl) hzw, qhz (fun _ h => h.2.1) c5 isAgg28, jbz hkn, xVz (fun W h => (World.cell?_of_block (w := w) (a := ⟨b, off + k, none⟩) (h.2.2.block b hbb)).trans hc) isAgg22, trivial⟩ ?_
   refine share 2 #[true, true, true, true, true, true, true, true, true, true, true, false, false] (fun A W => ∃ (P6 : Nat) (C6 : Array Value), A = { tmps := #[.agg G, .agg C, .pointer (some ⟨B2, 0, none⟩), .pointer (some ⟨B3, 0, none⟩), .int .i64 0, .int .i64 (pg + s0), .int .i64 k, .pointer (some ⟨P6, 0, none⟩), u8, .agg C, .int .i64 pg, .int .i64 k, .pointer (some ⟨B3, 5, none⟩), .slice (some ⟨b, off, none⟩) nl cl, .int .i64 nl, .bool true, u16, u17, .tuple #[.agg C6, .bool (fnd X i).isSome], .agg G, .pointer (some ⟨B3, 5, none⟩), .slice (some ⟨b, off, none⟩) nl cl, .int .i64 k, .pointer (some ⟨b, off + k, none⟩), .int .u64 i, .tuple #[.agg C6, .bool (fnd X i).isSome], .agg C6, .bool (fnd X i).isSome, u28, u29, u30, u31, undef], defers := [] } ∧ (Blk W B2 G 25 ∧ Blk W B3 C 43 ∧ Below w.heap.size w W) ∧ Blk W P6 zC 43 ∧ v6.heap.size ≤ P6 ∧ ObD (LtN w) W C6 (fO X i) ∧ Below v6.heap.size v6 W) ?_ (fun rest => ?_)
   ·rintro A W ⟨P6, C6, rfl, hS1, hP0, hgP, o6, kv⟩
    obtain ⟨W6, hr6, hP6, q6⟩ := wpz hP0 (qfz o6.size) (qrz.trans o6.size.symm) o6.one
    refine qBz (i := 11) (n := 1) rfl (by kernel_rfl) ?_
    refine wtz (ty := 43) (B := P6) (off := 0) (v := .agg C6) (d := none) (by kernel_rfl) hr6 ?_
    have hwP : w.heap.size ≤ P6 := Nat.le_trans hS.2.2.size hgP
    have hS6 : Blk W6 B2 G 25 ∧ Blk W6 B3 C 43 ∧ Below w.heap.size w W6 := ⟨hS1.1.other q6 (by have := hS.1.lt; omega), hS1.2.1.other q6 (by have := hS.2.1.lt; omega), q6.below _ _ hwP hS1.2.2⟩
    replace o6 := ob_oth o6 hwP q6
    refine ⟨hS6, ?_⟩
    refine qlz (by kernel_rfl) (fun _ _ _ _ _ h => h) hS6 [(12, none)] (l' := #[tt, tt, tt, tt, tt, tt, tt, tt, tt, tt, tt, tt, tt]) (a' := { tmps := #[.agg G, .agg C, .pointer (some ⟨B2, 0, none⟩), .pointer (some ⟨B3, 0, none⟩), .int .i64 0, .int .i64 (pg + s0), .int .i64 k, .pointer (some ⟨P6, 0, none⟩), .bool (fnd X i).isSome, .agg C, .int .i64 pg, .int .i64 k, .pointer (some ⟨B3, 5, none⟩), .slice (some ⟨b, off, none⟩) nl cl, .int .i64 nl, .bool true, u16, u17, .tuple #[.agg C6, .bool (fnd X i).isSome], .agg G, .pointer (some ⟨B3, 5, none⟩), .slice (some ⟨b, off, none⟩) nl cl, .int .i64 k, .pointer (some ⟨b, off + k, none⟩), .int .u64 i, .tuple #[.agg C6, .bool (fnd X i).isSome], .agg C6, .bool (fnd X i).isSome, u28, u29, u30, u31, undef], defers := [] }) (obs := []) (n := 0) (by kernel_rfl) (by kernel_rfl) trivial ?_
    refine wpAnyH_done (by kernel_rfl) ?_ _
    obtain ⟨hB2, hB3, hk⟩ := hS6
    clear hS hS1 hP0 hgP hr6 q6 kv
    have c3 := o6.quota
    rw [hq0] at c3
    have hwr : IntKind.i64.wrap (pg + s0 + qOf X i) = pg + s0 + qOf X i := by rw [IntKind.wrap_i64]; omega
    generalize qOf X i = qi at c3 hst1 hwr hw5
    clear hq0 o6
    go_wp2_with (first
     | (with_reducible refine qaz (by kernel_rfl) _ _ rfl P6 _ rfl _ _ hP6 _ c3 isAgg3 ?_))
    go_roundw
    case rel => exact ⟨k + 1, by omega, by go_num, by rw [hst1]; first | rfl | (congr 1; omega), hB2, hB3, hk⟩
    case measure => simp [intOf]; omega
   ·refine xPz (i := 6) (j := 10) (n := 6) rfl (by kernel_rfl) ?_ ?_
    ·refine wMz (f := 9) (vs := [.agg G, .int .u64 i]) (d := some 25) (by kernel_rfl) call9 (hfd hS.2.2) ?_
     rintro e z1 ⟨C6, rfl, o6, hb101⟩
     have k1 := (brz v6.heap.size v6).trans (hb101.mono (brz v6.heap.size v6).size)
     have hS1 : Blk z1 B2 G 25 ∧ Blk z1 B3 C 43 ∧ Below w.heap.size w z1 := ⟨hS.1.next hb101, hS.2.1.next hb101, hS.2.2.trans (hb101.mono hS.2.2.size)⟩
     refine ⟨_, rfl, hS1, ?_⟩
     refine wuz (by kernel_rfl) (fun _ _ _ _ _ h => h) hS1 [7, 8, 9] (l' := #[tt, tt, tt, tt, tt, tt, tt, tt, tt, tt, ff, ff, ff]) (a' := { tmps := #[.agg G, .agg C, .pointer (some ⟨B2, 0, none⟩), .pointer (some ⟨B3, 0, none⟩), .int .i64 0, .int .i64 (pg + s0), .int .i64 k, u7, u8, .agg C, .int .i64 pg, .int .i64 k, .pointer (some ⟨B3, 5, none⟩), .slice (some ⟨b, off, none⟩) nl cl, .int .i64 nl, .bool true, u16, u17, .tuple #[.agg C6, .bool (fnd X i).isSome], .agg G, .pointer (some ⟨B3, 5, none⟩), .slice (some ⟨b, off, none⟩) nl cl, .int .i64 k, .pointer (some ⟨b, off + k, none⟩), .int .u64 i, .tuple #[.agg C6, .bool (fnd X i).isSome], .agg C6, .bool (fnd X i).isSome, u28, u29, u30, u31, undef], defers := [] }) (n := 3) (by kernel_rfl) (by kernel_rfl) ?_
     refine qBz (i := 10) (n := 2) rfl (by kernel_rfl) ?_
     refine wUz (ty := 43) (z := zC) (d := some 7) (by kernel_rfl) qwz ?_
     intro P6 z2 hN hP6 hb102
     have hgP : v6.heap.size ≤ P6 := by have := hN.out; have := k1.size; omega
     replace o6 := ob_lt o6 hS1.2.2 hb102
     have k2 := btz k1 hb102
     have hS2 : Blk z2 B2 G 25 ∧ Blk z2 B3 C 43 ∧ Below w.heap.size w z2 := ⟨hS1.1.next hb102, hS1.2.1.next hb102, hS1.2.2.trans (hb102.mono hS1.2.2.size)⟩
     refine ⟨hS2, ?_⟩
     exact rest _ _ ⟨P6, C6, rfl, hS2, hP6, hgP, o6, k2⟩
    ·refine wUz (ty := 43) (z := zC) (d := some 7) (by kernel_rfl) qwz ?_
     intro P6 z3 hN hP6 hb103
     have hgP : v6.heap.size ≤ P6 := by have := hN.out; have := (brz v6.heap.size v6).size; omega
     have k3 := (brz v6.heap.size v6).trans (hb103.mono (brz v6.heap.size v6).size)
     have hS3 : Blk z3 B2 G 25 ∧ Blk z3 B3 C 43 ∧ Below w.heap.size w z3 := ⟨hS.1.next hb103, hS.2.1.next hb103, hS.2.2.trans (hb103.mono hS.2.2.size)⟩
     refine ⟨hS3, ?_⟩
     refine qBz (i := 6) (n := 5) rfl (by kernel_rfl) ?_
     refine wMz (f := 9) (vs := [.agg G, .int .u64 i]) (d := some 25) (by kernel_rfl) call9 (hfd hS3.2.2) ?_
     rintro e z4 ⟨C6, rfl, o6, hb104⟩
     replace hP6 := hP6.next hb104
     have k4 := btz k3 hb104
     have hS4 : Blk z4 B2 G 25 ∧ Blk z4 B3 C 43 ∧ Below w.heap.size w z4 := ⟨hS3.1.next hb104, hS3.2.1.next hb104, hS3.2.2.trans (hb104.mono hS3.2.2.size)⟩
     refine ⟨_, rfl, hS4, ?_⟩
     refine wuz (by kernel_rfl) (fun _ _ _ _ _ h => h) hS4 [7, 8, 9] (l' := #[tt, tt, tt, tt, tt, tt, tt, tt, tt, tt, tt, ff, ff]) (a' := { tmps := #[.agg G, .agg C, .pointer (some ⟨B2, 0, none⟩), .pointer (some ⟨B3, 0, none⟩), .int .i64 0, .int .i64 (pg + s0), .int .i64 k, .pointer (some ⟨P6, 0, none⟩), u8, .agg C, .int .i64 pg, .int .i64 k, .pointer (some ⟨B3, 5, none⟩), .slice (some ⟨b, off, none⟩) nl cl, .int .i64 nl, .bool true, u16, u17, .tuple #[.agg C6, .bool (fnd X i).isSome], .agg G, .pointer (some ⟨B3, 5, none⟩), .slice (some ⟨b, off, none⟩) nl cl, .int .i64 k, .pointer (some ⟨b, off + k, none⟩), .int .u64 i, .tuple #[.agg C6, .bool (fnd X i).isSome], .agg C6, .bool (fnd X i).isSome, u28, u29, u30, u31, undef], defers := [] }) (n := 2) (by kernel_rfl) (by kernel_rfl) ?_
     exact rest _ _ ⟨P6, C6, rfl, hS4, hP6, hgP, o6, k4⟩
  ·obtain rfl : k = nl := by omega
   generalize hsF : ((o.links.take k).map (qOf X)).sum = sF
   go_wp2_with (first
    | (with_reducible refine qaz (by kernel_rfl) _ _ rfl B3 _ rfl _ _ hB3 _ c5 isAgg28 ?_))
   go_ret
   exact ⟨by rw [hsF]; rfl, hk⟩
end
section
open Go.ChangeShapes Go.WideShapes Go.ChangeAt Go.RowKit
variable {w : World} {L L' : List (Int × Int)} {ao ao' : Option Addr} {n n' cap cap' : Nat}
theorem rleq_f (hL : Lab w.heap.size w ao n cap L) (hL' : Lab w.heap.size w ao' n' cap' L') (f : Fit L) (f' : Fit L') :
  Calls prog 27 #[.slice ao n cap, .slice ao' n' cap'] w fun e w' => e = .returned (.bool (leqB L L')) ∧ Below w.heap.size w w' := by
 have h := kBz hL hL'
 rw [xyz f f'] at h
 exact h
theorem rraise_f {ao : Option Addr} {n cap : Nat} {L : List (Int × Int)} (hL : Lab w.heap.size w ao n cap L) (hk : n < 68719476736) (f : Fit L) :
  Calls prog 74 #[.slice ao n cap] w fun e w' => ∃ ao1 n1 cap1, e = .returned (.slice ao1 n1 cap1) ∧ Lab w'.heap.size w' ao1 n1 cap1 (xtz L) ∧ n1 ≤ n ∧ Below w.heap.size w w' := by
 have h := v3z hL hk
 rw [gpz f] at h
 exact h
theorem rjoin_f (hL : Lab w.heap.size w ao n cap L) (hL' : Lab w.heap.size w ao' n' cap' L') (hk : n < 68719476736) (hk' : n' < 68719476736) (f : Fit L) (f' : Fit L') :
  Calls prog 73 #[.slice ao n cap, .slice ao' n' cap'] w fun e w' => ∃ ao1 n1 cap1, e = .returned (.slice ao1 n1 cap1) ∧ Lab w'.heap.size w' ao1 n1 cap1 (vyz L L') ∧ n1 ≤ 2 * n + n' ∧ Below w.heap.size w w' := by
 have h := upz hL hL' hk hk'
 rw [rjoin_eq f f'] at h
 exact h
theorem ukz {aD aO : Option Addr} {nD cD nO cO : Nat} {D O : List (Int × Int)} (hD : Lab w.heap.size w aD nD cD D) (hO : Lab w.heap.size w aO nO cO O) (kD : nD < 1048576) (kO : nO < 1048576) (fD : Fit D) (fO : Fit O) :
  Calls prog 41 #[.slice aD nD cD, .slice aO nO cO] w fun e w' => e = .returned (.bool (leqB D (vyz (xtz O) []))) ∧ Below w.heap.size w w' := by
 have hB := brz w.heap.size w
 have H := ((((Labs.nil w).push (Lab.nil _ _)).push hD).push hO)
 clear hD hO
 have fnil := Fit.nil
 have fR : Fit (xtz O) := k6z fO
 have fJ : Fit (vyz (xtz O) []) := g7z fR Fit.nil
 go_enter func41, ntmps41
 go_wp2_with (first | (go_at_call 74; refine (rraise_f (H.get (by repeat (first | exact List.Mem.head _ | apply List.Mem.tail))) (by omega) (by assumption)).mono ?_; rintro e w1 ⟨ao1, m1, cap1, rfl, hl, kn, kb⟩; replace H := (H.next kb).push hl; replace hB := btz hB kb; clear kb hl) | (go_at_call 73; refine (rjoin_f (H.get (by repeat (first | exact List.Mem.head _ | apply List.Mem.tail))) (H.get (by repeat (first | exact List.Mem.head _ | apply List.Mem.tail))) (by omega) (by omega) (by assumption) (by assumption)).mono ?_; rintro e w1 ⟨ao1, m1, cap1, rfl, hl, kn, kb⟩; replace H := (H.next kb).push hl; replace hB := btz hB kb; clear kb hl) | (go_at_call 27; refine (rleq_f (H.get (by repeat (first | exact List.Mem.head _ | apply List.Mem.tail))) (H.get (by repeat (first | exact List.Mem.head _ | apply List.Mem.tail))) (by assumption) (by assumption)).mono ?_; rintro e w1 ⟨rfl, kb⟩; replace H := H.next kb; replace hB := btz hB kb; clear kb))
 go_ret
 exact ⟨rfl, hB⟩
end
section
open Go.RowKit Go.Shelf
attribute [local go_sem] Oper.semAt_some
theorem alw_no {l : List Int} {p : Int → Bool} {k : Nat} (hk : k < l.length) (h : p (l.getD k 0) = false) : l.all p = false := by
 rw [List.all_eq_false]
 exact ⟨_, jKz hk, by rw [h]; decide⟩
theorem alw_take {l : List Int} {p : Int → Bool} {k : Nat} (hk : k < l.length) (h : (l.take k).all p = true) (h1 : p (l.getD k 0) = true) : (l.take (k + 1)).all p = true := by
 rw [List.take_add_one, List.getElem?_eq_getElem hk, Option.toList_some, List.all_append, h]
 rw [List.getD_eq_getElem?_getD, List.getElem?_eq_getElem hk, Option.getD_some] at h1
 simp [h1]
def LbF (L : Lb) : Prop := Fit L ∧ L.length < 1048576
theorem fO_lab {X : List Ob} (h : ∀ x ∈ X, LbF x.label) (i : Int) : LbF (fO X i).label := by
 unfold fO
 cases hf : fnd X i with
 | none => exact ⟨Fit.nil, by decide⟩
 | some x => exact h x (wsz hf).2
theorem rlinks_w {w : World} {t ke ro : Int} {ao : Option Addr} {n cap : Nat} {X : List Ob} {C : Array Value} {o : Ob} (h : Obs w ao n cap X) (hq : ∀ x ∈ X, 0 ≤ x.quota ∧ x.quota ≤ 4096) (hlb : ∀ x ∈ X, LbF x.label) (ho : ObD (LtN w) w C o) (hsm : Small o) (hol : LbF o.label) : Calls prog 17 #[.agg #[.int .i64 t, .int .u64 ke, .int .u64 ro, .slice ao n cap], .agg C] w fun e w' => e = .returned (.bool (lnkB X o)) ∧ Below w.heap.size w w' := by
 have hmx : prog.follows .mixedOrders = true := by kernel_rfl
 have hz := ho.size
 obtain ⟨al, nl, cl, c5, hLk⟩ := ho.links
 obtain ⟨aD, nD, cD, c2, hLD⟩ := ho.label
 have hnD : nD < 1048576 := by rw [← hLD.1]; exact hol.2
 have c1 := ho.kind
 have c3 := ho.quota
 have hln : Hid (o.links.length = nl) := hLk.1
 have hlc := hLk.2.1
 have hlm := hLk.2.2.1.1
 have hzw : (prog.info? 25).map (·.size) = some (#[.int .i64 t, .int .u64 ke, .int .u64 ro, .slice ao n cap] : Array Value).size := by kernel_rfl
 have hus := fun (W : World) (hk : Below w.heap.size w W) => ruses_w (t := t) (ke := ke) (ro := ro) (qvz h hk) hq (ho.next hk) hsm
 have hfd := fun {W : World} {i : Int} (hk : Below w.heap.size w W) => jtz (t := t) (ke := ke) (ro := ro) (i := i) h hk
 have hL0 : Lab w.heap.size w aD nD cD o.label := hLD
 obtain ⟨p, hp⟩ : ∃ p : Int → Bool, Hid (p = fun i => (fnd X i).isSome && plcB o.label (fO X i).label) := ⟨_, rfl⟩
 have hR : Hid (lnkB X o = (o.links.all p && (!decide (o.kind = 2) || decide (xBz X o ≤ o.quota)))) := by show lnkB X o = _; unfold lnkB; rw [hp.out]
 have hno := fun (k : Nat) (hk : k < nl) (e : p (o.links.getD k 0) = false) => alw_no (p := p) (show k < o.links.length by rw [hln.out]; exact hk) e
 have hyes := fun (k : Nat) (hk : k < nl) => alw_take (p := p) (show k < o.links.length by rw [hln.out]; exact hk)
 have hfull : o.links.take nl = o.links := by rw [← hln.out]; exact List.take_length
 rw [hR.out]
 generalize xBz X o = us at hus ⊢
 obtain ⟨G, hG⟩ : ∃ G : Array Value, G = #[.int .i64 t, .int .u64 ke, .int .u64 ro, .slice ao n cap] := ⟨_, rfl⟩
 rw [← hG] at hzw hfd hus
 rw [← hG]
 clear hG
 go_enter func17, ntmps17
 go_wp2_with (first
  | (with_reducible refine qcz rfl 25 _ rfl G rfl ?_; intro B2 W2 hN2 hB2 hk)
  | (with_reducible refine qcz rfl 43 _ rfl C rfl ?_; intro B3 W3 hN3 hB3 hk3; replace hB2 := hB2.next hk3; replace hk := btz hk hk3))
 clear hN2 hN3 hk3
 go_loopw [5] (fun j wr => ∃ k : Nat, k ≤ nl ∧ j = .int .i64 k ∧ Hid ((o.links.take k).all p = true) ∧ Blk wr B2 G 25 ∧ Blk wr B3 C 43 ∧ Below w.heap.size w wr) (fun j _ => nl - (intOf j).toNat)
 case atStart => exact ⟨0, Nat.zero_le _, rfl, rfl, hB2, hB3, hk⟩
 case round =>
  clear hB2 hB3 hk
  obtain ⟨k, hkn1, rfl, hall, hB2, hB3, hk⟩ := hrel
  by_cases hkn : k < nl
  ·obtain ⟨b, off, rfl, hbb, hc⟩ := jRz hLk hkn
   have hkn' : (k : Int) < nl := by omega
   replace hno := hno k hkn
   replace hyes := hyes k hkn hall.out
   generalize o.links.getD k 0 = i at hc hno hyes
   go_wp2_with (first
    | (with_reducible refine qaz (by kernel_rfl) _ _ rfl B3 _ rfl _ _ hB3 _ c5 isAgg28 ?_))
   refine PgM.region_out (S := fun W => Blk W B2 G 25 ∧ Blk W B3 C 43 ∧ Below w.heap.size w W) hmx ⟨hB2.next (brz _ _).drew, hB3.next (brz _ _).drew, hk.trans ((brz _ _).drew.mono hk.size)⟩ (fun hS => ?_)
   generalize wr.drew = v6 at hS ⊢
   clear hk hB2 hB3 
   refine qlz (by kernel_rfl) (fun _ _ _ _ _ h => h) hS [(0, some (.agg G)), (1, none), (2, some (.slice (some ⟨b, off, none⟩) nl cl)), (3, none), (4, some (.pointer (some ⟨b, off + k, none⟩))), (5, some (.int .u64 i))] (l' := #[tt, tt, tt, tt, tt, tt, ff, ff, ff, ff, ff, ff, ff]) (a' := { tmps := #[.agg G, .agg C, .pointer (some ⟨B2, 0, none⟩), .pointer (some ⟨B3, 0, none⟩), u4, .int .i64 k, u6, u7, .int .i64 k, .pointer (some ⟨B3, 5, none⟩), .slice (some ⟨b, off, none⟩) nl cl, .int .i64 nl, .bool true, u13, u14, u15, .agg G, .pointer (some ⟨B3, 5, none⟩), .slice (some ⟨b, off, none⟩) nl cl, .int .i64 k, .pointer (some ⟨b, off + k, none⟩), .int .u64 i, u22, u23, u24, u25, u26, u27, u28, u29, u30, u31, u32, u33, u34, undef, undef, undef, undef, undef, undef, undef, undef, undef, undef, undef], defers := [] }) (obs := [.load 25 B2 0 (.agg G), .load 28 B3 5 (.slice (some ⟨b, off, none⟩) nl cl), .ia 28 (.slice (some ⟨b, off, none⟩) nl cl) (.int .i64 k) (.pointer (some ⟨b, off + k, none⟩)), .load 22 b (off + k) (.int .u64 i)]) (n := 7) (by kernel_rfl) (by kernel_rfl) ⟨qHz (fun _ h => h.1) underlying25 (by kernel_rfl) hzw, qhz (fun _ h => h.2.1) c5 isAgg28, jbz hkn, xVz (fun W h => (World.cell?_of_block (w := w) (a := ⟨b, off + k, none⟩) (h.2.2.block b hbb)).trans hc) isAgg22, trivial⟩ ?_
   refine share 2 #[true, true, true, true, true, true, true, true, true, true, true, false, false] (fun A W => ∃ (P6 : Nat) (C6 : Array Value), A = { tmps := #[.agg G, .agg C, .pointer (some ⟨B2, 0, none⟩), .pointer (some ⟨B3, 0, none⟩), u4, .int .i64 k, .pointer (some ⟨P6, 0, none⟩), u7, .int .i64 k, .pointer (some ⟨B3, 5, none⟩), .slice (some ⟨b, off, none⟩) nl cl, .int .i64 nl, .bool true, u13, u14, .tuple #[.agg C6, .bool (fnd X i).isSome], .agg G, .pointer (some ⟨B3, 5, none⟩), .slice (some ⟨b, off, none⟩) nl cl, .int .i64 k, .pointer (some ⟨b, off + k, none⟩), .int .u64 i, .tuple #[.agg C6, .bool (fnd X i).isSome], .agg C6, .bool (fnd X i).isSome, u25, u26, u27, u28, u29, u30, u31, u32, u33, u34, undef, undef, undef, undef, undef, undef, undef, undef, undef, undef, undef], defers := [] } ∧ (Blk W B2 G 25 ∧ Blk W B3 C 43 ∧ Below w.heap.size w W) ∧ Blk W P6 zC 43 ∧ v6.heap.size ≤ P6 ∧ ObD (LtN w) W C6 (fO X i) ∧ Below v6.heap.size v6 W) ?_ (fun rest => ?_)
   ·rintro A W ⟨P6, C6, rfl, hS1, hP0, hgP, o6, kv⟩
    obtain ⟨W6, hr6, hP6, q6⟩ := wpz hP0 (qfz o6.size) (qrz.trans o6.size.symm) o6.one
    refine qBz (i := 11) (n := 1) rfl (by kernel_rfl) ?_
    refine wtz (ty := 43) (B := P6) (off := 0) (v := .agg C6) (d := none) (by kernel_rfl) hr6 ?_
    have hwP : w.heap.size ≤ P6 := Nat.le_trans hS.2.2.size hgP
    have hS6 : Blk W6 B2 G 25 ∧ Blk W6 B3 C 43 ∧ Below w.heap.size w W6 := ⟨hS1.1.other q6 (by have := hS.1.lt; omega), hS1.2.1.other q6 (by have := hS.2.1.lt; omega), q6.below _ _ hwP hS1.2.2⟩
    replace o6 := ob_oth o6 hwP q6
    refine ⟨hS6, ?_⟩
    refine qlz (by kernel_rfl) (fun _ _ _ _ _ h => h) hS6 [(12, none)] (l' := #[tt, tt, tt, tt, tt, tt, tt, tt, tt, tt, tt, tt, tt]) (a' := { tmps := #[.agg G, .agg C, .pointer (some ⟨B2, 0, none⟩), .pointer (some ⟨B3, 0, none⟩), u4, .int .i64 k, .pointer (some ⟨P6, 0, none⟩), .bool (fnd X i).isSome, .int .i64 k, .pointer (some ⟨B3, 5, none⟩), .slice (some ⟨b, off, none⟩) nl cl, .int .i64 nl, .bool true, u13, u14, .tuple #[.agg C6, .bool (fnd X i).isSome], .agg G, .pointer (some ⟨B3, 5, none⟩), .slice (some ⟨b, off, none⟩) nl cl, .int .i64 k, .pointer (some ⟨b, off + k, none⟩), .int .u64 i, .tuple #[.agg C6, .bool (fnd X i).isSome], .agg C6, .bool (fnd X i).isSome, u25, u26, u27, u28, u29, u30, u31, u32, u33, u34, undef, undef, undef, undef, undef, undef, undef, undef, undef, undef, undef], defers := [] }) (obs := []) (n := 0) (by kernel_rfl) (by kernel_rfl) trivial ?_
    refine wpAnyH_done (by kernel_rfl) ?_ _
    obtain ⟨hB2, hB3, hk⟩ := hS6
    clear hS hS1 hP0 hgP hr6 q6 kv
    have hpi : Hid (p i = ((fnd X i).isSome && plcB o.label (fO X i).label)) := by show p i = _; rw [hp.out]
    have hlo := fO_lab hlb i
    obtain ⟨aO, nO, cO, cx2, hLO⟩ := o6.label
    have hnO : nO < 1048576 := by rw [← hLO.1]; exact hlo.2
    have hL6 : Lab W6.heap.size W6 aO nO cO (fO X i).label := hLO.lab fun b hb => ltz hb hk.size
    have hpl := ukz (Lab.next hL0 hk) hL6 hnD hnO hol.1 hlo.1
    change Calls prog _ _ W6 fun e w' => e = .returned (.bool (plcB o.label (fO X i).label)) ∧ _ at hpl
    generalize (fnd X i).isSome = bf at hpi ⊢
    generalize plcB o.label (fO X i).label = bp at hpi hpl
    clear hL6 hLO hlo o6
    cases bf with
    | false =>
     have hz0 := hno (by rw [hpi.out]; rfl)
     go_wp2
     go_ret
     exact ⟨by rw [hz0]; rfl, hk⟩
    | true =>
     cases bp with
     | false =>
      have hz0 := hno (by rw [hpi.out]; rfl)
      go_wp2_with (first
       | (with_reducible refine qaz (by kernel_rfl) _ _ rfl B3 _ rfl _ _ hB3 _ c2 isAgg27 ?_)
       | (with_reducible refine qaz (by kernel_rfl) _ _ rfl P6 _ rfl _ _ hP6 _ cx2 isAgg27 ?_)
       | (go_at_call 41; (with_reducible refine hpl.mono ?_); rintro e w7 ⟨rfl, hb7⟩; replace hk := btz hk hb7))
      go_ret
      exact ⟨by rw [hz0]; rfl, hk⟩
     | true =>
      have hy1 := hyes (by rw [hpi.out]; rfl)
      go_wp2_with (first
       | (with_reducible refine qaz (by kernel_rfl) _ _ rfl B3 _ rfl _ _ hB3 _ c2 isAgg27 ?_)
       | (with_reducible refine qaz (by kernel_rfl) _ _ rfl P6 _ rfl _ _ hP6 _ cx2 isAgg27 ?_)
       | (go_at_call 41; (with_reducible refine hpl.mono ?_); rintro e w7 ⟨rfl, hb7⟩; replace hB2 := hB2.next hb7; replace hB3 := hB3.next hb7; replace hk := btz hk hb7))
      go_roundw
      case rel => exact ⟨k + 1, by omega, by go_num, hy1, hB2, hB3, hk⟩
      case measure => simp [intOf]; omega
   ·refine xPz (i := 6) (j := 10) (n := 6) rfl (by kernel_rfl) ?_ ?_
    ·refine wMz (f := 9) (vs := [.agg G, .int .u64 i]) (d := some 22) (by kernel_rfl) call9 (hfd hS.2.2) ?_
     rintro e z1 ⟨C6, rfl, o6, hb101⟩
     have k1 := (brz v6.heap.size v6).trans (hb101.mono (brz v6.heap.size v6).size)
     have hS1 : Blk z1 B2 G 25 ∧ Blk z1 B3 C 43 ∧ Below w.heap.size w z1 := ⟨hS.1.next hb101, hS.2.1.next hb101, hS.2.2.trans (hb101.mono hS.2.2.size)⟩
     refine ⟨_, rfl, hS1, ?_⟩
     refine wuz (by kernel_rfl) (fun _ _ _ _ _ h => h) hS1 [7, 8, 9] (l' := #[tt, tt, tt, tt, tt, tt, tt, tt, tt, tt, ff, ff, ff]) (a' := { tmps := #[.agg G, .agg C, .pointer (some ⟨B2, 0, none⟩), .pointer (some ⟨B3, 0, none⟩), u4, .int .i64 k, u6, u7, .int .i64 k, .pointer (some ⟨B3, 5, none⟩), .slice (some ⟨b, off, none⟩) nl cl, .int .i64 nl, .bool true, u13, u14, .tuple #[.agg C6, .bool (fnd X i).isSome], .agg G, .pointer (some ⟨B3, 5, none⟩), .slice (some ⟨b, off, none⟩) nl cl, .int .i64 k, .pointer (some ⟨b, off + k, none⟩), .int .u64 i, .tuple #[.agg C6, .bool (fnd X i).isSome], .agg C6, .bool (fnd X i).isSome, u25, u26, u27, u28, u29, u30, u31, u32, u33, u34, undef, undef, undef, undef, undef, undef, undef, undef, undef, undef, undef], defers := [] }) (n := 3) (by kernel_rfl) (by kernel_rfl) ?_
     refine qBz (i := 10) (n := 2) rfl (by kernel_rfl) ?_
     refine wUz (ty := 43) (z := zC) (d := some 6) (by kernel_rfl) qwz ?_
     intro P6 z2 hN hP6 hb102
     have hgP : v6.heap.size ≤ P6 := by have := hN.out; have := k1.size; omega
     replace o6 := ob_lt o6 hS1.2.2 hb102
     have k2 := btz k1 hb102
     have hS2 : Blk z2 B2 G 25 ∧ Blk z2 B3 C 43 ∧ Below w.heap.size w z2 := ⟨hS1.1.next hb102, hS1.2.1.next hb102, hS1.2.2.trans (hb102.mono hS1.2.2.size)⟩
     refine ⟨hS2, ?_⟩
     exact rest _ _ ⟨P6, C6, rfl, hS2, hP6, hgP, o6, k2⟩
    ·refine wUz (ty := 43) (z := zC) (d := some 6) (by kernel_rfl) qwz ?_
     intro P6 z3 hN hP6 hb103
     have hgP : v6.heap.size ≤ P6 := by have := hN.out; have := (brz v6.heap.size v6).size; omega
     have k3 := (brz v6.heap.size v6).trans (hb103.mono (brz v6.heap.size v6).size)
     have hS3 : Blk z3 B2 G 25 ∧ Blk z3 B3 C 43 ∧ Below w.heap.size w z3 := ⟨hS.1.next hb103, hS.2.1.next hb103, hS.2.2.trans (hb103.mono hS.2.2.size)⟩
     refine ⟨hS3, ?_⟩
     refine qBz (i := 6) (n := 5) rfl (by kernel_rfl) ?_
     refine wMz (f := 9) (vs := [.agg G, .int .u64 i]) (d := some 22) (by kernel_rfl) call9 (hfd hS3.2.2) ?_
     rintro e z4 ⟨C6, rfl, o6, hb104⟩
     replace hP6 := hP6.next hb104
     have k4 := btz k3 hb104
     have hS4 : Blk z4 B2 G 25 ∧ Blk z4 B3 C 43 ∧ Below w.heap.size w z4 := ⟨hS3.1.next hb104, hS3.2.1.next hb104, hS3.2.2.trans (hb104.mono hS3.2.2.size)⟩
     refine ⟨_, rfl, hS4, ?_⟩
     refine wuz (by kernel_rfl) (fun _ _ _ _ _ h => h) hS4 [7, 8, 9] (l' := #[tt, tt, tt, tt, tt, tt, tt, tt, tt, tt, tt, ff, ff]) (a' := { tmps := #[.agg G, .agg C, .pointer (some ⟨B2, 0, none⟩), .pointer (some ⟨B3, 0, none⟩), u4, .int .i64 k, .pointer (some ⟨P6, 0, none⟩), u7, .int .i64 k, .pointer (some ⟨B3, 5, none⟩), .slice (some ⟨b, off, none⟩) nl cl, .int .i64 nl, .bool true, u13, u14, .tuple #[.agg C6, .bool (fnd X i).isSome], .agg G, .pointer (some ⟨B3, 5, none⟩), .slice (some ⟨b, off, none⟩) nl cl, .int .i64 k, .pointer (some ⟨b, off + k, none⟩), .int .u64 i, .tuple #[.agg C6, .bool (fnd X i).isSome], .agg C6, .bool (fnd X i).isSome, u25, u26, u27, u28, u29, u30, u31, u32, u33, u34, undef, undef, undef, undef, undef, undef, undef, undef, undef, undef, undef], defers := [] }) (n := 2) (by kernel_rfl) (by kernel_rfl) ?_
     exact rest _ _ ⟨P6, C6, rfl, hS4, hP6, hgP, o6, k4⟩
  ·obtain rfl : k = nl := by omega
   rw [hfull] at hall
   go_wp2_with (first
    | (with_reducible refine qaz (by kernel_rfl) _ _ rfl B3 _ rfl _ _ hB3 _ c5 isAgg28 ?_))
   refine PgM.region_out (S := fun W => Blk W B2 G 25 ∧ Blk W B3 C 43 ∧ Below w.heap.size w W) hmx ⟨hB2.next (brz _ _).drew, hB3.next (brz _ _).drew, hk.trans ((brz _ _).drew.mono hk.size)⟩ (fun hS => ?_)
   generalize wr.drew = v6 at hS ⊢
   clear hB2 hB3 hk
   by_cases k2 : o.kind = 2
   ·have q1 : Hid (¬ ¬ o.kind = 2) := fun q => q k2
    refine quz (by kernel_rfl) (fun _ _ _ _ _ h => h) hS [(0, none), (1, some (.int .i64 o.kind)), (2, some (.bool false)), (3, none), (4, some (.agg G)), (5, some (.agg C)), (7, none), (8, some (.int .i64 o.quota))] (obs := [.load 3 B3 1 (.int .i64 o.kind), .test .neq 3 (.tmp 36) (.const (.int .i64 2)) (.int .i64 o.kind) (.int .i64 2) (.bool false), .load 25 B2 0 (.agg G), .load 43 B3 0 (.agg C), .load 3 B3 3 (.int .i64 o.quota)]) (n := 4) (by kernel_rfl) (by kernel_rfl) ⟨qhz (fun _ h => h.2.1) c1 isAgg3, qWz (fun _ => wjz _ _ _ _ _ _) q1, qHz (fun _ h => h.1) underlying25 (by kernel_rfl) hzw, qHz (fun _ h => h.2.1) underlying43 (by kernel_rfl) (qfz hz), qhz (fun _ h => h.2.1) c3 isAgg3, trivial⟩ ?_
    refine qoz (i := 6) (fuel := 3) (f := 42) (vs := [.agg G, .agg C]) (d := some 41) (by kernel_rfl) (by kernel_rfl) (by kernel_rfl) call42 (hus _ hS.2.2) ?_
    rintro e v7 ⟨rfl, hb7⟩
    have hS2 : Blk v7 B2 G 25 ∧ Blk v7 B3 C 43 ∧ Below w.heap.size w v7 := ⟨hS.1.next hb7, hS.2.1.next hb7, hS.2.2.trans (hb7.mono hS.2.2.size)⟩
    refine ⟨_, rfl, hS2, ?_⟩
    by_cases q3 : us ≤ o.quota
    ·replace q3 : Hid (us ≤ o.quota) := q3
     refine qlz (by kernel_rfl) (fun _ _ _ _ _ h => h) hS2 [(9, some (.bool true)), (10, none), (11, none)] (l' := #[tt, tt, tt, tt, tt, tt, tt, tt, tt, tt, tt, tt]) (a' := { tmps := #[.agg G, .agg C, .pointer (some ⟨B2, 0, none⟩), .pointer (some ⟨B3, 0, none⟩), .bool true, .int .i64 k, u6, u7, .int .i64 k, .pointer (some ⟨B3, 5, none⟩), .slice al k cl, .int .i64 k, .bool false, u13, u14, u15, u16, u17, u18, u19, u20, u21, u22, u23, u24, u25, u26, u27, u28, u29, u30, u31, u32, u33, u34, .pointer (some ⟨B3, 1, none⟩), .int .i64 o.kind, .bool false, .bool false, .agg G, .agg C, .int .i64 us, .pointer (some ⟨B3, 3, none⟩), .int .i64 o.quota, .bool true, .bool true], defers := [] }) (obs := [.test .leq 3 (.tmp 41) (.tmp 43) (.int .i64 us) (.int .i64 o.quota) (.bool true)]) (n := 0) (by kernel_rfl) (by kernel_rfl) ⟨qFz (fun _ => q9z _ _ _ _ _ _) q3, trivial⟩ ?_
     refine wpAnyH_done (by kernel_rfl) ?_ _
     go_wp2
     go_ret
     exact ⟨by rw [hall.out]; simp [q3.out], hS2.2.2⟩
    ·replace q3 : Hid (¬ us ≤ o.quota) := q3
     refine qlz (by kernel_rfl) (fun _ _ _ _ _ h => h) hS2 [(9, some (.bool false)), (10, none), (11, none)] (l' := #[tt, tt, tt, tt, tt, tt, tt, tt, tt, tt, tt, tt]) (a' := { tmps := #[.agg G, .agg C, .pointer (some ⟨B2, 0, none⟩), .pointer (some ⟨B3, 0, none⟩), .bool false, .int .i64 k, u6, u7, .int .i64 k, .pointer (some ⟨B3, 5, none⟩), .slice al k cl, .int .i64 k, .bool false, u13, u14, u15, u16, u17, u18, u19, u20, u21, u22, u23, u24, u25, u26, u27, u28, u29, u30, u31, u32, u33, u34, .pointer (some ⟨B3, 1, none⟩), .int .i64 o.kind, .bool false, .bool false, .agg G, .agg C, .int .i64 us, .pointer (some ⟨B3, 3, none⟩), .int .i64 o.quota, .bool false, .bool false], defers := [] }) (obs := [.test .leq 3 (.tmp 41) (.tmp 43) (.int .i64 us) (.int .i64 o.quota) (.bool false)]) (n := 0) (by kernel_rfl) (by kernel_rfl) ⟨qWz (fun _ => q9z _ _ _ _ _ _) q3, trivial⟩ ?_
     refine wpAnyH_done (by kernel_rfl) ?_ _
     go_wp2
     go_ret
     exact ⟨by rw [hall.out]; simp [q3.out], hS2.2.2⟩
   ·have q1 : Hid (¬ o.kind = 2) := k2
    refine qlz (by kernel_rfl) (fun _ _ _ _ _ h => h) hS [(0, none), (1, some (.int .i64 o.kind)), (2, some (.bool true)), (3, none), (4, none), (5, none), (6, none), (7, none), (8, none), (9, none), (10, none), (11, none)] (l' := #[tt, tt, tt, tt, tt, tt, tt, tt, tt, tt, tt, tt]) (a' := { tmps := #[.agg G, .agg C, .pointer (some ⟨B2, 0, none⟩), .pointer (some ⟨B3, 0, none⟩), .bool true, .int .i64 k, u6, u7, .int .i64 k, .pointer (some ⟨B3, 5, none⟩), .slice al k cl, .int .i64 k, .bool false, u13, u14, u15, u16, u17, u18, u19, u20, u21, u22, u23, u24, u25, u26, u27, u28, u29, u30, u31, u32, u33, u34, .pointer (some ⟨B3, 1, none⟩), .int .i64 o.kind, .bool true, .bool true, undef, undef, undef, undef, undef, undef, .bool true], defers := [] }) (obs := [.load 3 B3 1 (.int .i64 o.kind), .test .neq 3 (.tmp 36) (.const (.int .i64 2)) (.int .i64 o.kind) (.int .i64 2) (.bool true)]) (n := 0) (by kernel_rfl) (by kernel_rfl) ⟨qhz (fun _ h => h.2.1) c1 isAgg3, qFz (fun _ => wjz _ _ _ _ _ _) q1, trivial⟩ ?_
    refine wpAnyH_done (by kernel_rfl) ?_ _
    go_wp2
    go_ret
    exact ⟨by rw [hall.out]; simp [k2], hS.2.2⟩
end
end Go.Proofs.YthnpckhmdnjikaaGreat
