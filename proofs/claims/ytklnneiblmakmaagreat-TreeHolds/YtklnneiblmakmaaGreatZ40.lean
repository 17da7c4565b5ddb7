/-
 PROVED HERE: what the document's up returns when it is called (a contract over this translation); what a view's laid return. What is asked stands at each.
-/
import Derived.Test.YtklnneiblmakmaaGreatZ36
import Derived.Test.YtklnneiblmakmaaGreatZ39
namespace Go.Proofs.YtklnneiblmakmaaGreat
set_option maxRecDepth 100000
set_option maxHeartbeats 8000000
set_option linter.unusedVariables false
open Go.Proofs.Tryz
section
open Go.RowKit Go.Shelf
attribute [local go_sem] Oper.semAt_some
def AtW (v W : World) : Prop := W = v
theorem AtW.blk {v W : World} {B : Nat} {C : Array Value} {t : TypeId} (h : AtW v W) (k : Blk v B C t) : Blk W B C t := by
 unfold AtW at h
 rw [h]
 exact k
theorem AtW.cel {v W : World} {p : Addr} {x : Value} (h : AtW v W) (k : v.cell? p = some x) : W.cell? p = some x := by
 unfold AtW at h
 rw [h]
 exact k
theorem wAz {S : World → Prop} {ao : Option Addr} {n cap : Nat} : Obl.holds prog S (.ln 28 3 (.slice ao n cap) (.int .i64 n)) := fun w hS => by
 go_simp
theorem u3z (L : List Int) : L.getLast?.getD 0 = L.getD (L.length - 1) 0 := by
 rw [List.getLast?_eq_getElem?, List.getD_eq_getElem?_getD]
theorem rup_w {w : World} {t ke ro : Int} {ao : Option Addr} {n cap : Nat} {X : List Ob} {i : Int} (h : Obs w ao n cap X) (hn16 : n ≤ 4096) : Calls prog 57 #[.agg #[.int .i64 t, .int .u64 ke, .int .u64 ro, .slice ao n cap], .int .u64 i] w fun e w' => e = .returned (.bool (upB X ro i)) ∧ Below w.heap.size w w' := by
 have hmx : prog.follows .mixedOrders = true := by kernel_rfl
 have g2 : (#[.int .i64 t, .int .u64 ke, .int .u64 ro, .slice ao n cap] : Array Value)[2]? = some (.int .u64 ro) := rfl
 have hzw : (prog.info? 25).map (·.size) = some (#[.int .i64 t, .int .u64 ke, .int .u64 ro, .slice ao n cap] : Array Value).size := by kernel_rfl
 have hab := fun (W : World) (hk : Below w.heap.size w W) => rabove_w (t := t) (ke := ke) (ro := ro) (i := i) (qzz h hk) hn16
 have hlen : (rabv X i).length ≤ 4096 := by
  have hl : X.length = n := h.1
  unfold rabv
  split
  ·omega
  ·exact Nat.zero_le _
 have hU : Hid (upB X ro i = ((decide (i = ro) && decide ((rabv X i).length = 0)) || (decide (0 < (rabv X i).length) && decide ((rabv X i).getD ((rabv X i).length - 1) 0 = ro)))) := by
  show upB X ro i = _
  unfold upB
  rw [u3z]
 rw [hU.out]
 generalize rabv X i = L at hab hlen
 obtain ⟨G, hG⟩ : ∃ G : Array Value, G = #[.int .i64 t, .int .u64 ke, .int .u64 ro, .slice ao n cap] := ⟨_, rfl⟩
 rw [← hG] at g2 hzw hab
 rw [← hG]
 clear hG
 go_enter func57, ntmps57
 go_wp2_with (first
  | (with_reducible refine qdz rfl 25 _ rfl G rfl ?_; intro B2 W2 hN2 hB2 hk)
  | (with_reducible refine qez (by kernel_rfl) _ _ rfl B2 rfl G hB2 _ underlying25 (by kernel_rfl) hzw ?_)
  | (go_at_call 90; (with_reducible refine (hab _ hk).mono ?_); rintro e w1 ⟨v, rfl, hown, hb1⟩; replace hB2 := hB2.next hb1; replace hk := btz hk hb1; obtain ⟨al, cl, rfl, hct⟩ := xPz hown))
 clear hN2
 have hkd := (Below.refl w1.heap.size w1).drew
 refine PgM.region_out (S := AtW w1.drew) hmx rfl (fun hS => ?_)
 replace hB2 := hB2.next hkd
 replace hk := btz hk hkd
 have hct2 := hct.laterK fun b hb => hkd.block b hb.2
 clear hct hown
 generalize w1.drew = W5 at hS hB2 hk hct2 ⊢
 clear hkd hb1
 by_cases q2 : L.length = 0
 ·replace q2 : Hid (L.length = 0) := q2
  have q2i : Hid ((L.length : Int) = 0) := by show _ = _; have := q2.out; omega
  have q2p : Hid (¬ (0 : Int) < (L.length : Int)) := by refine (?_ : ¬ (0 : Int) < (L.length : Int)); have := q2.out; omega
  by_cases q1 : i = ro
  ·replace q1 : Hid (i = ro) := q1
   refine qiz (by kernel_rfl) (fun _ _ _ _ _ h => h) hS [(0, none), (1, none), (2, some (.int .u64 ro)), (3, some (.bool true)), (4, none), (5, none), (6, some (.int .i64 L.length)), (7, some (.bool true)), (8, none), (9, none), (10, none), (11, none), (12, none), (13, none), (14, none), (15, none), (16, none), (17, none), (18, none), (19, none), (20, none), (21, none), (22, none), (23, none), (24, none), (25, none)] (l' := #[tt, tt, tt, tt, tt, tt, tt, tt, tt, tt, tt, tt, tt, tt, tt, tt, tt, tt, tt, tt, tt, tt, tt, tt, tt, tt]) (a' := { tmps := #[.agg G, .int .u64 i, .pointer (some ⟨B2, 0, none⟩), undef, .bool true, .slice al L.length cl, .agg G, .int .u64 i, .slice al L.length cl, .int .u64 i, .pointer (some ⟨B2, 2, none⟩), .int .u64 ro, .bool true, .bool true, .slice al L.length cl, .int .i64 L.length, .bool true, .bool true, .bool true, ud, ud, ud, ud, ud, ud, ud, ud, ud, ud, ud, ud, ud, undef, .bool true], defers := [] }) (obs := [.load 22 B2 2 (.int .u64 ro), .test .eql 22 (.tmp 9) (.tmp 11) (.int .u64 i) (.int .u64 ro) (.bool true), .ln 28 3 (.slice al L.length cl) (.int .i64 L.length), .test .eql 3 (.tmp 15) (.const (.int .i64 0)) (.int .i64 L.length) (.int .i64 0) (.bool true)]) (n := 0) (by kernel_rfl) (by kernel_rfl) ⟨qhz (fun _ e => AtW.blk e hB2) g2 isAgg22, qFz (fun _ => qvz _ _ _ _ _ _) q1, wAz, qFz (fun _ => qvz _ _ _ _ _ _) q2i, trivial⟩ ?_
   refine wpAnyH_done (by kernel_rfl) ?_ _
   go_wp2
   go_ret
   exact ⟨by rw [List.eq_nil_of_length_eq_zero q2.out]; simp [q1.out], hk⟩
  ·replace q1 : Hid (¬ i = ro) := q1
   refine qiz (by kernel_rfl) (fun _ _ _ _ _ h => h) hS [(0, none), (1, none), (2, some (.int .u64 ro)), (3, some (.bool false)), (4, none), (5, none), (6, none), (7, none), (8, none), (9, none), (10, none), (11, some (.int .i64 L.length)), (12, some (.bool false)), (13, none), (14, none), (15, none), (16, none), (17, none), (18, none), (19, none), (20, none), (21, none), (22, none), (23, none), (24, none), (25, none)] (l' := #[tt, tt, tt, tt, tt, tt, tt, tt, tt, tt, tt, tt, tt, tt, tt, tt, tt, tt, tt, tt, tt, tt, tt, tt, tt, tt]) (a' := { tmps := #[.agg G, .int .u64 i, .pointer (some ⟨B2, 0, none⟩), undef, .bool false, .slice al L.length cl, .agg G, .int .u64 i, .slice al L.length cl, .int .u64 i, .pointer (some ⟨B2, 2, none⟩), .int .u64 ro, .bool false, .bool false, ud, ud, undef, .bool false, .bool false, .slice al L.length cl, .int .i64 L.length, .bool false, .bool false, ud, ud, ud, ud, ud, ud, ud, ud, undef, .bool false, .bool false], defers := [] }) (obs := [.load 22 B2 2 (.int .u64 ro), .test .eql 22 (.tmp 9) (.tmp 11) (.int .u64 i) (.int .u64 ro) (.bool false), .ln 28 3 (.slice al L.length cl) (.int .i64 L.length), .test .gtr 3 (.tmp 20) (.const (.int .i64 0)) (.int .i64 L.length) (.int .i64 0) (.bool false)]) (n := 0) (by kernel_rfl) (by kernel_rfl) ⟨qhz (fun _ e => AtW.blk e hB2) g2 isAgg22, qRz (fun _ => qvz _ _ _ _ _ _) q1, wAz, qRz (fun _ => qAz _ _ _ _ _ _) q2p, trivial⟩ ?_
   refine wpAnyH_done (by kernel_rfl) ?_ _
   go_wp2
   go_ret
   exact ⟨by rw [List.eq_nil_of_length_eq_zero q2.out]; simp [q1.out], hk⟩
 ·replace q2 : Hid (¬ L.length = 0) := q2
  obtain ⟨m, hm⟩ : ∃ m, Hid (L.length = m + 1) := ⟨L.length - 1, by show _ = _; have := q2.out; omega⟩
  have hm2 : m < L.length := by have := hm.out; omega
  have hms : IntKind.i64.wrap ((L.length : Int) - 1) = (m : Int) := by rw [IntKind.wrap_i64]; have := hm.out; omega
  have q2i : Hid (¬ (L.length : Int) = 0) := by refine (?_ : ¬ (L.length : Int) = 0); have := q2.out; omega
  have q2p : Hid ((0 : Int) < (L.length : Int)) := by refine (?_ : (0 : Int) < (L.length : Int)); have := q2.out; omega
  obtain ⟨b, off, rfl, hbb, hc⟩ := jpz hct2 hm2
  have hlz : L.getD (L.length - 1) 0 = L.getD m 0 := by rw [hm.out]; rfl
  generalize L.getD m 0 = z at hc hlz
  have q2q : 0 < L.length := by omega
  by_cases q1 : i = ro
  ·replace q1 : Hid (i = ro) := q1
   by_cases q3 : z = ro
   ·replace q3 : Hid (z = ro) := q3
    refine qiz (by kernel_rfl) (fun _ _ _ _ _ h => h) hS [(0, none), (1, none), (2, some (.int .u64 ro)), (3, some (.bool true)), (4, none), (5, none), (6, some (.int .i64 L.length)), (7, some (.bool false)), (8, none), (9, none), (10, none), (11, some (.int .i64 L.length)), (12, some (.bool true)), (13, none), (14, none), (15, none), (16, some (.int .i64 L.length)), (17, some (.int .i64 m)), (18, some (.pointer (some ⟨b, off + m, none⟩))), (19, some (.int .u64 z)), (20, none), (21, some (.int .u64 ro)), (22, some (.bool true)), (23, none), (24, none), (25, none)] (l' := #[tt, tt, tt, tt, tt, tt, tt, tt, tt, tt, tt, tt, tt, tt, tt, tt, tt, tt, tt, tt, tt, tt, tt, tt, tt, tt]) (a' := { tmps := #[.agg G, .int .u64 i, .pointer (some ⟨B2, 0, none⟩), undef, .bool true, .slice (some ⟨b, off, none⟩) L.length cl, .agg G, .int .u64 i, .slice (some ⟨b, off, none⟩) L.length cl, .int .u64 i, .pointer (some ⟨B2, 2, none⟩), .int .u64 ro, .bool true, .bool true, .slice (some ⟨b, off, none⟩) L.length cl, .int .i64 L.length, .bool false, .bool false, .bool false, .slice (some ⟨b, off, none⟩) L.length cl, .int .i64 L.length, .bool true, .bool true, .slice (some ⟨b, off, none⟩) L.length cl, .slice (some ⟨b, off, none⟩) L.length cl, .int .i64 L.length, .int .i64 m, .pointer (some ⟨b, off + m, none⟩), .int .u64 z, .pointer (some ⟨B2, 2, none⟩), .int .u64 ro, .bool true, .bool true, .bool true], defers := [] }) (obs := [.load 22 B2 2 (.int .u64 ro), .test .eql 22 (.tmp 9) (.tmp 11) (.int .u64 i) (.int .u64 ro) (.bool true), .ln 28 3 (.slice (some ⟨b, off, none⟩) L.length cl) (.int .i64 L.length), .test .eql 3 (.tmp 15) (.const (.int .i64 0)) (.int .i64 L.length) (.int .i64 0) (.bool false), .ln 28 3 (.slice (some ⟨b, off, none⟩) L.length cl) (.int .i64 L.length), .test .gtr 3 (.tmp 20) (.const (.int .i64 0)) (.int .i64 L.length) (.int .i64 0) (.bool true), .ln 28 3 (.slice (some ⟨b, off, none⟩) L.length cl) (.int .i64 L.length), .test .sub 3 (.tmp 25) (.const (.int .i64 1)) (.int .i64 L.length) (.int .i64 1) (.int .i64 m), .ia 28 (.slice (some ⟨b, off, none⟩) L.length cl) (.int .i64 m) (.pointer (some ⟨b, off + m, none⟩)), .load 22 b (off + m) (.int .u64 z), .load 22 B2 2 (.int .u64 ro), .test .eql 22 (.tmp 28) (.tmp 30) (.int .u64 z) (.int .u64 ro) (.bool true)]) (n := 0) (by kernel_rfl) (by kernel_rfl) ⟨qhz (fun _ e => AtW.blk e hB2) g2 isAgg22, qFz (fun _ => qvz _ _ _ _ _ _) q1, wAz, qRz (fun _ => qvz _ _ _ _ _ _) q2i, wAz, qFz (fun _ => qAz _ _ _ _ _ _) q2p, wAz, xKz hm hms, kPz hm2, xBz (fun _ e => AtW.cel e hc) isAgg22, qhz (fun _ e => AtW.blk e hB2) g2 isAgg22, qFz (fun _ => qvz _ _ _ _ _ _) q3, trivial⟩ ?_
    refine wpAnyH_done (by kernel_rfl) ?_ _
    go_wp2
    go_ret
    exact ⟨by rw [hlz]; simp [q1.out, q2.out, q2q, q3.out], hk⟩
   ·replace q3 : Hid (¬ z = ro) := q3
    refine qiz (by kernel_rfl) (fun _ _ _ _ _ h => h) hS [(0, none), (1, none), (2, some (.int .u64 ro)), (3, some (.bool true)), (4, none), (5, none), (6, some (.int .i64 L.length)), (7, some (.bool false)), (8, none), (9, none), (10, none), (11, some (.int .i64 L.length)), (12, some (.bool true)), (13, none), (14, none), (15, none), (16, some (.int .i64 L.length)), (17, some (.int .i64 m)), (18, some (.pointer (some ⟨b, off + m, none⟩))), (19, some (.int .u64 z)), (20, none), (21, some (.int .u64 ro)), (22, some (.bool false)), (23, none), (24, none), (25, none)] (l' := #[tt, tt, tt, tt, tt, tt, tt, tt, tt, tt, tt, tt, tt, tt, tt, tt, tt, tt, tt, tt, tt, tt, tt, tt, tt, tt]) (a' := { tmps := #[.agg G, .int .u64 i, .pointer (some ⟨B2, 0, none⟩), undef, .bool false, .slice (some ⟨b, off, none⟩) L.length cl, .agg G, .int .u64 i, .slice (some ⟨b, off, none⟩) L.length cl, .int .u64 i, .pointer (some ⟨B2, 2, none⟩), .int .u64 ro, .bool true, .bool true, .slice (some ⟨b, off, none⟩) L.length cl, .int .i64 L.length, .bool false, .bool false, .bool false, .slice (some ⟨b, off, none⟩) L.length cl, .int .i64 L.length, .bool true, .bool true, .slice (some ⟨b, off, none⟩) L.length cl, .slice (some ⟨b, off, none⟩) L.length cl, .int .i64 L.length, .int .i64 m, .pointer (some ⟨b, off + m, none⟩), .int .u64 z, .pointer (some ⟨B2, 2, none⟩), .int .u64 ro, .bool false, .bool false, .bool false], defers := [] }) (obs := [.load 22 B2 2 (.int .u64 ro), .test .eql 22 (.tmp 9) (.tmp 11) (.int .u64 i) (.int .u64 ro) (.bool true), .ln 28 3 (.slice (some ⟨b, off, none⟩) L.length cl) (.int .i64 L.length), .test .eql 3 (.tmp 15) (.const (.int .i64 0)) (.int .i64 L.length) (.int .i64 0) (.bool false), .ln 28 3 (.slice (some ⟨b, off, none⟩) L.length cl) (.int .i64 L.length), .test .gtr 3 (.tmp 20) (.const (.int .i64 0)) (.int .i64 L.length) (.int .i64 0) (.bool true), .ln 28 3 (.slice (some ⟨b, off, none⟩) L.length cl) (.int .i64 L.length), .test .sub 3 (.tmp 25) (.const (.int .i64 1)) (.int .i64 L.length) (.int .i64 1) (.int .i64 m), .ia 28 (.slice (some ⟨b, off, none⟩) L.length cl) (.int .i64 m) (.pointer (some ⟨b, off + m, none⟩)), .load 22 b (off + m) (.int .u64 z), .load 22 B2 2 (.int .u64 ro), .test .eql 22 (.tmp 28) (.tmp 30) (.int .u64 z) (.int .u64 ro) (.bool false)]) (n := 0) (by kernel_rfl) (by kernel_rfl) ⟨qhz (fun _ e => AtW.blk e hB2) g2 isAgg22, qFz (fun _ => qvz _ _ _ _ _ _) q1, wAz, qRz (fun _ => qvz _ _ _ _ _ _) q2i, wAz, qFz (fun _ => qAz _ _ _ _ _ _) q2p, wAz, xKz hm hms, kPz hm2, xBz (fun _ e => AtW.cel e hc) isAgg22, qhz (fun _ e => AtW.blk e hB2) g2 isAgg22, qRz (fun _ => qvz _ _ _ _ _ _) q3, trivial⟩ ?_
    refine wpAnyH_done (by kernel_rfl) ?_ _
    go_wp2
    go_ret
    exact ⟨by rw [hlz]; simp [q1.out, q2.out, q2q, q3.out], hk⟩
  ·replace q1 : Hid (¬ i = ro) := q1
   by_cases q3 : z = ro
   ·replace q3 : Hid (z = ro) := q3
    refine qiz (by kernel_rfl) (fun _ _ _ _ _ h => h) hS [(0, none), (1, none), (2, some (.int .u64 ro)), (3, some (.bool false)), (4, none), (5, none), (6, none), (7, none), (8, none), (9, none), (10, none), (11, some (.int .i64 L.length)), (12, some (.bool true)), (13, none), (14, none), (15, none), (16, some (.int .i64 L.length)), (17, some (.int .i64 m)), (18, some (.pointer (some ⟨b, off + m, none⟩))), (19, some (.int .u64 z)), (20, none), (21, some (.int .u64 ro)), (22, some (.bool true)), (23, none), (24, none), (25, none)] (l' := #[tt, tt, tt, tt, tt, tt, tt, tt, tt, tt, tt, tt, tt, tt, tt, tt, tt, tt, tt, tt, tt, tt, tt, tt, tt, tt]) (a' := { tmps := #[.agg G, .int .u64 i, .pointer (some ⟨B2, 0, none⟩), undef, .bool true, .slice (some ⟨b, off, none⟩) L.length cl, .agg G, .int .u64 i, .slice (some ⟨b, off, none⟩) L.length cl, .int .u64 i, .pointer (some ⟨B2, 2, none⟩), .int .u64 ro, .bool false, .bool false, ud, ud, undef, .bool false, .bool false, .slice (some ⟨b, off, none⟩) L.length cl, .int .i64 L.length, .bool true, .bool true, .slice (some ⟨b, off, none⟩) L.length cl, .slice (some ⟨b, off, none⟩) L.length cl, .int .i64 L.length, .int .i64 m, .pointer (some ⟨b, off + m, none⟩), .int .u64 z, .pointer (some ⟨B2, 2, none⟩), .int .u64 ro, .bool true, .bool true, .bool true], defers := [] }) (obs := [.load 22 B2 2 (.int .u64 ro), .test .eql 22 (.tmp 9) (.tmp 11) (.int .u64 i) (.int .u64 ro) (.bool false), .ln 28 3 (.slice (some ⟨b, off, none⟩) L.length cl) (.int .i64 L.length), .test .gtr 3 (.tmp 20) (.const (.int .i64 0)) (.int .i64 L.length) (.int .i64 0) (.bool true), .ln 28 3 (.slice (some ⟨b, off, none⟩) L.length cl) (.int .i64 L.length), .test .sub 3 (.tmp 25) (.const (.int .i64 1)) (.int .i64 L.length) (.int .i64 1) (.int .i64 m), .ia 28 (.slice (some ⟨b, off, none⟩) L.length cl) (.int .i64 m) (.pointer (some ⟨b, off + m, none⟩)), .load 22 b (off + m) (.int .u64 z), .load 22 B2 2 (.int .u64 ro), .test .eql 22 (.tmp 28) (.tmp 30) (.int .u64 z) (.int .u64 ro) (.bool true)]) (n := 0) (by kernel_rfl) (by kernel_rfl) ⟨qhz (fun _ e => AtW.blk e hB2) g2 isAgg22, qRz (fun _ => qvz _ _ _ _ _ _) q1, wAz, qFz (fun _ => qAz _ _ _ _ _ _) q2p, wAz, xKz hm hms, kPz hm2, xBz (fun _ e => AtW.cel e hc) isAgg22, qhz (fun _ e => AtW.blk e hB2) g2 isAgg22, qFz (fun _ => qvz _ _ _ _ _ _) q3, trivial⟩ ?_
    refine wpAnyH_done (by kernel_rfl) ?_ _
    go_wp2
    go_ret
    exact ⟨by rw [hlz]; simp [q1.out, q2.out, q2q, q3.out], hk⟩
   ·replace q3 : Hid (¬ z = ro) := q3
    refine qiz (by kernel_rfl) (fun _ _ _ _ _ h => h) hS [(0, none), (1, none), (2, some (.int .u64 ro)), (3, some (.bool false)), (4, none), (5, none), (6, none), (7, none), (8, none), (9, none), (10, none), (11, some (.int .i64 L.length)), (12, some (.bool true)), (13, none), (14, none), (15, none), (16, some (.int .i64 L.length)), (17, some (.int .i64 m)), (18, some (.pointer (some ⟨b, off + m, none⟩))), (19, some (.int .u64 z)), (20, none), (21, some (.int .u64 ro)), (22, some (.bool false)), (23, none), (24, none), (25, none)] (l' := #[tt, tt, tt, tt, tt, tt, tt, tt, tt, tt, tt, tt, tt, tt, tt, tt, tt, tt, tt, tt, tt, tt, tt, tt, tt, tt]) (a' := { tmps := #[.agg G, .int .u64 i, .pointer (some ⟨B2, 0, none⟩), undef, .bool false, .slice (some ⟨b, off, none⟩) L.length cl, .agg G, .int .u64 i, .slice (some ⟨b, off, none⟩) L.length cl, .int .u64 i, .pointer (some ⟨B2, 2, none⟩), .int .u64 ro, .bool false, .bool false, ud, ud, undef, .bool false, .bool false, .slice (some ⟨b, off, none⟩) L.length cl, .int .i64 L.length, .bool true, .bool true, .slice (some ⟨b, off, none⟩) L.length cl, .slice (some ⟨b, off, none⟩) L.length cl, .int .i64 L.length, .int .i64 m, .pointer (some ⟨b, off + m, none⟩), .int .u64 z, .pointer (some ⟨B2, 2, none⟩), .int .u64 ro, .bool false, .bool false, .bool false], defers := [] }) (obs := [.load 22 B2 2 (.int .u64 ro), .test .eql 22 (.tmp 9) (.tmp 11) (.int .u64 i) (.int .u64 ro) (.bool false), .ln 28 3 (.slice (some ⟨b, off, none⟩) L.length cl) (.int .i64 L.length), .test .gtr 3 (.tmp 20) (.const (.int .i64 0)) (.int .i64 L.length) (.int .i64 0) (.bool true), .ln 28 3 (.slice (some ⟨b, off, none⟩) L.length cl) (.int .i64 L.length), .test .sub 3 (.tmp 25) (.const (.int .i64 1)) (.int .i64 L.length) (.int .i64 1) (.int .i64 m), .ia 28 (.slice (some ⟨b, off, none⟩) L.length cl) (.int .i64 m) (.pointer (some ⟨b, off + m, none⟩)), .load 22 b (off + m) (.int .u64 z), .load 22 B2 2 (.int .u64 ro), .test .eql 22 (.tmp 28) (.tmp 30) (.int .u64 z) (.int .u64 ro) (.bool false)]) (n := 0) (by kernel_rfl) (by kernel_rfl) ⟨qhz (fun _ e => AtW.blk e hB2) g2 isAgg22, qRz (fun _ => qvz _ _ _ _ _ _) q1, wAz, qFz (fun _ => qAz _ _ _ _ _ _) q2p, wAz, xKz hm hms, kPz hm2, xBz (fun _ e => AtW.cel e hc) isAgg22, qhz (fun _ e => AtW.blk e hB2) g2 isAgg22, qRz (fun _ => qvz _ _ _ _ _ _) q3, trivial⟩ ?_
    refine wpAnyH_done (by kernel_rfl) ?_ _
    go_wp2
    go_ret
    exact ⟨by rw [hlz]; simp [q1.out, q2.out, q2q, q3.out], hk⟩
end
section
open Go.RowKit Go.Shelf
attribute [local go_sem] Oper.semAt_some
def vvz (X : List Ob) (d : Ob) : Int := d.quota - (pagO d + (d.links.map (qOf X)).sum)
def layE (X : List Ob) (d o : Ob) : Int := if plcB d.label o.label = false then 2 else if 64 ≤ d.links.length then 6 else if vvz X d < o.quota ∨ (o.kind = 2 ∧ 0 < o.links.length) then 5 else 0
def layX (X : List Ob) (d o : Ob) : List Ob := if layE X d o = 0 then puR (puR X o) { d with links := insW d.links o.id } else X
theorem jAz {S : World → Prop} {B : Nat} {G : Array Value} (hB : ∀ W, S W → Blk W B G 74) (hV : G.extract 0 (0 + 4) = G) (hG : 0 + 4 ≤ G.size) : Obl.holds prog S (.load 25 B 0 (.agg G)) :=
 qQz 4 hB hV hG underlying25 (by kernel_rfl) wfz
theorem kcz {d : Ob} (h : Small d) {L : List Int} (hL : L.length < 4294967296) : Small { d with links := L } :=
 ⟨h.c2, hL, h.c6, h.c7, h.c25, h.c36, h.c39, h.c40, h.c41, h.c42, h.c43, h.c44, h.c49, h.c50⟩
theorem w7z {X : List Ob} {x : Ob} (h : wbz X) (hx : Small x) : wbz (puR X x) := yvz h hx
theorem laid_v {w : World} {t ke ro : Int} {ao : Option Addr} {n cap : Nat} {X : List Ob} {Cf : Nat → Array Value} {D0 : Nat → Prop} {Cd Co : Array Value} {d o : Ob} (hD : ∀ b, D0 b → b < w.heap.size) (h : ObsF (LtN w) D0 w ao n cap X Cf) (hs : Srt X) (hn16 : n < 1022) (hsm : wbz X) (hid : fnd X 0 = none) (hq : ∀ x ∈ X, 0 ≤ x.quota ∧ x.quota ≤ 4096)
  (hd : ObD D0 w Cd d) (hds : Small d) (hdq : 0 ≤ d.quota ∧ d.quota ≤ 4096) (hdl : d.label.length < 1048576) (hdr : d.links.Pairwise (· < ·)) (hdn : d.links.length ≤ 4000) (ho : ObD D0 w Co o) (hos : Small o) (hol : o.label.length < 1048576) :
  Calls prog 39 #[.agg #[.int .i64 t, .int .u64 ke, .int .u64 ro, .slice ao n cap], .agg Cd, .agg Co] w fun e w' => ∃ ao2 n2 cap2, e = .returned (.tuple #[.agg #[.int .i64 t, .int .u64 ke, .int .u64 ro, .slice ao2 n2 cap2], .int .i64 (layE X d o)]) ∧ ObsN w D0 w' ao2 n2 cap2 (layX X d o) ∧ Below w.heap.size w w' := by
 have hmx : prog.follows .mixedOrders = true := by kernel_rfl
 have hn : Hid (X.length = n) := h.1
 have hO : ObsD (LtN w) D0 w ao n cap X := h.obs
 have hF : ObsF (LtN w) (LtN w) w ao n cap X Cf := h.wide hD (fun _ hb => hb)
 have hdL : ObD (LtN w) w Cd d := hd.wide hD
 have hoL : ObD (LtN w) w Co o := ho.wide hD
 have hzv : (prog.info? 74).map (·.size) = some (#[.int .i64 t, .int .u64 ke, .int .u64 ro, .slice ao n cap] : Array Value).size := by kernel_rfl
 have hV : (#[.int .i64 t, .int .u64 ke, .int .u64 ro, .slice ao n cap] : Array Value).extract 0 (0 + 4) = #[.int .i64 t, .int .u64 ke, .int .u64 ro, .slice ao n cap] := rfl
 have hG4 : 0 + 4 ≤ (#[.int .i64 t, .int .u64 ke, .int .u64 ro, .slice ao n cap] : Array Value).size := Nat.le_refl _
 have hz2 : ∀ v, (prog.info? 25).map (·.size) = some (#[.int .i64 t, .int .u64 ke, .int .u64 ro, v] : Array Value).size := fun _ => wfz
 have hs2 : ∀ v, zW.size = (#[.int .i64 t, .int .u64 ke, .int .u64 ro, v] : Array Value).size := fun _ => rfl
 have h12 : ∀ ao n cap, (#[.int .i64 t, .int .u64 ke, .int .u64 ro, .slice ao n cap] : Array Value).all (·.oneCell') = true := fun _ _ _ => by kernel_rfl
 have hrf := fun {er : Int} (W : World) (hk : Below w.heap.size w W) => wXz (t := t) (ke := ke) (ro := ro) (er := er) (D0 := D0) (fun b hb => Nat.lt_of_lt_of_le (hD b hb) hk.size) (qUz hO hD hk) hs (by omega) hsm hid
 have hrm := fun (W : World) (hk : Below w.heap.size w W) => vVz (t := t) (ke := ke) (ro := ro) (hF.next hk) hs (by omega) hq (hdL.next hk) hds hdq
 have hpu := fun {W : World} {D1 : Nat → Prop} (hD1 : ∀ b, D1 b → b < W.heap.size) (h01 : ∀ b, D0 b → D1 b) (hk : Below w.heap.size w W) => put_w (t := t) (ke := ke) (ro := ro) (D0 := D1) hD1 ((qUz hO hD hk).wide h01 (fun _ hb => hb)) hs (by omega) hsm ((ho.laterK fun b hb => hk.block b (hD b hb)).wide h01) hos
 have hpv := fun {W : World} {D1 : Nat → Prop} {a2 : Option Addr} {n2 c2 : Nat} {C2 : Array Value} {d2 : Ob} (hD1 : ∀ b, D1 b → b < W.heap.size) (h2 : ObsD (LtN W) D1 W a2 n2 c2 (puR X o)) (hx : ObD D1 W C2 d2) (hxs : Small d2) => put_w (t := t) (ke := ke) (ro := ro) (D0 := D1) hD1 h2 (wCz hs o) (by have := k6z X o; have := h2.1; have := hn.out; omega) (w7z hsm hos) hx hxs
 change ∀ (W : World), Below w.heap.size w W → Calls prog _ _ W fun e w' => e = .returned (.int .i64 (vvz X d)) ∧ _ at hrm
 obtain ⟨ER, hER⟩ : ∃ ER, Hid (layE X d o = ER) := ⟨_, rfl⟩
 obtain ⟨YR, hYR⟩ : ∃ YR, Hid (layX X d o = YR) := ⟨_, rfl⟩
 rw [hER.out, hYR.out]
 obtain ⟨al, nl, cl, c5, hLk⟩ := hd.links
 obtain ⟨aD, nD, cD, c2, hLD⟩ := hdL.label
 obtain ⟨aO, nO, cO, e2, hLO⟩ := hoL.label
 obtain ⟨ak, nk, ck, e5, hLo⟩ := hoL.links
 have hln : Hid (d.links.length = nl) := hLk.1
 have hlo : Hid (o.links.length = nk) := hLo.1
 have hzd := hd.size
 have hzo := ho.size
 have e0 := ho.id
 have e1 := ho.kind
 have e3 := ho.quota
 have hpl := fun (W : World) (hk : Below w.heap.size w W) => CkM.place_any (Lab.next hLD hk) (Lab.next hLO hk) (by rw [← hLD.1]; exact hdl) (by rw [← hLO.1]; exact hol)
 change ∀ (W : World), Below w.heap.size w W → Calls prog _ _ W fun e w' => e = .returned (.bool (plcB d.label o.label)) ∧ _ at hpl
 have hli := fun (W : World) (hk : Below w.heap.size w W) => linked_v (i := o.id) ((hLk.laterK fun b hb => hk.block b (hD b hb)).wide fun b hb => Nat.lt_of_lt_of_le (hD b hb) hk.size) hdr (by rw [← hln.out]; omega)
 obtain ⟨bp, hbp⟩ : ∃ bp, Hid (plcB d.label o.label = bp) := ⟨_, rfl⟩
 simp only [hbp.out] at hpl
 obtain ⟨rm, hrme⟩ : ∃ rm, Hid (vvz X d = rm) := ⟨_, rfl⟩
 simp only [hrme.out] at hrm
 obtain ⟨G, hG⟩ : ∃ G : Array Value, G = #[.int .i64 t, .int .u64 ke, .int .u64 ro, .slice ao n cap] := ⟨_, rfl⟩
 simp only [← hG] at hrf hrm hpu
 rw [← hG] at hzv hV hG4
 rw [← hG]
 clear hG
 cases bp with
 | false =>
  go_enter func39, ntmps39
  go_wp2_with (first
   | (with_reducible refine qdz rfl 74 _ rfl G rfl ?_; intro B3 W3 hN3 hB3 hk)
   | (with_reducible refine qdz rfl 43 (.tmp 1) rfl Cd rfl ?_; intro B4 W4 hN4 hB4 hk4; replace hB3 := hB3.next hk4; replace hk := btz hk hk4)
   | (with_reducible refine qdz rfl 43 (.tmp 2) rfl Co rfl ?_; intro B5 W5 hN5 hB5 hk5; replace hB3 := hB3.next hk5; replace hB4 := hB4.next hk5; replace hk := btz hk hk5)
   | ((with_reducible refine qcz rfl _ rfl zW qNz ?_); intro R W6 hN6 hR hk6; replace hB3 := hB3.next hk6; replace hB4 := hB4.next hk6; replace hB5 := hB5.next hk6; replace hk := btz hk hk6; have hsz : Hid (B3 < W6.heap.size ∧ B4 < W6.heap.size ∧ w.heap.size ≤ B4 ∧ w.heap.size ≤ R ∧ R < W6.heap.size) := (by have := hN3.out; have := hN4.out; have := hN5.out; have := hN6.out; refine (⟨?_, ?_, ?_, ?_, ?_⟩ : _ ∧ _ ∧ _ ∧ _ ∧ _) <;> omega); have hnR : Hid (B3 ≠ R ∧ B4 ≠ R ∧ B5 ≠ R) := (by have := hN3.out; have := hN4.out; have := hN5.out; have := hN6.out; refine (⟨?_, ?_, ?_⟩ : _ ∧ _ ∧ _) <;> omega); have hne : Hid (B4 ≠ R ∧ B4 ≠ B5 ∧ B4 ≠ B3) := (by have := hN3.out; have := hN4.out; have := hN5.out; have := hN6.out; refine (⟨?_, ?_, ?_⟩ : _ ∧ _ ∧ _) <;> omega); have hkz := Below.refl W6.heap.size W6; have hkw0 := hk; clear hN3 hN4 hN5 hN6 hk4 hk5 hk6)
   | (with_reducible refine qbz (by kernel_rfl) _ _ rfl B4 _ rfl _ _ hB4 _ c2 isAgg27 ?_)
   | (with_reducible refine qbz (by kernel_rfl) _ _ rfl B5 _ rfl _ _ hB5 _ e2 isAgg27 ?_)
   | (go_at_call 72; (with_reducible refine (hpl _ hk).mono ?_); rintro e w7 ⟨rfl, hb7⟩; replace hB3 := hB3.next hb7; replace hB4 := hB4.next hb7; replace hB5 := hB5.next hb7; replace hR := hR.next hb7; replace hkz := btz hkz hb7; replace hk := btz hk hb7; clear hb7)
   | (with_reducible refine qez (by kernel_rfl) 74 _ rfl B3 rfl G hB3 _ underlying74 (by kernel_rfl) hzv ?_)
   | (go_at_call 38; (with_reducible refine (hrf _ hk).mono ?_); rintro e w9 ⟨aX, nX, cX, rfl, oX, hb9⟩; have hR9 := hR.next hb9)
   | ((with_reducible refine qaz rfl _ _ _ rfl R rfl _ rfl zW hR9 (hz2 _) (hs2 _) (h12 aX nX cX) ?_); intro W9 hR10 q9))
  refine bodyPost_ret (qPz results39 rfl rfl hR10 rfl) rfl ?_
  have hE : ER = 2 := by rw [← hER.out]; unfold layE; rw [if_pos hbp.out]
  have hY : YR = X := by rw [← hYR.out]; unfold layX; rw [hER.out, hE]; rfl
  rw [hE, hY]
  exact ⟨aX, nX, cX, rfl, (ObsN.store oX q9 (Nat.lt_of_lt_of_le hsz.out.2.2.2.2 hkz.size) (fun b hb => by have := hD b hb; have := hsz.out.2.2.2.1; omega)).low hk.size, q9.below _ _ hsz.out.2.2.2.1 (btz hk hb9)⟩
 | true =>
  by_cases h64 : 64 ≤ nl
  ·have h64i : (64 : Int) ≤ nl := by omega
   go_enter func39, ntmps39
   go_wp2_with (first
    | (with_reducible refine qdz rfl 74 _ rfl G rfl ?_; intro B3 W3 hN3 hB3 hk)
    | (with_reducible refine qdz rfl 43 (.tmp 1) rfl Cd rfl ?_; intro B4 W4 hN4 hB4 hk4; replace hB3 := hB3.next hk4; replace hk := btz hk hk4)
    | (with_reducible refine qdz rfl 43 (.tmp 2) rfl Co rfl ?_; intro B5 W5 hN5 hB5 hk5; replace hB3 := hB3.next hk5; replace hB4 := hB4.next hk5; replace hk := btz hk hk5)
    | ((with_reducible refine qcz rfl _ rfl zW qNz ?_); intro R W6 hN6 hR hk6; replace hB3 := hB3.next hk6; replace hB4 := hB4.next hk6; replace hB5 := hB5.next hk6; replace hk := btz hk hk6; have hsz : Hid (B3 < W6.heap.size ∧ B4 < W6.heap.size ∧ w.heap.size ≤ B4 ∧ w.heap.size ≤ R ∧ R < W6.heap.size) := (by have := hN3.out; have := hN4.out; have := hN5.out; have := hN6.out; refine (⟨?_, ?_, ?_, ?_, ?_⟩ : _ ∧ _ ∧ _ ∧ _ ∧ _) <;> omega); have hnR : Hid (B3 ≠ R ∧ B4 ≠ R ∧ B5 ≠ R) := (by have := hN3.out; have := hN4.out; have := hN5.out; have := hN6.out; refine (⟨?_, ?_, ?_⟩ : _ ∧ _ ∧ _) <;> omega); have hne : Hid (B4 ≠ R ∧ B4 ≠ B5 ∧ B4 ≠ B3) := (by have := hN3.out; have := hN4.out; have := hN5.out; have := hN6.out; refine (⟨?_, ?_, ?_⟩ : _ ∧ _ ∧ _) <;> omega); have hkz := Below.refl W6.heap.size W6; have hkw0 := hk; clear hN3 hN4 hN5 hN6 hk4 hk5 hk6)
    | (with_reducible refine qbz (by kernel_rfl) _ _ rfl B4 _ rfl _ _ hB4 _ c2 isAgg27 ?_)
    | (with_reducible refine qbz (by kernel_rfl) _ _ rfl B5 _ rfl _ _ hB5 _ e2 isAgg27 ?_)
    | (go_at_call 72; (with_reducible refine (hpl _ hk).mono ?_); rintro e w7 ⟨rfl, hb7⟩; replace hB3 := hB3.next hb7; replace hB4 := hB4.next hb7; replace hB5 := hB5.next hb7; replace hR := hR.next hb7; replace hkz := btz hkz hb7; replace hk := btz hk hb7; clear hb7)
    | (with_reducible refine qbz (by kernel_rfl) _ _ rfl B4 _ rfl _ _ hB4 _ c5 isAgg28 ?_)
    | (with_reducible refine qez (by kernel_rfl) 74 _ rfl B3 rfl G hB3 _ underlying74 (by kernel_rfl) hzv ?_)
    | (go_at_call 38; (with_reducible refine (hrf _ hk).mono ?_); rintro e w9 ⟨aX, nX, cX, rfl, oX, hb9⟩; have hR9 := hR.next hb9)
    | ((with_reducible refine qaz rfl _ _ _ rfl R rfl _ rfl zW hR9 (hz2 _) (hs2 _) (h12 aX nX cX) ?_); intro W9 hR10 q9))
   refine bodyPost_ret (qPz results39 rfl rfl hR10 rfl) rfl ?_
   have hE : ER = 6 := by rw [← hER.out]; unfold layE; rw [if_neg (by rw [hbp.out]; decide), if_pos (by rw [hln.out]; exact h64)]
   have hY : YR = X := by rw [← hYR.out]; unfold layX; rw [hER.out, hE]; rfl
   rw [hE, hY]
   exact ⟨aX, nX, cX, rfl, (ObsN.store oX q9 (Nat.lt_of_lt_of_le hsz.out.2.2.2.2 hkz.size) (fun b hb => by have := hD b hb; have := hsz.out.2.2.2.1; omega)).low hk.size, q9.below _ _ hsz.out.2.2.2.1 (btz hk hb9)⟩
  ·have h64i : ¬ (64 : Int) ≤ nl := by omega
   go_enter func39, ntmps39
   go_wp2_with (first
    | (with_reducible refine qdz rfl 74 _ rfl G rfl ?_; intro B3 W3 hN3 hB3 hk)
    | (with_reducible refine qdz rfl 43 (.tmp 1) rfl Cd rfl ?_; intro B4 W4 hN4 hB4 hk4; replace hB3 := hB3.next hk4; replace hk := btz hk hk4)
    | (with_reducible refine qdz rfl 43 (.tmp 2) rfl Co rfl ?_; intro B5 W5 hN5 hB5 hk5; replace hB3 := hB3.next hk5; replace hB4 := hB4.next hk5; replace hk := btz hk hk5)
    | ((with_reducible refine qcz rfl _ rfl zW qNz ?_); intro R W6 hN6 hR hk6; replace hB3 := hB3.next hk6; replace hB4 := hB4.next hk6; replace hB5 := hB5.next hk6; replace hk := btz hk hk6; have hsz : Hid (B3 < W6.heap.size ∧ B4 < W6.heap.size ∧ w.heap.size ≤ B4 ∧ w.heap.size ≤ R ∧ R < W6.heap.size) := (by have := hN3.out; have := hN4.out; have := hN5.out; have := hN6.out; refine (⟨?_, ?_, ?_, ?_, ?_⟩ : _ ∧ _ ∧ _ ∧ _ ∧ _) <;> omega); have hnR : Hid (B3 ≠ R ∧ B4 ≠ R ∧ B5 ≠ R) := (by have := hN3.out; have := hN4.out; have := hN5.out; have := hN6.out; refine (⟨?_, ?_, ?_⟩ : _ ∧ _ ∧ _) <;> omega); have hne : Hid (B4 ≠ R ∧ B4 ≠ B5 ∧ B4 ≠ B3) := (by have := hN3.out; have := hN4.out; have := hN5.out; have := hN6.out; refine (⟨?_, ?_, ?_⟩ : _ ∧ _ ∧ _) <;> omega); have hkz := Below.refl W6.heap.size W6; have hkw0 := hk; clear hN3 hN4 hN5 hN6 hk4 hk5 hk6)
    | (with_reducible refine qbz (by kernel_rfl) _ _ rfl B4 _ rfl _ _ hB4 _ c2 isAgg27 ?_)
    | (with_reducible refine qbz (by kernel_rfl) _ _ rfl B5 _ rfl _ _ hB5 _ e2 isAgg27 ?_)
    | (go_at_call 72; (with_reducible refine (hpl _ hk).mono ?_); rintro e w7 ⟨rfl, hb7⟩; replace hB3 := hB3.next hb7; replace hB4 := hB4.next hb7; replace hB5 := hB5.next hb7; replace hR := hR.next hb7; replace hkz := btz hkz hb7; replace hk := btz hk hb7; clear hb7)
    | (with_reducible refine qbz (by kernel_rfl) _ _ rfl B4 _ rfl _ _ hB4 _ c5 isAgg28 ?_))
   refine PgM.region_out (S := fun W => Below w7.heap.size w7 W) hmx ((Below.refl _ _).drew) (fun hS => ?_)
   generalize w7.drew = v7 at hS ⊢
   refine qiz (by kernel_rfl) (fun _ _ _ _ _ h => h) hS [(0, none), (1, some (.int .i64 o.quota)), (2, some (.agg G)), (3, some (.agg Cd))] (l' := #[tt, tt, tt, tt, ff, ff, ff, ff, ff, ff, ff, ff, ff, ff, ff, ff, ff, ff]) (a' := { tmps := #[.agg G, .agg Cd, .agg Co, .pointer (some ⟨B3, 0, none⟩), .pointer (some ⟨B4, 0, none⟩), .pointer (some ⟨B5, 0, none⟩), .pointer (some ⟨R, 0, none⟩), .int .i64 0, .bool false, .pointer (some ⟨B4, 2, none⟩), .slice aD nD cD, .pointer (some ⟨B5, 2, none⟩), .slice aO nO cO, .bool true, .bool false, ud, ud, ud, undef, .bool (decide ((64 : Int) ≤ (nl : Int))), .pointer (some ⟨B4, 5, none⟩), .slice al nl cl, .int .i64 nl, .bool (decide ((64 : Int) ≤ (nl : Int))), ud, ud, ud, ud, undef, .pointer (some ⟨B5, 3, none⟩), .int .i64 o.quota, .agg G, .agg Cd, ud, ud, ud, ud, ud, ud, ud, ud, ud, ud, ud, ud, ud, ud, ud, ud, ud, ud, ud, ud, ud, ud, ud, ud, ud, ud, ud, ud, undef], defers := [] }) (obs := [.load 3 B5 3 (.int .i64 o.quota), .load 74 B3 0 (.agg G), .load 43 B4 0 (.agg Cd)]) (n := 14) (by kernel_rfl) (by kernel_rfl) ⟨qhz (fun _ h => hB5.next h) e3 isAgg3, qwz (fun _ h => hB3.next h) underlying74 (by kernel_rfl) hzv, qwz (fun _ h => hB4.next h) underlying43 (by kernel_rfl) (qfz hzd), trivial⟩ ?_
   refine qnz (i := 4) (fuel := 13) (f := 47) (vs := [.agg G, .agg Cd]) (d := some 33) (by kernel_rfl) (by kernel_rfl) (by kernel_rfl) call47 (hrm _ (btz hk hS)) ?_
   rintro e v8 ⟨rfl, hb8⟩
   have hS8 : Below w7.heap.size w7 v8 := btz hS hb8
   refine ⟨_, rfl, hS8, ?_⟩
   by_cases q1 : rm < o.quota
   ·replace q1 : Hid (rm < o.quota) := q1
    refine qiz (by kernel_rfl) (fun _ _ _ _ _ h => h) hS8 [(5, some (.bool true)), (6, none), (7, none), (8, none), (9, none), (10, none), (11, none), (12, none), (13, none), (14, none), (15, none), (16, none), (17, none)] (l' := #[tt, tt, tt, tt, tt, tt, tt, tt, tt, tt, tt, tt, tt, tt, tt, tt, tt, tt]) (a' := { tmps := #[.agg G, .agg Cd, .agg Co, .pointer (some ⟨B3, 0, none⟩), .pointer (some ⟨B4, 0, none⟩), .pointer (some ⟨B5, 0, none⟩), .pointer (some ⟨R, 0, none⟩), .int .i64 0, .bool false, .pointer (some ⟨B4, 2, none⟩), .slice aD nD cD, .pointer (some ⟨B5, 2, none⟩), .slice aO nO cO, .bool true, .bool false, ud, ud, ud, undef, .bool (decide ((64 : Int) ≤ (nl : Int))), .pointer (some ⟨B4, 5, none⟩), .slice al nl cl, .int .i64 nl, .bool (decide ((64 : Int) ≤ (nl : Int))), ud, ud, ud, undef, .bool true, .pointer (some ⟨B5, 3, none⟩), .int .i64 o.quota, .agg G, .agg Cd, .int .i64 rm, .bool true, .bool true, ud, ud, ud, ud, ud, ud, ud, ud, undef, .bool true, ud, ud, ud, ud, ud, ud, ud, ud, ud, ud, ud, ud, ud, ud, ud, undef], defers := [] }) (obs := [.test .gtr 3 (.tmp 30) (.tmp 33) (.int .i64 o.quota) (.int .i64 rm) (.bool true)]) (n := 0) (by kernel_rfl) (by kernel_rfl) ⟨qFz (fun _ => qAz _ _ _ _ _ _) q1, trivial⟩ ?_
    refine wpAnyH_done (by kernel_rfl) ?_ _
    replace hB3 := hB3.next hS8
    replace hB4 := hB4.next hS8
    replace hB5 := hB5.next hS8
    replace hR := hR.next hS8
    replace hkz := btz hkz hS8
    replace hk := btz hk hS8
    clear hS8 hS hb8
    go_wp2_with (first
     | (with_reducible refine qez (by kernel_rfl) 74 _ rfl B3 rfl G hB3 _ underlying74 (by kernel_rfl) hzv ?_)
     | (go_at_call 38; (with_reducible refine (hrf _ hk).mono ?_); rintro e w9 ⟨aX, nX, cX, rfl, oX, hb9⟩; have hR9 := hR.next hb9)
     | ((with_reducible refine qaz rfl _ _ _ rfl R rfl _ rfl zW hR9 (hz2 _) (hs2 _) (h12 aX nX cX) ?_); intro W9 hR10 q9))
    refine bodyPost_ret (qPz results39 rfl rfl hR10 rfl) rfl ?_
    have hE : ER = 5 := by rw [← hER.out]; unfold layE; rw [if_neg (by rw [hbp.out]; decide), if_neg (by rw [hln.out]; exact h64), if_pos (by rw [hrme.out]; exact .inl q1.out)]
    have hY : YR = X := by rw [← hYR.out]; unfold layX; rw [hER.out, hE]; rfl
    rw [hE, hY]
    exact ⟨aX, nX, cX, rfl, (ObsN.store oX q9 (Nat.lt_of_lt_of_le hsz.out.2.2.2.2 hkz.size) (fun b hb => by have := hD b hb; have := hsz.out.2.2.2.1; omega)).low hk.size, q9.below _ _ hsz.out.2.2.2.1 (btz hk hb9)⟩
   ·replace q1 : Hid (¬ rm < o.quota) := q1
    by_cases q2 : o.kind = 2
    ·replace q2 : Hid (o.kind = 2) := q2
     by_cases q3 : (0 : Int) < (nk : Int)
     ·replace q3 : Hid ((0 : Int) < (nk : Int)) := q3
      refine qiz (by kernel_rfl) (fun _ _ _ _ _ h => h) hS8 [(5, some (.bool false)), (6, none), (7, none), (8, some (.int .i64 o.kind)), (9, some (.bool true)), (10, none), (11, none), (12, some (.slice ak nk ck)), (13, some (.int .i64 nk)), (14, some (.bool true)), (15, none), (16, none), (17, none)] (l' := #[tt, tt, tt, tt, tt, tt, tt, tt, tt, tt, tt, tt, tt, tt, tt, tt, tt, tt]) (a' := { tmps := #[.agg G, .agg Cd, .agg Co, .pointer (some ⟨B3, 0, none⟩), .pointer (some ⟨B4, 0, none⟩), .pointer (some ⟨B5, 0, none⟩), .pointer (some ⟨R, 0, none⟩), .int .i64 0, .bool false, .pointer (some ⟨B4, 2, none⟩), .slice aD nD cD, .pointer (some ⟨B5, 2, none⟩), .slice aO nO cO, .bool true, .bool false, ud, ud, ud, undef, .bool (decide ((64 : Int) ≤ (nl : Int))), .pointer (some ⟨B4, 5, none⟩), .slice al nl cl, .int .i64 nl, .bool (decide ((64 : Int) ≤ (nl : Int))), ud, ud, ud, undef, .bool true, .pointer (some ⟨B5, 3, none⟩), .int .i64 o.quota, .agg G, .agg Cd, .int .i64 rm, .bool false, .bool false, .pointer (some ⟨B5, 1, none⟩), .int .i64 o.kind, .bool true, .bool true, .pointer (some ⟨B5, 5, none⟩), .slice ak nk ck, .int .i64 nk, .bool true, .bool true, .bool true, ud, ud, ud, ud, ud, ud, ud, ud, ud, ud, ud, ud, ud, ud, ud, undef], defers := [] }) (obs := [.test .gtr 3 (.tmp 30) (.tmp 33) (.int .i64 o.quota) (.int .i64 rm) (.bool false), .load 3 B5 1 (.int .i64 o.kind), .test .eql 3 (.tmp 37) (.const (.int .i64 2)) (.int .i64 o.kind) (.int .i64 2) (.bool true), .load 28 B5 5 (.slice ak nk ck), .ln 28 3 (.slice ak nk ck) (.int .i64 nk), .test .gtr 3 (.tmp 42) (.const (.int .i64 0)) (.int .i64 nk) (.int .i64 0) (.bool true)]) (n := 0) (by kernel_rfl) (by kernel_rfl) ⟨qRz (fun _ => qAz _ _ _ _ _ _) q1, qhz (fun _ h => hB5.next h) e1 isAgg3, qFz (fun _ => qvz _ _ _ _ _ _) q2, qhz (fun _ h => hB5.next h) e5 isAgg28, wAz, qFz (fun _ => qAz _ _ _ _ _ _) q3, trivial⟩ ?_
      refine wpAnyH_done (by kernel_rfl) ?_ _
      replace hB3 := hB3.next hS8
      replace hB4 := hB4.next hS8
      replace hB5 := hB5.next hS8
      replace hR := hR.next hS8
      replace hkz := btz hkz hS8
      replace hk := btz hk hS8
      clear hS8 hS hb8
      go_wp2_with (first
       | (with_reducible refine qez (by kernel_rfl) 74 _ rfl B3 rfl G hB3 _ underlying74 (by kernel_rfl) hzv ?_)
       | (go_at_call 38; (with_reducible refine (hrf _ hk).mono ?_); rintro e w9 ⟨aX, nX, cX, rfl, oX, hb9⟩; have hR9 := hR.next hb9)
       | ((with_reducible refine qaz rfl _ _ _ rfl R rfl _ rfl zW hR9 (hz2 _) (hs2 _) (h12 aX nX cX) ?_); intro W9 hR10 q9))
      refine bodyPost_ret (qPz results39 rfl rfl hR10 rfl) rfl ?_
      have hE : ER = 5 := by rw [← hER.out]; unfold layE; rw [if_neg (by rw [hbp.out]; decide), if_neg (by rw [hln.out]; exact h64), if_pos (by exact .inr ⟨q2.out, by rw [hlo.out]; have := q3.out; omega⟩)]
      have hY : YR = X := by rw [← hYR.out]; unfold layX; rw [hER.out, hE]; rfl
      rw [hE, hY]
      exact ⟨aX, nX, cX, rfl, (ObsN.store oX q9 (Nat.lt_of_lt_of_le hsz.out.2.2.2.2 hkz.size) (fun b hb => by have := hD b hb; have := hsz.out.2.2.2.1; omega)).low hk.size, q9.below _ _ hsz.out.2.2.2.1 (btz hk hb9)⟩
     ·replace q3 : Hid (¬ (0 : Int) < (nk : Int)) := q3
      refine qiz (by kernel_rfl) (fun _ _ _ _ _ h => h) hS8 [(5, some (.bool false)), (6, none), (7, none), (8, some (.int .i64 o.kind)), (9, some (.bool true)), (10, none), (11, none), (12, some (.slice ak nk ck)), (13, some (.int .i64 nk)), (14, some (.bool false)), (15, none), (16, none), (17, none)] (l' := #[tt, tt, tt, tt, tt, tt, tt, tt, tt, tt, tt, tt, tt, tt, tt, tt, tt, tt]) (a' := { tmps := #[.agg G, .agg Cd, .agg Co, .pointer (some ⟨B3, 0, none⟩), .pointer (some ⟨B4, 0, none⟩), .pointer (some ⟨B5, 0, none⟩), .pointer (some ⟨R, 0, none⟩), .int .i64 0, .bool false, .pointer (some ⟨B4, 2, none⟩), .slice aD nD cD, .pointer (some ⟨B5, 2, none⟩), .slice aO nO cO, .bool true, .bool false, ud, ud, ud, undef, .bool (decide ((64 : Int) ≤ (nl : Int))), .pointer (some ⟨B4, 5, none⟩), .slice al nl cl, .int .i64 nl, .bool (decide ((64 : Int) ≤ (nl : Int))), ud, ud, ud, undef, .bool false, .pointer (some ⟨B5, 3, none⟩), .int .i64 o.quota, .agg G, .agg Cd, .int .i64 rm, .bool false, .bool false, .pointer (some ⟨B5, 1, none⟩), .int .i64 o.kind, .bool true, .bool true, .pointer (some ⟨B5, 5, none⟩), .slice ak nk ck, .int .i64 nk, .bool false, .bool false, .bool false, ud, ud, ud, ud, ud, ud, ud, ud, ud, ud, ud, ud, ud, ud, ud, undef], defers := [] }) (obs := [.test .gtr 3 (.tmp 30) (.tmp 33) (.int .i64 o.quota) (.int .i64 rm) (.bool false), .load 3 B5 1 (.int .i64 o.kind), .test .eql 3 (.tmp 37) (.const (.int .i64 2)) (.int .i64 o.kind) (.int .i64 2) (.bool true), .load 28 B5 5 (.slice ak nk ck), .ln 28 3 (.slice ak nk ck) (.int .i64 nk), .test .gtr 3 (.tmp 42) (.const (.int .i64 0)) (.int .i64 nk) (.int .i64 0) (.bool false)]) (n := 0) (by kernel_rfl) (by kernel_rfl) ⟨qRz (fun _ => qAz _ _ _ _ _ _) q1, qhz (fun _ h => hB5.next h) e1 isAgg3, qFz (fun _ => qvz _ _ _ _ _ _) q2, qhz (fun _ h => hB5.next h) e5 isAgg28, wAz, qRz (fun _ => qAz _ _ _ _ _ _) q3, trivial⟩ ?_
      refine wpAnyH_done (by kernel_rfl) ?_ _
      replace hB3 := hB3.next hS8
      replace hB4 := hB4.next hS8
      replace hB5 := hB5.next hS8
      replace hR := hR.next hS8
      replace hkz := btz hkz hS8
      replace hk := btz hk hS8
      clear hS8 hS hb8
      go_wp2_with (first
       | (with_reducible refine qbz (by kernel_rfl) _ _ rfl B4 _ rfl _ _ hB4 _ c5 isAgg28 ?_)
       | (with_reducible refine qbz (by kernel_rfl) _ _ rfl B5 _ rfl _ _ hB5 _ e0 isAgg22 ?_)
       | (go_at_call 73; (with_reducible refine (hli _ hk).mono ?_); rintro e w9 ⟨V, rfl, hown, hb9⟩; have hkV := hkz; replace hB3 := hB3.next hb9; replace hB4 := hB4.next hb9; replace hB5 := hB5.next hb9; replace hR := hR.next hb9; replace hkz := btz hkz hb9; replace hk := btz hk hb9; obtain ⟨aV, cV, rfl, hct⟩ := xPz hown)
       | ((with_reducible refine qjz rfl _ _ _ rfl B4 5 rfl (.slice aV (insW d.links o.id).length cV) rfl rfl Cd _ hB4 wyz (by rw [hzd]; omega) rfl ?_); intro W9 hB4n q9; replace hB3 := hB3.other q9 (Ne.symm hne.out.2.2); replace hB5 := hB5.other q9 (Ne.symm hne.out.2.1); replace hR := hR.other q9 (Ne.symm hne.out.1)))
      have hk9 : Below w.heap.size w W9 := q9.below _ _ hsz.out.2.2.1 hk
      have hkz9 : W6.heap.size ≤ W9.heap.size := by rw [q9.size]; exact hkz.size
      have hct9 : CtD (fun b => D0 b ∨ New W6 W9 b) W9 aV (insW d.links o.id).length cV (insW d.links o.id) := (hct.laterK fun b hb => q9.block b (by have := hb.1; have := hkV.size; have := hsz.out.2.1; omega)).wide fun b hb => .inr ⟨Nat.le_trans hkV.size hb.1, by rw [q9.size]; exact hb.2⟩
      have hd9 : ObD (fun b => D0 b ∨ New W6 W9 b) W9 (Cd.setIfInBounds 5 (.slice aV (insW d.links o.id).length cV)) { d with links := insW d.links o.id } := ((hd.laterK fun b hb => hk9.block b (hD b hb)).wide fun b hb => .inl hb).set5 ⟨aV, _, cV, rfl, hct9⟩ rfl
      have hzn : (Cd.setIfInBounds 5 (.slice aV (insW d.links o.id).length cV)).size = 51 := hd9.size
      have hln2 : (insW d.links o.id).length = nl + 1 := by rw [← hln.out]; unfold insW; have := gEz d.links o.id; simp; omega
      have hds2 : Small { d with links := insW d.links o.id } := kcz hds (by rw [hln2]; omega)
      obtain ⟨Cn, hCn⟩ : ∃ Cn, Hid (Cd.setIfInBounds 5 (.slice aV (insW d.links o.id).length cV) = Cn) := ⟨_, rfl⟩
      rw [hCn.out] at hd9 hzn hB4n
      generalize (insW d.links o.id).length = nn at *
      have hS : Below W9.heap.size W9 W9.drew := (Below.refl _ _).drew
      refine PgM.region_out (S := fun W => Blk W B3 G 74 ∧ Blk W B4 Cn 43 ∧ Blk W B5 Co 43) hmx ⟨hB3.next hS, hB4n.next hS, hB5.next hS⟩ (fun hT => ?_)
      generalize W9.drew = v9 at hS hT ⊢
      refine qiz (by kernel_rfl) (fun _ _ _ _ _ h => h) hT [(0, none), (1, some (.agg G)), (2, some (.agg Co)), (4, some (.agg Cn))] (l' := #[tt, tt, tt, ff, tt, ff, ff, ff]) (a' := { tmps := #[.agg G, .agg Cd, .agg Co, .pointer (some ⟨B3, 0, none⟩), .pointer (some ⟨B4, 0, none⟩), .pointer (some ⟨B5, 0, none⟩), .pointer (some ⟨R, 0, none⟩), .int .i64 0, .bool false, .pointer (some ⟨B4, 2, none⟩), .slice aD nD cD, .pointer (some ⟨B5, 2, none⟩), .slice aO nO cO, .bool true, .bool false, ud, ud, ud, undef, .bool (decide ((64 : Int) ≤ (nl : Int))), .pointer (some ⟨B4, 5, none⟩), .slice al nl cl, .int .i64 nl, .bool (decide ((64 : Int) ≤ (nl : Int))), ud, ud, ud, undef, .bool false, .pointer (some ⟨B5, 3, none⟩), .int .i64 o.quota, .agg G, .agg Cd, .int .i64 rm, .bool false, .bool false, .pointer (some ⟨B5, 1, none⟩), .int .i64 o.kind, .bool true, .bool true, .pointer (some ⟨B5, 5, none⟩), .slice ak nk ck, .int .i64 nk, .bool false, .bool false, .bool false, ud, ud, ud, undef, .pointer (some ⟨B4, 5, none⟩), .slice al nl cl, .pointer (some ⟨B5, 0, none⟩), .int .u64 o.id, .slice aV nn cV, .pointer (some ⟨B4, 5, none⟩), .pointer (some ⟨B3, 0, none⟩), .agg G, .agg Co, undef, .agg Cn, undef], defers := [] }) (obs := [.load 25 B3 0 (.agg G), .load 43 B5 0 (.agg Co), .load 43 B4 0 (.agg Cn)]) (n := 4) (by kernel_rfl) (by kernel_rfl) ⟨jAz (fun _ h => h.1) hV hG4, qwz (fun _ h => h.2.2) underlying43 (by kernel_rfl) (qfz hzo), qwz (fun _ h => h.2.1) underlying43 (by kernel_rfl) (qfz hzn), trivial⟩ ?_
      have hDv : ∀ b, (D0 b ∨ New W6 W9 b) → b < v9.heap.size := fun b hb => by rcases hb with c | c; exact Nat.lt_of_lt_of_le (hD b c) (Nat.le_trans hk9.size hS.size); exact Nat.lt_of_lt_of_le c.2 hS.size
      refine qnz (i := 3) (fuel := 3) (f := 46) (vs := [.agg G, .agg Co]) (d := some 59) (by kernel_rfl) (by kernel_rfl) (by kernel_rfl) call46 (hpu (D1 := fun b => D0 b ∨ New W6 W9 b) hDv (fun _ hb => .inl hb) (btz hk9 hS)) ?_
      rintro e vX ⟨aX, nX, cX, rfl, oX, hbX⟩
      have hSX : Below W9.heap.size W9 vX := btz hS hbX
      have hTX : Blk vX B3 G 74 ∧ Blk vX B4 Cn 43 ∧ Blk vX B5 Co 43 := ⟨hB3.next hSX, hB4n.next hSX, hB5.next hSX⟩
      refine ⟨_, rfl, hTX, ?_⟩
      have oX2 : ObsD (LtN vX) (fun b => D0 b ∨ New W6 vX b) vX aX nX cX (puR X o) := ObsD.wide oX (fun b hb => by rcases hb with (c | c) | c; exact .inl c; exact .inr ⟨c.1, Nat.lt_of_lt_of_le c.2 hSX.size⟩; exact .inr ⟨Nat.le_trans hkz9 (Nat.le_trans hS.size c.1), c.2⟩) (fun b hb => hb.2)
      have hdX : ObD (fun b => D0 b ∨ New W6 vX b) vX Cn { d with links := insW d.links o.id } := (hd9.laterK fun b hb => hSX.block b (by rcases hb with c | c; exact Nat.lt_of_lt_of_le (hD b c) hk9.size; exact c.2)).wide fun b hb => hb.imp id fun c => ⟨c.1, Nat.lt_of_lt_of_le c.2 hSX.size⟩
      have hDX : ∀ b, (D0 b ∨ New W6 vX b) → b < vX.heap.size := fun b hb => by rcases hb with c | c; exact Nat.lt_of_lt_of_le (hD b c) (Nat.le_trans hk9.size hSX.size); exact c.2
      refine qnz (i := 5) (fuel := 2) (f := 46) (vs := [.agg #[.int .i64 t, .int .u64 ke, .int .u64 ro, .slice aX nX cX], .agg Cn]) (d := some 61) (by kernel_rfl) (by kernel_rfl) (by kernel_rfl) call46 (hpv hDX oX2 hdX hds2) ?_
      rintro e vY ⟨aY, nY, cY, rfl, oY, hbY⟩
      have hSY : Below W9.heap.size W9 vY := btz hSX hbY
      have hTY : Blk vY B3 G 74 ∧ Blk vY B4 Cn 43 ∧ Blk vY B5 Co 43 := ⟨hB3.next hSY, hB4n.next hSY, hB5.next hSY⟩
      refine ⟨_, rfl, hTY, ?_⟩
      have oY2 : ObsN W6 D0 vY aY nY cY (puR (puR X o) { d with links := insW d.links o.id }) := ObsD.wide oY (fun b hb => by rcases hb with (c | c) | c; exact .inl c; exact .inr ⟨c.1, Nat.lt_of_lt_of_le c.2 hbY.size⟩; exact .inr ⟨Nat.le_trans hkz9 (Nat.le_trans hSX.size c.1), c.2⟩) (fun b hb => ⟨Nat.le_trans hkz9 (Nat.le_trans hSX.size hb.1), hb.2⟩)
      obtain ⟨wZ, hst, hRz, qZ⟩ := whz (hR.next hSY) (hz2 (.slice aY nY cY)) (hs2 _) (h12 aY nY cY)
      refine qCz (i := 6) (n := 1) rfl (by kernel_rfl) ?_
      refine wkz (ty := 25) (B := R) (off := 0) (v := .agg #[.int .i64 t, .int .u64 ke, .int .u64 ro, .slice aY nY cY]) (d := none) (by kernel_rfl) hst ?_
      have hSZ : Below w.heap.size w wZ := qZ.below _ _ hsz.out.2.2.2.1 (btz hk9 hSY)
      have hRR : Oth R vY wZ := qZ
      have hTZ : Blk wZ B3 G 74 ∧ Blk wZ B4 Cn 43 ∧ Blk wZ B5 Co 43 := ⟨hTY.1.other qZ hnR.out.1, hTY.2.1.other qZ hnR.out.2.1, hTY.2.2.other qZ hnR.out.2.2⟩
      refine ⟨hTZ, ?_⟩
      refine qiz (by kernel_rfl) (fun _ _ _ _ _ h => h) hTZ [(7, none)] (l' := #[tt, tt, tt, tt, tt, tt, tt, tt]) (a' := { tmps := #[.agg G, .agg Cd, .agg Co, .pointer (some ⟨B3, 0, none⟩), .pointer (some ⟨B4, 0, none⟩), .pointer (some ⟨B5, 0, none⟩), .pointer (some ⟨R, 0, none⟩), .int .i64 0, .bool false, .pointer (some ⟨B4, 2, none⟩), .slice aD nD cD, .pointer (some ⟨B5, 2, none⟩), .slice aO nO cO, .bool true, .bool false, ud, ud, ud, undef, .bool (decide ((64 : Int) ≤ (nl : Int))), .pointer (some ⟨B4, 5, none⟩), .slice al nl cl, .int .i64 nl, .bool (decide ((64 : Int) ≤ (nl : Int))), ud, ud, ud, undef, .bool false, .pointer (some ⟨B5, 3, none⟩), .int .i64 o.quota, .agg G, .agg Cd, .int .i64 rm, .bool false, .bool false, .pointer (some ⟨B5, 1, none⟩), .int .i64 o.kind, .bool true, .bool true, .pointer (some ⟨B5, 5, none⟩), .slice ak nk ck, .int .i64 nk, .bool false, .bool false, .bool false, ud, ud, ud, undef, .pointer (some ⟨B4, 5, none⟩), .slice al nl cl, .pointer (some ⟨B5, 0, none⟩), .int .u64 o.id, .slice aV nn cV, .pointer (some ⟨B4, 5, none⟩), .pointer (some ⟨B3, 0, none⟩), .agg G, .agg Co, .agg #[.int .i64 t, .int .u64 ke, .int .u64 ro, .slice aX nX cX], .agg Cn, .agg #[.int .i64 t, .int .u64 ke, .int .u64 ro, .slice aY nY cY]], defers := [] }) (obs := []) (n := 0) (by kernel_rfl) (by kernel_rfl) trivial ?_
      refine wpAnyH_done (by kernel_rfl) ?_ _
      go_wp2
      refine bodyPost_ret (qPz results39 rfl rfl hRz rfl) rfl ?_
      have hE : ER = 0 := by rw [← hER.out]; unfold layE; rw [if_neg (by rw [hbp.out]; decide), if_neg (by rw [hln.out]; exact h64), if_neg (by rw [hrme.out, hlo.out]; have := q1.out; have := q3.out; omega)]
      have hY : YR = puR (puR X o) { d with links := insW d.links o.id } := by rw [← hYR.out]; unfold layX; rw [hER.out, hE]; rfl
      rw [hE, hY]
      exact ⟨aY, nY, cY, rfl, (ObsN.store oY2 qZ hsz.out.2.2.2.2 (fun b hb => by have := hD b hb; have := hsz.out.2.2.2.1; omega)).low hkw0.size, hSZ⟩
    ·replace q2 : Hid (¬ o.kind = 2) := q2
     refine qiz (by kernel_rfl) (fun _ _ _ _ _ h => h) hS8 [(5, some (.bool false)), (6, none), (7, none), (8, some (.int .i64 o.kind)), (9, some (.bool false)), (10, none), (11, none), (12, none), (13, none), (14, none), (15, none), (16, none), (17, none)] (l' := #[tt, tt, tt, tt, tt, tt, tt, tt, tt, tt, tt, tt, tt, tt, tt, tt, tt, tt]) (a' := { tmps := #[.agg G, .agg Cd, .agg Co, .pointer (some ⟨B3, 0, none⟩), .pointer (some ⟨B4, 0, none⟩), .pointer (some ⟨B5, 0, none⟩), .pointer (some ⟨R, 0, none⟩), .int .i64 0, .bool false, .pointer (some ⟨B4, 2, none⟩), .slice aD nD cD, .pointer (some ⟨B5, 2, none⟩), .slice aO nO cO, .bool true, .bool false, ud, ud, ud, undef, .bool (decide ((64 : Int) ≤ (nl : Int))), .pointer (some ⟨B4, 5, none⟩), .slice al nl cl, .int .i64 nl, .bool (decide ((64 : Int) ≤ (nl : Int))), ud, ud, ud, undef, .bool false, .pointer (some ⟨B5, 3, none⟩), .int .i64 o.quota, .agg G, .agg Cd, .int .i64 rm, .bool false, .bool false, .pointer (some ⟨B5, 1, none⟩), .int .i64 o.kind, .bool false, .bool false, ud, ud, ud, undef, .bool false, .bool false, ud, ud, ud, ud, ud, ud, ud, ud, ud, ud, ud, ud, ud, ud, ud, undef], defers := [] }) (obs := [.test .gtr 3 (.tmp 30) (.tmp 33) (.int .i64 o.quota) (.int .i64 rm) (.bool false), .load 3 B5 1 (.int .i64 o.kind), .test .eql 3 (.tmp 37) (.const (.int .i64 2)) (.int .i64 o.kind) (.int .i64 2) (.bool false)]) (n := 0) (by kernel_rfl) (by kernel_rfl) ⟨qRz (fun _ => qAz _ _ _ _ _ _) q1, qhz (fun _ h => hB5.next h) e1 isAgg3, qRz (fun _ => qvz _ _ _ _ _ _) q2, trivial⟩ ?_
     refine wpAnyH_done (by kernel_rfl) ?_ _
     replace hB3 := hB3.next hS8
     replace hB4 := hB4.next hS8
     replace hB5 := hB5.next hS8
     replace hR := hR.next hS8
     replace hkz := btz hkz hS8
     replace hk := btz hk hS8
     clear hS8 hS hb8
     go_wp2_with (first
      | (with_reducible refine qbz (by kernel_rfl) _ _ rfl B4 _ rfl _ _ hB4 _ c5 isAgg28 ?_)
      | (with_reducible refine qbz (by kernel_rfl) _ _ rfl B5 _ rfl _ _ hB5 _ e0 isAgg22 ?_)
      | (go_at_call 73; (with_reducible refine (hli _ hk).mono ?_); rintro e w9 ⟨V, rfl, hown, hb9⟩; have hkV := hkz; replace hB3 := hB3.next hb9; replace hB4 := hB4.next hb9; replace hB5 := hB5.next hb9; replace hR := hR.next hb9; replace hkz := btz hkz hb9; replace hk := btz hk hb9; obtain ⟨aV, cV, rfl, hct⟩ := xPz hown)
      | ((with_reducible refine qjz rfl _ _ _ rfl B4 5 rfl (.slice aV (insW d.links o.id).length cV) rfl rfl Cd _ hB4 wyz (by rw [hzd]; omega) rfl ?_); intro W9 hB4n q9; replace hB3 := hB3.other q9 (Ne.symm hne.out.2.2); replace hB5 := hB5.other q9 (Ne.symm hne.out.2.1); replace hR := hR.other q9 (Ne.symm hne.out.1)))
     have hk9 : Below w.heap.size w W9 := q9.below _ _ hsz.out.2.2.1 hk
     have hkz9 : W6.heap.size ≤ W9.heap.size := by rw [q9.size]; exact hkz.size
     have hct9 : CtD (fun b => D0 b ∨ New W6 W9 b) W9 aV (insW d.links o.id).length cV (insW d.links o.id) := (hct.laterK fun b hb => q9.block b (by have := hb.1; have := hkV.size; have := hsz.out.2.1; omega)).wide fun b hb => .inr ⟨Nat.le_trans hkV.size hb.1, by rw [q9.size]; exact hb.2⟩
     have hd9 : ObD (fun b => D0 b ∨ New W6 W9 b) W9 (Cd.setIfInBounds 5 (.slice aV (insW d.links o.id).length cV)) { d with links := insW d.links o.id } := ((hd.laterK fun b hb => hk9.block b (hD b hb)).wide fun b hb => .inl hb).set5 ⟨aV, _, cV, rfl, hct9⟩ rfl
     have hzn : (Cd.setIfInBounds 5 (.slice aV (insW d.links o.id).length cV)).size = 51 := hd9.size
     have hln2 : (insW d.links o.id).length = nl + 1 := by rw [← hln.out]; unfold insW; have := gEz d.links o.id; simp; omega
     have hds2 : Small { d with links := insW d.links o.id } := kcz hds (by rw [hln2]; omega)
     obtain ⟨Cn, hCn⟩ : ∃ Cn, Hid (Cd.setIfInBounds 5 (.slice aV (insW d.links o.id).length cV) = Cn) := ⟨_, rfl⟩
     rw [hCn.out] at hd9 hzn hB4n
     generalize (insW d.links o.id).length = nn at *
     have hS : Below W9.heap.size W9 W9.drew := (Below.refl _ _).drew
     refine PgM.region_out (S := fun W => Blk W B3 G 74 ∧ Blk W B4 Cn 43 ∧ Blk W B5 Co 43) hmx ⟨hB3.next hS, hB4n.next hS, hB5.next hS⟩ (fun hT => ?_)
     generalize W9.drew = v9 at hS hT ⊢
     refine qiz (by kernel_rfl) (fun _ _ _ _ _ h => h) hT [(0, none), (1, some (.agg G)), (2, some (.agg Co)), (4, some (.agg Cn))] (l' := #[tt, tt, tt, ff, tt, ff, ff, ff]) (a' := { tmps := #[.agg G, .agg Cd, .agg Co, .pointer (some ⟨B3, 0, none⟩), .pointer (some ⟨B4, 0, none⟩), .pointer (some ⟨B5, 0, none⟩), .pointer (some ⟨R, 0, none⟩), .int .i64 0, .bool false, .pointer (some ⟨B4, 2, none⟩), .slice aD nD cD, .pointer (some ⟨B5, 2, none⟩), .slice aO nO cO, .bool true, .bool false, ud, ud, ud, undef, .bool (decide ((64 : Int) ≤ (nl : Int))), .pointer (some ⟨B4, 5, none⟩), .slice al nl cl, .int .i64 nl, .bool (decide ((64 : Int) ≤ (nl : Int))), ud, ud, ud, undef, .bool false, .pointer (some ⟨B5, 3, none⟩), .int .i64 o.quota, .agg G, .agg Cd, .int .i64 rm, .bool false, .bool false, .pointer (some ⟨B5, 1, none⟩), .int .i64 o.kind, .bool false, .bool false, ud, ud, ud, undef, .bool false, .bool false, ud, ud, ud, undef, .pointer (some ⟨B4, 5, none⟩), .slice al nl cl, .pointer (some ⟨B5, 0, none⟩), .int .u64 o.id, .slice aV nn cV, .pointer (some ⟨B4, 5, none⟩), .pointer (some ⟨B3, 0, none⟩), .agg G, .agg Co, undef, .agg Cn, undef], defers := [] }) (obs := [.load 25 B3 0 (.agg G), .load 43 B5 0 (.agg Co), .load 43 B4 0 (.agg Cn)]) (n := 4) (by kernel_rfl) (by kernel_rfl) ⟨jAz (fun _ h => h.1) hV hG4, qwz (fun _ h => h.2.2) underlying43 (by kernel_rfl) (qfz hzo), qwz (fun _ h => h.2.1) underlying43 (by kernel_rfl) (qfz hzn), trivial⟩ ?_
     have hDv : ∀ b, (D0 b ∨ New W6 W9 b) → b < v9.heap.size := fun b hb => by rcases hb with c | c; exact Nat.lt_of_lt_of_le (hD b c) (Nat.le_trans hk9.size hS.size); exact Nat.lt_of_lt_of_le c.2 hS.size
     refine qnz (i := 3) (fuel := 3) (f := 46) (vs := [.agg G, .agg Co]) (d := some 59) (by kernel_rfl) (by kernel_rfl) (by kernel_rfl) call46 (hpu (D1 := fun b => D0 b ∨ New W6 W9 b) hDv (fun _ hb => .inl hb) (btz hk9 hS)) ?_
     rintro e vX ⟨aX, nX, cX, rfl, oX, hbX⟩
     have hSX : Below W9.heap.size W9 vX := btz hS hbX
     have hTX : Blk vX B3 G 74 ∧ Blk vX B4 Cn 43 ∧ Blk vX B5 Co 43 := ⟨hB3.next hSX, hB4n.next hSX, hB5.next hSX⟩
     refine ⟨_, rfl, hTX, ?_⟩
     have oX2 : ObsD (LtN vX) (fun b => D0 b ∨ New W6 vX b) vX aX nX cX (puR X o) := ObsD.wide oX (fun b hb => by rcases hb with (c | c) | c; exact .inl c; exact .inr ⟨c.1, Nat.lt_of_lt_of_le c.2 hSX.size⟩; exact .inr ⟨Nat.le_trans hkz9 (Nat.le_trans hS.size c.1), c.2⟩) (fun b hb => hb.2)
     have hdX : ObD (fun b => D0 b ∨ New W6 vX b) vX Cn { d with links := insW d.links o.id } := (hd9.laterK fun b hb => hSX.block b (by rcases hb with c | c; exact Nat.lt_of_lt_of_le (hD b c) hk9.size; exact c.2)).wide fun b hb => hb.imp id fun c => ⟨c.1, Nat.lt_of_lt_of_le c.2 hSX.size⟩
     have hDX : ∀ b, (D0 b ∨ New W6 vX b) → b < vX.heap.size := fun b hb => by rcases hb with c | c; exact Nat.lt_of_lt_of_le (hD b c) (Nat.le_trans hk9.size hSX.size); exact c.2
     refine qnz (i := 5) (fuel := 2) (f := 46) (vs := [.agg #[.int .i64 t, .int .u64 ke, .int .u64 ro, .slice aX nX cX], .agg Cn]) (d := some 61) (by kernel_rfl) (by kernel_rfl) (by kernel_rfl) call46 (hpv hDX oX2 hdX hds2) ?_
     rintro e vY ⟨aY, nY, cY, rfl, oY, hbY⟩
     have hSY : Below W9.heap.size W9 vY := btz hSX hbY
     have hTY : Blk vY B3 G 74 ∧ Blk vY B4 Cn 43 ∧ Blk vY B5 Co 43 := ⟨hB3.next hSY, hB4n.next hSY, hB5.next hSY⟩
     refine ⟨_, rfl, hTY, ?_⟩
     have oY2 : ObsN W6 D0 vY aY nY cY (puR (puR X o) { d with links := insW d.links o.id }) := ObsD.wide oY (fun b hb => by rcases hb with (c | c) | c; exact .inl c; exact .inr ⟨c.1, Nat.lt_of_lt_of_le c.2 hbY.size⟩; exact .inr ⟨Nat.le_trans hkz9 (Nat.le_trans hSX.size c.1), c.2⟩) (fun b hb => ⟨Nat.le_trans hkz9 (Nat.le_trans hSX.size hb.1), hb.2⟩)
     obtain ⟨wZ, hst, hRz, qZ⟩ := whz (hR.next hSY) (hz2 (.slice aY nY cY)) (hs2 _) (h12 aY nY cY)
     refine qCz (i := 6) (n := 1) rfl (by kernel_rfl) ?_
     refine wkz (ty := 25) (B := R) (off := 0) (v := .agg #[.int .i64 t, .int .u64 ke, .int .u64 ro, .slice aY nY cY]) (d := none) (by kernel_rfl) hst ?_
     have hSZ : Below w.heap.size w wZ := qZ.below _ _ hsz.out.2.2.2.1 (btz hk9 hSY)
     have hRR : Oth R vY wZ := qZ
     have hTZ : Blk wZ B3 G 74 ∧ Blk wZ B4 Cn 43 ∧ Blk wZ B5 Co 43 := ⟨hTY.1.other qZ hnR.out.1, hTY.2.1.other qZ hnR.out.2.1, hTY.2.2.other qZ hnR.out.2.2⟩
     refine ⟨hTZ, ?_⟩
     refine qiz (by kernel_rfl) (fun _ _ _ _ _ h => h) hTZ [(7, none)] (l' := #[tt, tt, tt, tt, tt, tt, tt, tt]) (a' := { tmps := #[.agg G, .agg Cd, .agg Co, .pointer (some ⟨B3, 0, none⟩), .pointer (some ⟨B4, 0, none⟩), .pointer (some ⟨B5, 0, none⟩), .pointer (some ⟨R, 0, none⟩), .int .i64 0, .bool false, .pointer (some ⟨B4, 2, none⟩), .slice aD nD cD, .pointer (some ⟨B5, 2, none⟩), .slice aO nO cO, .bool true, .bool false, ud, ud, ud, undef, .bool (decide ((64 : Int) ≤ (nl : Int))), .pointer (some ⟨B4, 5, none⟩), .slice al nl cl, .int .i64 nl, .bool (decide ((64 : Int) ≤ (nl : Int))), ud, ud, ud, undef, .bool false, .pointer (some ⟨B5, 3, none⟩), .int .i64 o.quota, .agg G, .agg Cd, .int .i64 rm, .bool false, .bool false, .pointer (some ⟨B5, 1, none⟩), .int .i64 o.kind, .bool false, .bool false, ud, ud, ud, undef, .bool false, .bool false, ud, ud, ud, undef, .pointer (some ⟨B4, 5, none⟩), .slice al nl cl, .pointer (some ⟨B5, 0, none⟩), .int .u64 o.id, .slice aV nn cV, .pointer (some ⟨B4, 5, none⟩), .pointer (some ⟨B3, 0, none⟩), .agg G, .agg Co, .agg #[.int .i64 t, .int .u64 ke, .int .u64 ro, .slice aX nX cX], .agg Cn, .agg #[.int .i64 t, .int .u64 ke, .int .u64 ro, .slice aY nY cY]], defers := [] }) (obs := []) (n := 0) (by kernel_rfl) (by kernel_rfl) trivial ?_
     refine wpAnyH_done (by kernel_rfl) ?_ _
     go_wp2
     refine bodyPost_ret (qPz results39 rfl rfl hRz rfl) rfl ?_
     have hE : ER = 0 := by rw [← hER.out]; unfold layE; rw [if_neg (by rw [hbp.out]; decide), if_neg (by rw [hln.out]; exact h64), if_neg (by rw [hrme.out]; have := q1.out; have := q2.out; omega)]
     have hY : YR = puR (puR X o) { d with links := insW d.links o.id } := by rw [← hYR.out]; unfold layX; rw [hER.out, hE]; rfl
     rw [hE, hY]
     exact ⟨aY, nY, cY, rfl, (ObsN.store oY2 qZ hsz.out.2.2.2.2 (fun b hb => by have := hD b hb; have := hsz.out.2.2.2.1; omega)).low hkw0.size, hSZ⟩
end
section
open Go.RowKit Go.Shelf
attribute [local go_sem] Oper.semAt_some
def attE (X : List Ob) (i : Int) (o : Ob) : Int := if (fnd X i).isSome = false then 1 else if (fO X i).kind ≠ 2 then 3 else if (fnd X o.id).isSome = true then 12 else layE X (fO X i) o
def attX (X : List Ob) (i : Int) (o : Ob) : List Ob := if (fnd X i).isSome = false then X else if (fO X i).kind ≠ 2 then X else if (fnd X o.id).isSome = true then X else layX X (fO X i) o
theorem jVz {w w' : World} {D0 : Nat → Prop} {ao : Option Addr} {n cap : Nat} {X : List Ob} {Cf : Nat → Array Value} (h : ObsF (LtN w) D0 w ao n cap X Cf) (hD : ∀ b, D0 b → b < w.heap.size) (k : Below w.heap.size w w') : ObsF (LtN w') D0 w' ao n cap X Cf :=
 (h.laterK (fun b hb => k.block b (hD b hb)) (fun b hb => k.block b hb)).wide (fun _ hb => hb) (fun b hb => Nat.lt_of_lt_of_le hb k.size)
structure Lays (X : List Ob) : Prop where
 srt : Srt X
 sms : wbz X
 nul : fnd X 0 = none
 quo : ∀ x ∈ X, 0 ≤ x.quota ∧ x.quota ≤ 4096
 lab : ∀ x ∈ X, x.label.length < 1048576
 ris : ∀ x ∈ X, x.links.Pairwise (· < ·) ∧ x.links.length ≤ 4000
theorem Lays.at {X : List Ob} (h : Lays X) (i : Int) : Small (fO X i) ∧ (0 ≤ (fO X i).quota ∧ (fO X i).quota ≤ 4096) ∧ (fO X i).label.length < 1048576 ∧ ((fO X i).links.Pairwise (· < ·) ∧ (fO X i).links.length ≤ 4000) := by
 unfold fO
 cases hf : fnd X i with
 | none => exact ⟨⟨by decide, by decide, by decide, by decide, by decide, by decide, by decide, by decide, by decide, by decide, by decide, by decide, by decide, by decide⟩, by decide, by decide, List.Pairwise.nil, by decide⟩
 | some x => exact ⟨h.sms x (xRz hf).2, h.quo x (xRz hf).2, h.lab x (xRz hf).2, h.ris x (xRz hf).2⟩
theorem juz {w : World} {t ke ro i : Int} {ao : Option Addr} {n cap : Nat} {X : List Ob} {Cf : Nat → Array Value} {D0 : Nat → Prop} {Co : Array Value} {o : Ob} (hD : ∀ b, D0 b → b < w.heap.size) (h : ObsF (LtN w) D0 w ao n cap X Cf) (hL : Lays X) (hn16 : n < 1022) (ho : ObD D0 w Co o) (hos : Small o) (hol : o.label.length < 1048576) :
  Calls prog 10 #[.agg #[.int .i64 t, .int .u64 ke, .int .u64 ro, .slice ao n cap], .int .u64 i, .agg Co] w fun e w' => ∃ ao2 n2 cap2, e = .returned (.tuple #[.agg #[.int .i64 t, .int .u64 ke, .int .u64 ro, .slice ao2 n2 cap2], .int .i64 (attE X i o)]) ∧ ObsN w D0 w' ao2 n2 cap2 (attX X i o) ∧ Below w.heap.size w w' := by
 have hO : ObsD (LtN w) D0 w ao n cap X := h.obs
 have hF : ObsF (LtN w) (LtN w) w ao n cap X Cf := h.wide hD (fun _ hb => hb)
 have hzw : (prog.info? 25).map (·.size) = some (#[.int .i64 t, .int .u64 ke, .int .u64 ro, .slice ao n cap] : Array Value).size := by kernel_rfl
 have hzv : (prog.info? 74).map (·.size) = some (#[.int .i64 t, .int .u64 ke, .int .u64 ro, .slice ao n cap] : Array Value).size := by kernel_rfl
 have hbt : prog.built 74 [(0, .agg #[.int .i64 t, .int .u64 ke, .int .u64 ro, .slice ao n cap])] = some #[.int .i64 t, .int .u64 ke, .int .u64 ro, .slice ao n cap] := by kernel_rfl
 have hz4 : (#[.int .i64 0, .int .u64 0, .int .u64 0, .slice none 0 0] : Array Value).size = (#[.int .i64 t, .int .u64 ke, .int .u64 ro, .slice ao n cap] : Array Value).size := rfl
 have h14 : (#[.int .i64 t, .int .u64 ke, .int .u64 ro, .slice ao n cap] : Array Value).all (·.oneCell') = true := by simp [Value.oneCell']
 have hz2 : ∀ v, (prog.info? 25).map (·.size) = some (#[.int .i64 t, .int .u64 ke, .int .u64 ro, v] : Array Value).size := fun _ => wfz
 have hs2 : ∀ v, zW.size = (#[.int .i64 t, .int .u64 ke, .int .u64 ro, v] : Array Value).size := fun _ => rfl
 have h12 : ∀ ao n cap, (#[.int .i64 t, .int .u64 ke, .int .u64 ro, .slice ao n cap] : Array Value).all (·.oneCell') = true := fun _ _ _ => by kernel_rfl
 have hrf := fun {er : Int} (W : World) (hk : Below w.heap.size w W) => wXz (t := t) (ke := ke) (ro := ro) (er := er) (D0 := D0) (fun b hb => Nat.lt_of_lt_of_le (hD b hb) hk.size) (qUz hO hD hk) hL.srt (by omega) hL.sms hL.nul
 have hf1 := fun (W : World) (hk : Below w.heap.size w W) => xtz (t := t) (ke := ke) (ro := ro) (i := i) (hF.next hk) hL.srt (by omega)
 have hf2 := fun (W : World) (hk : Below w.heap.size w W) => xtz (t := t) (ke := ke) (ro := ro) (i := o.id) (hF.next hk) hL.srt (by omega)
 have hdo := j7z h hL.srt i
 have hdo2 := j7z h hL.srt o.id
 have hla := fun (W : World) (hk : Below w.heap.size w W) => laid_v (t := t) (ke := ke) (ro := ro) (D0 := D0) (fun b hb => Nat.lt_of_lt_of_le (hD b hb) hk.size) (jVz h hD hk) hL.srt hn16 hL.sms hL.nul hL.quo (hdo.laterK fun b hb => hk.block b (hD b hb)) (hL.at i).1 (hL.at i).2.1 (hL.at i).2.2.1 (hL.at i).2.2.2.1 (hL.at i).2.2.2.2 (ho.laterK fun b hb => hk.block b (hD b hb)) hos hol
 have hz1 := hdo.size
 have h1c := hdo.one
 have d1 := hdo.kind
 have hz3 := hdo2.size
 have h3c := hdo2.one
 have hzo := ho.size
 have e0 := ho.id
 obtain ⟨ER, hER⟩ : ∃ ER, Hid (attE X i o = ER) := ⟨_, rfl⟩
 obtain ⟨YR, hYR⟩ : ∃ YR, Hid (attX X i o = YR) := ⟨_, rfl⟩
 rw [hER.out, hYR.out]
 generalize fC X Cf i = C1 at hf1 hz1 h1c d1 hla
 generalize fC X Cf o.id = C2 at hf2 hz3 h3c
 clear hdo hdo2
 obtain ⟨LE, hLE⟩ : ∃ LE, Hid (layE X (fO X i) o = LE) := ⟨_, rfl⟩
 obtain ⟨LX, hLX⟩ : ∃ LX, Hid (layX X (fO X i) o = LX) := ⟨_, rfl⟩
 simp only [hLE.out, hLX.out] at hla
 obtain ⟨kd, hkd⟩ : ∃ kd, Hid ((fO X i).kind = kd) := ⟨_, rfl⟩
 rw [hkd.out] at d1
 obtain ⟨G, hG⟩ : ∃ G : Array Value, G = #[.int .i64 t, .int .u64 ke, .int .u64 ro, .slice ao n cap] := ⟨_, rfl⟩
 simp only [← hG] at hrf hf1 hf2 hla
 rw [← hG] at hzw hzv hbt hz4 h14
 rw [← hG]
 clear hG
 cases hb1 : (fnd X i).isSome with
 | false =>
  rw [hb1] at hf1
  generalize (fnd X o.id).isSome = b2 at hf2
  go_enter func10, ntmps10
  go_wp2_with (first
   | (with_reducible refine qdz rfl 25 _ rfl G rfl ?_; intro B3 W3 hN3 hB3 hk)
   | (with_reducible refine qdz rfl 43 _ rfl Co rfl ?_; intro B5 W5 hN5 hB5 hk5; replace hB3 := hB3.next hk5; replace hk := btz hk hk5)
   | ((with_reducible refine qcz rfl 25 rfl zW qNz ?_); intro R W6 hN6 hR hk6; have hRw : Hid (w.heap.size ≤ R) := (by have := hN6.out; have := hk.size; refine (?_ : w.heap.size ≤ R); omega); replace hB3 := hB3.next hk6; replace hB5 := hB5.next hk6; replace hk := btz hk hk6; clear hN3 hN5 hN6)
   | (with_reducible refine qez (by kernel_rfl) 25 _ rfl B3 rfl G hB3 _ underlying25 (by kernel_rfl) hzw ?_)
   | ((with_reducible refine qpz (by kernel_rfl) _ [(0, .tmp 13)] rfl G ?hf ?_); (case hf => exact hbt))
   | ((with_reducible refine qcz rfl 74 rfl #[.int .i64 0, .int .u64 0, .int .u64 0, .slice none 0 0] Tryz.zeroValue74 ?_); intro B8 W8 hN8 hR8 hk8)
   | ((with_reducible refine qaz rfl _ _ _ rfl B8 rfl G rfl _ hR8 hzv hz4 h14 ?_); intro V8 hB8 o8; have hb8 : Below W6.heap.size W6 V8 := o8.below W6.heap.size W6 (by have := hN8.out; omega) hk8; replace hB3 := hB3.next hb8; replace hB5 := hB5.next hb8; replace hR := hR.next hb8; replace hk := btz hk hb8; clear hN8 hR8 hk8 o8 hb8)
   | (with_reducible refine qez (by kernel_rfl) 74 _ rfl B8 rfl G hB8 _ underlying74 (by kernel_rfl) hzv ?_)
   | (with_reducible refine qbz (by kernel_rfl) _ _ rfl B5 _ rfl _ _ hB5 _ e0 isAgg22 ?_)
   | (go_at_call 37; have hx := hP9; (with_reducible refine (hf2 _ hk).mono ?_); rintro e w11 ⟨rfl, hb8⟩; replace hB3 := hB3.next hb8; replace hB5 := hB5.next hb8; replace hR := hR.next hb8; replace hB8 := hB8.next hb8; replace hP9 := hP9.next hb8; replace hk := btz hk hb8; clear hb8 hx)
   | (go_at_call 37; (with_reducible refine (hf1 _ hk).mono ?_); rintro e w9 ⟨rfl, hb8⟩; replace hB3 := hB3.next hb8; replace hB5 := hB5.next hb8; replace hR := hR.next hb8; replace hB8 := hB8.next hb8; replace hk := btz hk hb8; clear hb8)
   | ((with_reducible refine qcz rfl 43 rfl zC qqz ?_); have hx := hP9; intro P11 W11 hN11 hP11a hk11; clear hx)
   | ((with_reducible refine qcz rfl 43 rfl zC qqz ?_); intro P9 W9 hN9 hP9a hk9)
   | ((with_reducible refine qaz rfl _ _ _ rfl P9 rfl C1 rfl zC hP9a (qfz hz1) (qmz.trans hz1.symm) h1c ?_); intro V9 hP9 q9; have hb8 : Below w9.heap.size w9 V9 := q9.below w9.heap.size w9 (by have := hN9.out; omega) hk9; replace hB3 := hB3.next hb8; replace hB5 := hB5.next hb8; replace hR := hR.next hb8; replace hB8 := hB8.next hb8; replace hk := btz hk hb8; clear hN9 hP9a hk9 q9 hb8)
   | ((with_reducible refine qaz rfl _ _ _ rfl P11 rfl C2 rfl zC hP11a (qfz hz3) (qmz.trans hz3.symm) h3c ?_); intro V11 hP11 q11; have hb8 : Below w11.heap.size w11 V11 := q11.below w11.heap.size w11 (by have := hN11.out; omega) hk11; replace hB3 := hB3.next hb8; replace hB5 := hB5.next hb8; replace hR := hR.next hb8; replace hB8 := hB8.next hb8; replace hP9 := hP9.next hb8; replace hk := btz hk hb8; clear hN11 hP11a hk11 q11 hb8)
   | (with_reducible refine qbz (by kernel_rfl) _ _ rfl P9 _ rfl _ _ hP9 _ d1 isAgg3 ?_)
   | (go_at_call 38; (with_reducible refine (hrf _ hk).mono ?_); rintro e w12 ⟨aX, nX, cX, rfl, oX, hb9⟩; have hR9 := hR.next hb9)
   | ((with_reducible refine qaz rfl _ _ _ rfl R rfl _ rfl zW hR9 (hz2 _) (hs2 _) (h12 aX nX cX) ?_); intro W13 hR13 q13))
  refine bodyPost_ret (qPz results10 rfl rfl hR13 rfl) rfl ?_
  have hE : ER = 1 := by rw [← hER.out]; unfold attE; rw [if_pos hb1]
  have hY : YR = X := by rw [← hYR.out]; unfold attX; rw [if_pos hb1]
  rw [hE, hY]
  exact ⟨aX, nX, cX, rfl, (ObsN.store oX q13 hR.lt (fun b hb => by have := hD b hb; have := hRw.out; omega)).low hk.size, q13.below _ _ hRw.out (btz hk hb9)⟩
 | true =>
  rw [hb1] at hf1
  by_cases k2 : kd = 2
  ·subst k2
   cases hb2 : (fnd X o.id).isSome with
   | true =>
    rw [hb2] at hf2
    go_enter func10, ntmps10
    go_wp2_with (first
     | (with_reducible refine qdz rfl 25 _ rfl G rfl ?_; intro B3 W3 hN3 hB3 hk)
     | (with_reducible refine qdz rfl 43 _ rfl Co rfl ?_; intro B5 W5 hN5 hB5 hk5; replace hB3 := hB3.next hk5; replace hk := btz hk hk5)
     | ((with_reducible refine qcz rfl 25 rfl zW qNz ?_); intro R W6 hN6 hR hk6; have hRw : Hid (w.heap.size ≤ R) := (by have := hN6.out; have := hk.size; refine (?_ : w.heap.size ≤ R); omega); replace hB3 := hB3.next hk6; replace hB5 := hB5.next hk6; replace hk := btz hk hk6; clear hN3 hN5 hN6)
     | (with_reducible refine qez (by kernel_rfl) 25 _ rfl B3 rfl G hB3 _ underlying25 (by kernel_rfl) hzw ?_)
     | ((with_reducible refine qpz (by kernel_rfl) _ [(0, .tmp 13)] rfl G ?hf ?_); (case hf => exact hbt))
     | ((with_reducible refine qcz rfl 74 rfl #[.int .i64 0, .int .u64 0, .int .u64 0, .slice none 0 0] Tryz.zeroValue74 ?_); intro B8 W8 hN8 hR8 hk8)
     | ((with_reducible refine qaz rfl _ _ _ rfl B8 rfl G rfl _ hR8 hzv hz4 h14 ?_); intro V8 hB8 o8; have hb8 : Below W6.heap.size W6 V8 := o8.below W6.heap.size W6 (by have := hN8.out; omega) hk8; replace hB3 := hB3.next hb8; replace hB5 := hB5.next hb8; replace hR := hR.next hb8; replace hk := btz hk hb8; clear hN8 hR8 hk8 o8 hb8)
     | (with_reducible refine qez (by kernel_rfl) 74 _ rfl B8 rfl G hB8 _ underlying74 (by kernel_rfl) hzv ?_)
     | (with_reducible refine qbz (by kernel_rfl) _ _ rfl B5 _ rfl _ _ hB5 _ e0 isAgg22 ?_)
     | (go_at_call 37; have hx := hP9; (with_reducible refine (hf2 _ hk).mono ?_); rintro e w11 ⟨rfl, hb8⟩; replace hB3 := hB3.next hb8; replace hB5 := hB5.next hb8; replace hR := hR.next hb8; replace hB8 := hB8.next hb8; replace hP9 := hP9.next hb8; replace hk := btz hk hb8; clear hb8 hx)
     | (go_at_call 37; (with_reducible refine (hf1 _ hk).mono ?_); rintro e w9 ⟨rfl, hb8⟩; replace hB3 := hB3.next hb8; replace hB5 := hB5.next hb8; replace hR := hR.next hb8; replace hB8 := hB8.next hb8; replace hk := btz hk hb8; clear hb8)
     | ((with_reducible refine qcz rfl 43 rfl zC qqz ?_); have hx := hP9; intro P11 W11 hN11 hP11a hk11; clear hx)
     | ((with_reducible refine qcz rfl 43 rfl zC qqz ?_); intro P9 W9 hN9 hP9a hk9)
     | ((with_reducible refine qaz rfl _ _ _ rfl P9 rfl C1 rfl zC hP9a (qfz hz1) (qmz.trans hz1.symm) h1c ?_); intro V9 hP9 q9; have hb8 : Below w9.heap.size w9 V9 := q9.below w9.heap.size w9 (by have := hN9.out; omega) hk9; replace hB3 := hB3.next hb8; replace hB5 := hB5.next hb8; replace hR := hR.next hb8; replace hB8 := hB8.next hb8; replace hk := btz hk hb8; clear hN9 hP9a hk9 q9 hb8)
     | ((with_reducible refine qaz rfl _ _ _ rfl P11 rfl C2 rfl zC hP11a (qfz hz3) (qmz.trans hz3.symm) h3c ?_); intro V11 hP11 q11; have hb8 : Below w11.heap.size w11 V11 := q11.below w11.heap.size w11 (by have := hN11.out; omega) hk11; replace hB3 := hB3.next hb8; replace hB5 := hB5.next hb8; replace hR := hR.next hb8; replace hB8 := hB8.next hb8; replace hP9 := hP9.next hb8; replace hk := btz hk hb8; clear hN11 hP11a hk11 q11 hb8)
     | (with_reducible refine qbz (by kernel_rfl) _ _ rfl P9 _ rfl _ _ hP9 _ d1 isAgg3 ?_)
     | (go_at_call 38; (with_reducible refine (hrf _ hk).mono ?_); rintro e w12 ⟨aX, nX, cX, rfl, oX, hb9⟩; have hR9 := hR.next hb9)
     | ((with_reducible refine qaz rfl _ _ _ rfl R rfl _ rfl zW hR9 (hz2 _) (hs2 _) (h12 aX nX cX) ?_); intro W13 hR13 q13))
    refine bodyPost_ret (qPz results10 rfl rfl hR13 rfl) rfl ?_
    have hE : ER = 12 := by rw [← hER.out]; unfold attE; rw [if_neg (by rw [hb1]; decide), if_neg (by rw [hkd.out]; decide), if_pos hb2]
    have hY : YR = X := by rw [← hYR.out]; unfold attX; rw [if_neg (by rw [hb1]; decide), if_neg (by rw [hkd.out]; decide), if_pos hb2]
    rw [hE, hY]
    exact ⟨aX, nX, cX, rfl, (ObsN.store oX q13 hR.lt (fun b hb => by have := hD b hb; have := hRw.out; omega)).low hk.size, q13.below _ _ hRw.out (btz hk hb9)⟩
   | false =>
    rw [hb2] at hf2
    go_enter func10, ntmps10
    go_wp2_with (first
     | (with_reducible refine qdz rfl 25 _ rfl G rfl ?_; intro B3 W3 hN3 hB3 hk)
     | (with_reducible refine qdz rfl 43 _ rfl Co rfl ?_; intro B5 W5 hN5 hB5 hk5; replace hB3 := hB3.next hk5; replace hk := btz hk hk5)
     | ((with_reducible refine qcz rfl 25 rfl zW qNz ?_); intro R W6 hN6 hR hk6; have hRw : Hid (w.heap.size ≤ R) := (by have := hN6.out; have := hk.size; refine (?_ : w.heap.size ≤ R); omega); replace hB3 := hB3.next hk6; replace hB5 := hB5.next hk6; replace hk := btz hk hk6; clear hN3 hN5 hN6)
     | (with_reducible refine qez (by kernel_rfl) 25 _ rfl B3 rfl G hB3 _ underlying25 (by kernel_rfl) hzw ?_)
     | ((with_reducible refine qpz (by kernel_rfl) _ [(0, .tmp 13)] rfl G ?hf ?_); (case hf => exact hbt))
     | ((with_reducible refine qcz rfl 74 rfl #[.int .i64 0, .int .u64 0, .int .u64 0, .slice none 0 0] Tryz.zeroValue74 ?_); intro B8 W8 hN8 hR8 hk8)
     | ((with_reducible refine qaz rfl _ _ _ rfl B8 rfl G rfl _ hR8 hzv hz4 h14 ?_); intro V8 hB8 o8; have hb8 : Below W6.heap.size W6 V8 := o8.below W6.heap.size W6 (by have := hN8.out; omega) hk8; replace hB3 := hB3.next hb8; replace hB5 := hB5.next hb8; replace hR := hR.next hb8; replace hk := btz hk hb8; clear hN8 hR8 hk8 o8 hb8)
     | (with_reducible refine qez (by kernel_rfl) 74 _ rfl B8 rfl G hB8 _ underlying74 (by kernel_rfl) hzv ?_)
     | (with_reducible refine qbz (by kernel_rfl) _ _ rfl B5 _ rfl _ _ hB5 _ e0 isAgg22 ?_)
     | (go_at_call 37; have hx := hP9; (with_reducible refine (hf2 _ hk).mono ?_); rintro e w11 ⟨rfl, hb8⟩; replace hB3 := hB3.next hb8; replace hB5 := hB5.next hb8; replace hR := hR.next hb8; replace hB8 := hB8.next hb8; replace hP9 := hP9.next hb8; replace hk := btz hk hb8; clear hb8 hx)
     | (go_at_call 37; (with_reducible refine (hf1 _ hk).mono ?_); rintro e w9 ⟨rfl, hb8⟩; replace hB3 := hB3.next hb8; replace hB5 := hB5.next hb8; replace hR := hR.next hb8; replace hB8 := hB8.next hb8; replace hk := btz hk hb8; clear hb8)
     | ((with_reducible refine qcz rfl 43 rfl zC qqz ?_); have hx := hP9; intro P11 W11 hN11 hP11a hk11; clear hx)
     | ((with_reducible refine qcz rfl 43 rfl zC qqz ?_); intro P9 W9 hN9 hP9a hk9)
     | ((with_reducible refine qaz rfl _ _ _ rfl P9 rfl C1 rfl zC hP9a (qfz hz1) (qmz.trans hz1.symm) h1c ?_); intro V9 hP9 q9; have hb8 : Below w9.heap.size w9 V9 := q9.below w9.heap.size w9 (by have := hN9.out; omega) hk9; replace hB3 := hB3.next hb8; replace hB5 := hB5.next hb8; replace hR := hR.next hb8; replace hB8 := hB8.next hb8; replace hk := btz hk hb8; clear hN9 hP9a hk9 q9 hb8)
     | ((with_reducible refine qaz rfl _ _ _ rfl P11 rfl C2 rfl zC hP11a (qfz hz3) (qmz.trans hz3.symm) h3c ?_); intro V11 hP11 q11; have hb8 : Below w11.heap.size w11 V11 := q11.below w11.heap.size w11 (by have := hN11.out; omega) hk11; replace hB3 := hB3.next hb8; replace hB5 := hB5.next hb8; replace hR := hR.next hb8; replace hB8 := hB8.next hb8; replace hP9 := hP9.next hb8; replace hk := btz hk hb8; clear hN11 hP11a hk11 q11 hb8)
     | (with_reducible refine qbz (by kernel_rfl) _ _ rfl P9 _ rfl _ _ hP9 _ d1 isAgg3 ?_)
     | (with_reducible refine qez (by kernel_rfl) 43 _ rfl P9 rfl C1 hP9 _ underlying43 (by kernel_rfl) (qfz hz1) ?_)
     | (with_reducible refine qez (by kernel_rfl) 43 _ rfl B5 rfl Co hB5 _ underlying43 (by kernel_rfl) (qfz hzo) ?_)
     | (go_at_call 39; (with_reducible refine (hla _ hk).mono ?_); rintro e w12 ⟨aX, nX, cX, rfl, oX, hb9⟩; have hR9 := hR.next hb9)
     | ((with_reducible refine qaz rfl _ _ _ rfl R rfl _ rfl zW hR9 (hz2 _) (hs2 _) (h12 aX nX cX) ?_); intro W13 hR13 q13))
    refine bodyPost_ret (qPz results10 rfl rfl hR13 rfl) rfl ?_
    have hE : ER = LE := by rw [← hER.out]; unfold attE; rw [if_neg (by rw [hb1]; decide), if_neg (by rw [hkd.out]; decide), if_neg (by rw [hb2]; decide), hLE.out]
    have hY : YR = LX := by rw [← hYR.out]; unfold attX; rw [if_neg (by rw [hb1]; decide), if_neg (by rw [hkd.out]; decide), if_neg (by rw [hb2]; decide), hLX.out]
    rw [hE, hY]
    exact ⟨aX, nX, cX, rfl, (ObsN.store oX q13 hR.lt (fun b hb => by have := hD b hb; have := hRw.out; omega)).low hk.size, q13.below _ _ hRw.out (btz hk hb9)⟩
  ·have k2b : (kd == 2) = false := by simpa using k2
   generalize (fnd X o.id).isSome = b2 at hf2
   go_enter func10, ntmps10
   go_wp2_with (first
    | (with_reducible refine qdz rfl 25 _ rfl G rfl ?_; intro B3 W3 hN3 hB3 hk)
    | (with_reducible refine qdz rfl 43 _ rfl Co rfl ?_; intro B5 W5 hN5 hB5 hk5; replace hB3 := hB3.next hk5; replace hk := btz hk hk5)
    | ((with_reducible refine qcz rfl 25 rfl zW qNz ?_); intro R W6 hN6 hR hk6; have hRw : Hid (w.heap.size ≤ R) := (by have := hN6.out; have := hk.size; refine (?_ : w.heap.size ≤ R); omega); replace hB3 := hB3.next hk6; replace hB5 := hB5.next hk6; replace hk := btz hk hk6; clear hN3 hN5 hN6)
    | (with_reducible refine qez (by kernel_rfl) 25 _ rfl B3 rfl G hB3 _ underlying25 (by kernel_rfl) hzw ?_)
    | ((with_reducible refine qpz (by kernel_rfl) _ [(0, .tmp 13)] rfl G ?hf ?_); (case hf => exact hbt))
    | ((with_reducible refine qcz rfl 74 rfl #[.int .i64 0, .int .u64 0, .int .u64 0, .slice none 0 0] Tryz.zeroValue74 ?_); intro B8 W8 hN8 hR8 hk8)
    | ((with_reducible refine qaz rfl _ _ _ rfl B8 rfl G rfl _ hR8 hzv hz4 h14 ?_); intro V8 hB8 o8; have hb8 : Below W6.heap.size W6 V8 := o8.below W6.heap.size W6 (by have := hN8.out; omega) hk8; replace hB3 := hB3.next hb8; replace hB5 := hB5.next hb8; replace hR := hR.next hb8; replace hk := btz hk hb8; clear hN8 hR8 hk8 o8 hb8)
    | (with_reducible refine qez (by kernel_rfl) 74 _ rfl B8 rfl G hB8 _ underlying74 (by kernel_rfl) hzv ?_)
    | (with_reducible refine qbz (by kernel_rfl) _ _ rfl B5 _ rfl _ _ hB5 _ e0 isAgg22 ?_)
    | (go_at_call 37; have hx := hP9; (with_reducible refine (hf2 _ hk).mono ?_); rintro e w11 ⟨rfl, hb8⟩; replace hB3 := hB3.next hb8; replace hB5 := hB5.next hb8; replace hR := hR.next hb8; replace hB8 := hB8.next hb8; replace hP9 := hP9.next hb8; replace hk := btz hk hb8; clear hb8 hx)
    | (go_at_call 37; (with_reducible refine (hf1 _ hk).mono ?_); rintro e w9 ⟨rfl, hb8⟩; replace hB3 := hB3.next hb8; replace hB5 := hB5.next hb8; replace hR := hR.next hb8; replace hB8 := hB8.next hb8; replace hk := btz hk hb8; clear hb8)
    | ((with_reducible refine qcz rfl 43 rfl zC qqz ?_); have hx := hP9; intro P11 W11 hN11 hP11a hk11; clear hx)
    | ((with_reducible refine qcz rfl 43 rfl zC qqz ?_); intro P9 W9 hN9 hP9a hk9)
    | ((with_reducible refine qaz rfl _ _ _ rfl P9 rfl C1 rfl zC hP9a (qfz hz1) (qmz.trans hz1.symm) h1c ?_); intro V9 hP9 q9; have hb8 : Below w9.heap.size w9 V9 := q9.below w9.heap.size w9 (by have := hN9.out; omega) hk9; replace hB3 := hB3.next hb8; replace hB5 := hB5.next hb8; replace hR := hR.next hb8; replace hB8 := hB8.next hb8; replace hk := btz hk hb8; clear hN9 hP9a hk9 q9 hb8)
    | ((with_reducible refine qaz rfl _ _ _ rfl P11 rfl C2 rfl zC hP11a (qfz hz3) (qmz.trans hz3.symm) h3c ?_); intro V11 hP11 q11; have hb8 : Below w11.heap.size w11 V11 := q11.below w11.heap.size w11 (by have := hN11.out; omega) hk11; replace hB3 := hB3.next hb8; replace hB5 := hB5.next hb8; replace hR := hR.next hb8; replace hB8 := hB8.next hb8; replace hP9 := hP9.next hb8; replace hk := btz hk hb8; clear hN11 hP11a hk11 q11 hb8)
    | (with_reducible refine qbz (by kernel_rfl) _ _ rfl P9 _ rfl _ _ hP9 _ d1 isAgg3 ?_)
    | (go_at_call 38; (with_reducible refine (hrf _ hk).mono ?_); rintro e w12 ⟨aX, nX, cX, rfl, oX, hb9⟩; have hR9 := hR.next hb9)
    | ((with_reducible refine qaz rfl _ _ _ rfl R rfl _ rfl zW hR9 (hz2 _) (hs2 _) (h12 aX nX cX) ?_); intro W13 hR13 q13))
   refine bodyPost_ret (qPz results10 rfl rfl hR13 rfl) rfl ?_
   have hE : ER = 3 := by rw [← hER.out]; unfold attE; rw [if_neg (by rw [hb1]; decide), if_pos (by rw [hkd.out]; exact k2)]
   have hY : YR = X := by rw [← hYR.out]; unfold attX; rw [if_neg (by rw [hb1]; decide), if_pos (by rw [hkd.out]; exact k2)]
   rw [hE, hY]
   exact ⟨aX, nX, cX, rfl, (ObsN.store oX q13 hR.lt (fun b hb => by have := hD b hb; have := hRw.out; omega)).low hk.size, q13.below _ _ hRw.out (btz hk hb9)⟩
end
end Go.Proofs.YtklnneiblmakmaaGreat
