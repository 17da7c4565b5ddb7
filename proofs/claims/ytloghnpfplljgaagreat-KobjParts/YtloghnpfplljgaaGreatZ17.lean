/-
 PROVED HERE: plain facts on who holds what: the table of holdings against the containers that have a link, and the ways up . What is asked stands at each.
-/
import Derived.Test.YtloghnpfplljgaaGreatZ1
import Derived.Test.YtloghnpfplljgaaGreatZ9
import Derived.Test.YtloghnpfplljgaaGreatZ11
import Derived.Test.YtloghnpfplljgaaGreatZ13
import Derived.Test.YtloghnpfplljgaaGreatZ15
import Derived.Test.YtloghnpfplljgaaGreatZ16
namespace Go.Proofs.YtloghnpfplljgaaGreat
set_option maxRecDepth 100000
set_option maxHeartbeats 8000000
set_option linter.unusedVariables false
open Go.Proofs.Tryz
section
theorem kiz {X : List Ob} {i : Int} {x : Ob} (h : fnd X i = some x) : x.id = i ∧ x ∈ X :=
 ⟨by simpa using List.find?_some (show X.find? _ = some x from h), List.mem_of_find?_eq_some (show X.find? _ = some x from h)⟩
def upB (X : List Ob) (ro i : Int) : Bool := (decide (i = ro) && decide ((rabv X i).length = 0)) || (decide (0 < (rabv X i).length) && decide ((rabv X i).getLast?.getD 0 = ro))
end
section
open Go.RowKit Go.Shelf
attribute [local go_sem] Oper.semAt_some
def AtW (v W : World) : Prop := W = v
variable {B : Nat}
theorem AtW.blk {v W : World} {C : Array Value} {t : TypeId} (h : AtW v W) (k : Blk v B C t) : Blk W B C t := by
 unfold AtW at h
 rw [h]
 exact k
theorem AtW.cel {v W : World} {p : Addr} {x : Value} (h : AtW v W) (k : v.cell? p = some x) : W.cell? p = some x := by
 unfold AtW at h
 rw [h]
 exact k
variable {ao : Option Addr} {n cap : Nat}
theorem wIz {S : World → Prop} : Obl.holds prog S (.ln 40 3 (.slice ao n cap) (.int .i64 n)) := fun w hS => by
 go_simp
theorem bez (L : List Int) : L.getLast?.getD 0 = L.getD (L.length - 1) 0 := by
 rw [List.getLast?_eq_getElem?, List.getD_eq_getElem?_getD]
variable {X : List Ob} {w : World} {t ke ro : Int}
theorem rup_w {i : Int} (h : Obs w ao n cap X) (hn16 : n ≤ 4096) : Calls prog 77 #[.agg #[.int .i64 t, .int .u64 ke, .int .u64 ro, .slice ao n cap], .int .u64 i] w fun e w' => e = .returned (.bool (upB X ro i)) ∧ Below w.heap.size w w' := by
 have hmx : prog.follows .mixedOrders = true := by kernel_rfl
 have g2 : (#[.int .i64 t, .int .u64 ke, .int .u64 ro, .slice ao n cap] : Array Value)[2]? = some (.int .u64 ro) := rfl
 have hzw : (prog.info? 25).map (·.size) = some (#[.int .i64 t, .int .u64 ke, .int .u64 ro, .slice ao n cap] : Array Value).size := by kernel_rfl
 have hab := fun (W : World) (hk : Below w.heap.size w W) => rabove_w (t := t) (ke := ke) (ro := ro) (i := i) (qwz h hk) hn16
 have hlen : (rabv X i).length ≤ 4096 := by
  have hl : X.length = n := h.1
  unfold rabv
  split
  ·omega
  ·exact Nat.zero_le _
 have hU : Hid (upB X ro i = ((decide (i = ro) && decide ((rabv X i).length = 0)) || (decide (0 < (rabv X i).length) && decide ((rabv X i).getD ((rabv X i).length - 1) 0 = ro)))) := by
  show upB X ro i = _
  unfold upB
  rw [bez]
 rw [hU.out]
 generalize rabv X i = L at hab hlen
 obtain ⟨G, hG⟩ : ∃ G : Array Value, G = #[.int .i64 t, .int .u64 ke, .int .u64 ro, .slice ao n cap] := ⟨_, rfl⟩
 rw [← hG] at g2 hzw hab
 rw [← hG]
 clear hG
 go_enter func77, ntmps77
 go_wp2_with (first
  | (with_reducible refine qcz rfl 25 _ rfl G rfl ?_; intro B2 W2 hN2 hB2 hk)
  | (with_reducible refine qhz (by kernel_rfl) _ _ rfl B2 rfl G hB2 _ underlying25 (by kernel_rfl) hzw ?_)
  | (go_at_call 128; (with_reducible refine (hab _ hk).mono ?_); rintro e w1 ⟨v, rfl, hown, hb1⟩; replace hB2 := hB2.next hb1; replace hk := btz hk hb1; obtain ⟨al, cl, rfl, hct⟩ := kgz hown))
 clear hN2
 have hkd := (brz w1.heap.size w1).drew
 refine PgM.region_out (S := AtW w1.drew) hmx rfl (fun hS => ?_)
 replace hB2 := hB2.next hkd
 replace hk := btz hk hkd
 have hct2 := hct.laterK fun b hb => hkd.block b hb.2
 clear hct hown
 generalize w1.drew = W5 at hS hB2 hk hct2 ⊢
 clear hkd hb1
 by_cases q2 : L.length = 0
 ·replace q2 : Hid (L.length = 0) := q2
  have q2i : Hid ((L.length : Int) = 0) := by show _ = _; have := q2.out; omega
  have q2p : Hid (¬ (0 : Int) < (L.length : Int)) := by refine (?_ : ¬ (0 : Int) < (L.length : Int)); have := q2.out; omega
  by_cases q1 : i = ro
  ·replace q1 : Hid (i = ro) := q1
   refine qmz (by kernel_rfl) (fun _ _ _ _ _ h => h) hS [(0, none), (1, none), (2, some (.int .u64 ro)), (3, some (.bool true)), (4, none), (5, none), (6, some (.int .i64 L.length)), (7, some (.bool true)), (8, none), (9, none), (10, none), (11, none), (12, none), (13, none), (14, none), (15, none), (16, none), (17, none), (18, none), (19, none), (20, none), (21, none), (22, none), (23, none), (24, none), (25, none)] (l' := #[tt, tt, tt, tt, tt, tt, tt, tt, tt, tt, tt, tt, tt, tt, tt, tt, tt, tt, tt, tt, tt, tt, tt, tt, tt, tt]) (a' := { tmps := #[.agg G, .int .u64 i, .pointer (some ⟨B2, 0, none⟩), undef, .bool true, .slice al L.length cl, .agg G, .int .u64 i, .slice al L.length cl, .int .u64 i, .pointer (some ⟨B2, 2, none⟩), .int .u64 ro, .bool true, .bool true, .slice al L.length cl, .int .i64 L.length, .bool true, .bool true, .bool true, ud, ud, ud, ud, ud, ud, ud, ud, ud, ud, ud, ud, ud, undef, .bool true], defers := [] }) (obs := [.load 22 B2 2 (.int .u64 ro), .test .eql 22 (.tmp 9) (.tmp 11) (.int .u64 i) (.int .u64 ro) (.bool true), .ln 40 3 (.slice al L.length cl) (.int .i64 L.length), .test .eql 3 (.tmp 15) (.const (.int .i64 0)) (.int .i64 L.length) (.int .i64 0) (.bool true)]) (n := 0) (by kernel_rfl) (by kernel_rfl) ⟨qez (fun _ e => AtW.blk e hB2) g2 isAgg22, qJz (fun _ => qtz _ _ _ _ _ _) q1, wIz, qJz (fun _ => qtz _ _ _ _ _ _) q2i, trivial⟩ ?_
   refine wpAnyH_done (by kernel_rfl) ?_ _
   go_wp2
   go_ret
   exact ⟨by rw [List.eq_nil_of_length_eq_zero q2.out]; simp [q1.out], hk⟩
  ·replace q1 : Hid (¬ i = ro) := q1
   refine qmz (by kernel_rfl) (fun _ _ _ _ _ h => h) hS [(0, none), (1, none), (2, some (.int .u64 ro)), (3, some (.bool false)), (4, none), (5, none), (6, none), (7, none), (8, none), (9, none), (10, none), (11, some (.int .i64 L.length)), (12, some (.bool false)), (13, none), (14, none), (15, none), (16, none), (17, none), (18, none), (19, none), (20, none), (21, none), (22, none), (23, none), (24, none), (25, none)] (l' := #[tt, tt, tt, tt, tt, tt, tt, tt, tt, tt, tt, tt, tt, tt, tt, tt, tt, tt, tt, tt, tt, tt, tt, tt, tt, tt]) (a' := { tmps := #[.agg G, .int .u64 i, .pointer (some ⟨B2, 0, none⟩), undef, .bool false, .slice al L.length cl, .agg G, .int .u64 i, .slice al L.length cl, .int .u64 i, .pointer (some ⟨B2, 2, none⟩), .int .u64 ro, .bool false, .bool false, ud, ud, undef, .bool false, .bool false, .slice al L.length cl, .int .i64 L.length, .bool false, .bool false, ud, ud, ud, ud, ud, ud, ud, ud, undef, .bool false, .bool false], defers := [] }) (obs := [.load 22 B2 2 (.int .u64 ro), .test .eql 22 (.tmp 9) (.tmp 11) (.int .u64 i) (.int .u64 ro) (.bool false), .ln 40 3 (.slice al L.length cl) (.int .i64 L.length), .test .gtr 3 (.tmp 20) (.const (.int .i64 0)) (.int .i64 L.length) (.int .i64 0) (.bool false)]) (n := 0) (by kernel_rfl) (by kernel_rfl) ⟨qez (fun _ e => AtW.blk e hB2) g2 isAgg22, q2z (fun _ => qtz _ _ _ _ _ _) q1, wIz, q2z (fun _ => qLz _ _ _ _ _ _) q2p, trivial⟩ ?_
   refine wpAnyH_done (by kernel_rfl) ?_ _
   go_wp2
   go_ret
   exact ⟨by rw [List.eq_nil_of_length_eq_zero q2.out]; simp [q1.out], hk⟩
 ·replace q2 : Hid (¬ L.length = 0) := q2
  obtain ⟨m, hm⟩ : ∃ m, Hid (L.length = m + 1) := ⟨L.length - 1, by show _ = _; have := q2.out; omega⟩
  have hm2 : m < L.length := by have := hm.out; omega
  have hms : IntKind.i64.wrap ((L.length : Int) - 1) = (m : Int) := by rw [IntKind.wrap_i64]; have := hm.out; omega
  have q2i : Hid (¬ (L.length : Int) = 0) := by refine (?_ : ¬ (L.length : Int) = 0); have := q2.out; omega
  have q2p : Hid ((0 : Int) < (L.length : Int)) := by refine (?_ : (0 : Int) < (L.length : Int)); have := q2.out; omega
  obtain ⟨b, off, rfl, hbb, hc⟩ := vWz hct2 hm2
  have hlz : L.getD (L.length - 1) 0 = L.getD m 0 := by rw [hm.out]; rfl
  generalize L.getD m 0 = z at hc hlz
  have q2q : 0 < L.length := by omega
  by_cases q1 : i = ro
  ·replace q1 : Hid (i = ro) := q1
   by_cases q3 : z = ro
   ·replace q3 : Hid (z = ro) := q3
    refine qmz (by kernel_rfl) (fun _ _ _ _ _ h => h) hS [(0, none), (1, none), (2, some (.int .u64 ro)), (3, some (.bool true)), (4, none), (5, none), (6, some (.int .i64 L.length)), (7, some (.bool false)), (8, none), (9, none), (10, none), (11, some (.int .i64 L.length)), (12, some (.bool true)), (13, none), (14, none), (15, none), (16, some (.int .i64 L.length)), (17, some (.int .i64 m)), (18, some (.pointer (some ⟨b, off + m, none⟩))), (19, some (.int .u64 z)), (20, none), (21, some (.int .u64 ro)), (22, some (.bool true)), (23, none), (24, none), (25, none)] (l' := #[tt, tt, tt, tt, tt, tt, tt, tt, tt, tt, tt, tt, tt, tt, tt, tt, tt, tt, tt, tt, tt, tt, tt, tt, tt, tt]) (a' := { tmps := #[.agg G, .int .u64 i, .pointer (some ⟨B2, 0, none⟩), undef, .bool true, .slice (some ⟨b, off, none⟩) L.length cl, .agg G, .int .u64 i, .slice (some ⟨b, off, none⟩) L.length cl, .int .u64 i, .pointer (some ⟨B2, 2, none⟩), .int .u64 ro, .bool true, .bool true, .slice (some ⟨b, off, none⟩) L.length cl, .int .i64 L.length, .bool false, .bool false, .bool false, .slice (some ⟨b, off, none⟩) L.length cl, .int .i64 L.length, .bool true, .bool true, .slice (some ⟨b, off, none⟩) L.length cl, .slice (some ⟨b, off, none⟩) L.length cl, .int .i64 L.length, .int .i64 m, .pointer (some ⟨b, off + m, none⟩), .int .u64 z, .pointer (some ⟨B2, 2, none⟩), .int .u64 ro, .bool true, .bool true, .bool true], defers := [] }) (obs := [.load 22 B2 2 (.int .u64 ro), .test .eql 22 (.tmp 9) (.tmp 11) (.int .u64 i) (.int .u64 ro) (.bool true), .ln 40 3 (.slice (some ⟨b, off, none⟩) L.length cl) (.int .i64 L.length), .test .eql 3 (.tmp 15) (.const (.int .i64 0)) (.int .i64 L.length) (.int .i64 0) (.bool false), .ln 40 3 (.slice (some ⟨b, off, none⟩) L.length cl) (.int .i64 L.length), .test .gtr 3 (.tmp 20) (.const (.int .i64 0)) (.int .i64 L.length) (.int .i64 0) (.bool true), .ln 40 3 (.slice (some ⟨b, off, none⟩) L.length cl) (.int .i64 L.length), .test .sub 3 (.tmp 25) (.const (.int .i64 1)) (.int .i64 L.length) (.int .i64 1) (.int .i64 m), .ia 40 (.slice (some ⟨b, off, none⟩) L.length cl) (.int .i64 m) (.pointer (some ⟨b, off + m, none⟩)), .load 22 b (off + m) (.int .u64 z), .load 22 B2 2 (.int .u64 ro), .test .eql 22 (.tmp 28) (.tmp 30) (.int .u64 z) (.int .u64 ro) (.bool true)]) (n := 0) (by kernel_rfl) (by kernel_rfl) ⟨qez (fun _ e => AtW.blk e hB2) g2 isAgg22, qJz (fun _ => qtz _ _ _ _ _ _) q1, wIz, q2z (fun _ => qtz _ _ _ _ _ _) q2i, wIz, qJz (fun _ => qLz _ _ _ _ _ _) q2p, wIz, jjz hm hms, jwz hm2, x5z (fun _ e => AtW.cel e hc) isAgg22, qez (fun _ e => AtW.blk e hB2) g2 isAgg22, qJz (fun _ => qtz _ _ _ _ _ _) q3, trivial⟩ ?_
    refine wpAnyH_done (by kernel_rfl) ?_ _
    go_wp2
    go_ret
    exact ⟨by rw [hlz]; simp [q1.out, q2.out, q2q, q3.out], hk⟩
   ·replace q3 : Hid (¬ z = ro) := q3
    refine qmz (by kernel_rfl) (fun _ _ _ _ _ h => h) hS [(0, none), (1, none), (2, some (.int .u64 ro)), (3, some (.bool true)), (4, none), (5, none), (6, some (.int .i64 L.length)), (7, some (.bool false)), (8, none), (9, none), (10, none), (11, some (.int .i64 L.length)), (12, some (.bool true)), (13, none), (14, none), (15, none), (16, some (.int .i64 L.length)), (17, some (.int .i64 m)), (18, some (.pointer (some ⟨b, off + m, none⟩))), (19, some (.int .u64 z)), (20, none), (21, some (.int .u64 ro)), (22, some (.bool false)), (23, none), (24, none), (25, none)] (l' := #[tt, tt, tt, tt, tt, tt, tt, tt, tt, tt, tt, tt, tt, tt, tt, tt, tt, tt, tt, tt, tt, tt, tt, tt, tt, tt]) (a' := { tmps := #[.agg G, .int .u64 i, .pointer (some ⟨B2, 0, none⟩), undef, .bool false, .slice (some ⟨b, off, none⟩) L.length cl, .agg G, .int .u64 i, .slice (some ⟨b, off, none⟩) L.length cl, .int .u64 i, .pointer (some ⟨B2, 2, none⟩), .int .u64 ro, .bool true, .bool true, .slice (some ⟨b, off, none⟩) L.length cl, .int .i64 L.length, .bool false, .bool false, .bool false, .slice (some ⟨b, off, none⟩) L.length cl, .int .i64 L.length, .bool true, .bool true, .slice (some ⟨b, off, none⟩) L.length cl, .slice (some ⟨b, off, none⟩) L.length cl, .int .i64 L.length, .int .i64 m, .pointer (some ⟨b, off + m, none⟩), .int .u64 z, .pointer (some ⟨B2, 2, none⟩), .int .u64 ro, .bool false, .bool false, .bool false], defers := [] }) (obs := [.load 22 B2 2 (.int .u64 ro), .test .eql 22 (.tmp 9) (.tmp 11) (.int .u64 i) (.int .u64 ro) (.bool true), .ln 40 3 (.slice (some ⟨b, off, none⟩) L.length cl) (.int .i64 L.length), .test .eql 3 (.tmp 15) (.const (.int .i64 0)) (.int .i64 L.length) (.int .i64 0) (.bool false), .ln 40 3 (.slice (some ⟨b, off, none⟩) L.length cl) (.int .i64 L.length), .test .gtr 3 (.tmp 20) (.const (.int .i64 0)) (.int .i64 L.length) (.int .i64 0) (.bool true), .ln 40 3 (.slice (some ⟨b, off, none⟩) L.length cl) (.int .i64 L.length), .test .sub 3 (.tmp 25) (.const (.int .i64 1)) (.int .i64 L.length) (.int .i64 1) (.int .i64 m), .ia 40 (.slice (some ⟨b, off, none⟩) L.length cl) (.int .i64 m) (.pointer (some ⟨b, off + m, none⟩)), .load 22 b (off + m) (.int .u64 z), .load 22 B2 2 (.int .u64 ro), .test .eql 22 (.tmp 28) (.tmp 30) (.int .u64 z) (.int .u64 ro) (.bool false)]) (n := 0) (by kernel_rfl) (by kernel_rfl) ⟨qez (fun _ e => AtW.blk e hB2) g2 isAgg22, qJz (fun _ => qtz _ _ _ _ _ _) q1, wIz, q2z (fun _ => qtz _ _ _ _ _ _) q2i, wIz, qJz (fun _ => qLz _ _ _ _ _ _) q2p, wIz, jjz hm hms, jwz hm2, x5z (fun _ e => AtW.cel e hc) isAgg22, qez (fun _ e => AtW.blk e hB2) g2 isAgg22, q2z (fun _ => qtz _ _ _ _ _ _) q3, trivial⟩ ?_
    refine wpAnyH_done (by kernel_rfl) ?_ _
    go_wp2
    go_ret
    exact ⟨by rw [hlz]; simp [q1.out, q2.out, q2q, q3.out], hk⟩
  ·replace q1 : Hid (¬ i = ro) := q1
   by_cases q3 : z = ro
   ·replace q3 : Hid (z = ro) := q3
    refine qmz (by kernel_rfl) (fun _ _ _ _ _ h => h) hS [(0, none), (1, none), (2, some (.int .u64 ro)), (3, some (.bool false)), (4, none), (5, none), (6, none), (7, none), (8, none), (9, none), (10, none), (11, some (.int .i64 L.length)), (12, some (.bool true)), (13, none), (14, none), (15, none), (16, some (.int .i64 L.length)), (17, some (.int .i64 m)), (18, some (.pointer (some ⟨b, off + m, none⟩))), (19, some (.int .u64 z)), (20, none), (21, some (.int .u64 ro)), (22, some (.bool true)), (23, none), (24, none), (25, none)] (l' := #[tt, tt, tt, tt, tt, tt, tt, tt, tt, tt, tt, tt, tt, tt, tt, tt, tt, tt, tt, tt, tt, tt, tt, tt, tt, tt]) (a' := { tmps := #[.agg G, .int .u64 i, .pointer (some ⟨B2, 0, none⟩), undef, .bool true, .slice (some ⟨b, off, none⟩) L.length cl, .agg G, .int .u64 i, .slice (some ⟨b, off, none⟩) L.length cl, .int .u64 i, .pointer (some ⟨B2, 2, none⟩), .int .u64 ro, .bool false, .bool false, ud, ud, undef, .bool false, .bool false, .slice (some ⟨b, off, none⟩) L.length cl, .int .i64 L.length, .bool true, .bool true, .slice (some ⟨b, off, none⟩) L.length cl, .slice (some ⟨b, off, none⟩) L.length cl, .int .i64 L.length, .int .i64 m, .pointer (some ⟨b, off + m, none⟩), .int .u64 z, .pointer (some ⟨B2, 2, none⟩), .int .u64 ro, .bool true, .bool true, .bool true], defers := [] }) (obs := [.load 22 B2 2 (.int .u64 ro), .test .eql 22 (.tmp 9) (.tmp 11) (.int .u64 i) (.int .u64 ro) (.bool false), .ln 40 3 (.slice (some ⟨b, off, none⟩) L.length cl) (.int .i64 L.length), .test .gtr 3 (.tmp 20) (.const (.int .i64 0)) (.int .i64 L.length) (.int .i64 0) (.bool true), .ln 40 3 (.slice (some ⟨b, off, none⟩) L.length cl) (.int .i64 L.length), .test .sub 3 (.tmp 25) (.const (.int .i64 1)) (.int .i64 L.length) (.int .i64 1) (.int .i64 m), .ia 40 (.slice (some ⟨b, off, none⟩) L.length cl) (.int .i64 m) (.pointer (some ⟨b, off + m, none⟩)), .load 22 b (off + m) (.int .u64 z), .load 22 B2 2 (.int .u64 ro), .test .eql 22 (.tmp 28) (.tmp 30) (.int .u64 z) (.int .u64 ro) (.bool true)]) (n := 0) (by kernel_rfl) (by kernel_rfl) ⟨qez (fun _ e => AtW.blk e hB2) g2 isAgg22, q2z (fun _ => qtz _ _ _ _ _ _) q1, wIz, qJz (fun _ => qLz _ _ _ _ _ _) q2p, wIz, jjz hm hms, jwz hm2, x5z (fun _ e => AtW.cel e hc) isAgg22, qez (fun _ e => AtW.blk e hB2) g2 isAgg22, qJz (fun _ => qtz _ _ _ _ _ _) q3, trivial⟩ ?_
    refine wpAnyH_done (by kernel_rfl) ?_ _
    go_wp2
    go_ret
    exact ⟨by rw [hlz]; simp [q1.out, q2.out, q2q, q3.out], hk⟩
   ·replace q3 : Hid (¬ z = ro) := q3
    refine qmz (by kernel_rfl) (fun _ _ _ _ _ h => h) hS [(0, none), (1, none), (2, some (.int .u64 ro)), (3, some (.bool false)), (4, none), (5, none), (6, none), (7, none), (8, none), (9, none), (10, none), (11, some (.int .i64 L.length)), (12, some (.bool true)), (13, none), (14, none), (15, none), (16, some (.int .i64 L.length)), (17, some (.int .i64 m)), (18, some (.pointer (some ⟨b, off + m, none⟩))), (19, some (.int .u64 z)), (20, none), (21, some (.int .u64 ro)), (22, some (.bool false)), (23, none), (24, none), (25, none)] (l' := #[tt, tt, tt, tt, tt, tt, tt, tt, tt, tt, tt, tt, tt, tt, tt, tt, tt, tt, tt, tt, tt, tt, tt, tt, tt, tt]) (a' := { tmps := #[.agg G, .int .u64 i, .pointer (some ⟨B2, 0, none⟩), undef, .bool false, .slice (some ⟨b, off, none⟩) L.length cl, .agg G, .int .u64 i, .slice (some ⟨b, off, none⟩) L.length cl, .int .u64 i, .pointer (some ⟨B2, 2, none⟩), .int .u64 ro, .bool false, .bool false, ud, ud, undef, .bool false, .bool false, .slice (some ⟨b, off, none⟩) L.length cl, .int .i64 L.length, .bool true, .bool true, .slice (some ⟨b, off, none⟩) L.length cl, .slice (some ⟨b, off, none⟩) L.length cl, .int .i64 L.length, .int .i64 m, .pointer (some ⟨b, off + m, none⟩), .int .u64 z, .pointer (some ⟨B2, 2, none⟩), .int .u64 ro, .bool false, .bool false, .bool false], defers := [] }) (obs := [.load 22 B2 2 (.int .u64 ro), .test .eql 22 (.tmp 9) (.tmp 11) (.int .u64 i) (.int .u64 ro) (.bool false), .ln 40 3 (.slice (some ⟨b, off, none⟩) L.length cl) (.int .i64 L.length), .test .gtr 3 (.tmp 20) (.const (.int .i64 0)) (.int .i64 L.length) (.int .i64 0) (.bool true), .ln 40 3 (.slice (some ⟨b, off, none⟩) L.length cl) (.int .i64 L.length), .test .sub 3 (.tmp 25) (.const (.int .i64 1)) (.int .i64 L.length) (.int .i64 1) (.int .i64 m), .ia 40 (.slice (some ⟨b, off, none⟩) L.length cl) (.int .i64 m) (.pointer (some ⟨b, off + m, none⟩)), .load 22 b (off + m) (.int .u64 z), .load 22 B2 2 (.int .u64 ro), .test .eql 22 (.tmp 28) (.tmp 30) (.int .u64 z) (.int .u64 ro) (.bool false)]) (n := 0) (by kernel_rfl) (by kernel_rfl) ⟨qez (fun _ e => AtW.blk e hB2) g2 isAgg22, q2z (fun _ => qtz _ _ _ _ _ _) q1, wIz, qJz (fun _ => qLz _ _ _ _ _ _) q2p, wIz, jjz hm hms, jwz hm2, x5z (fun _ e => AtW.cel e hc) isAgg22, qez (fun _ e => AtW.blk e hB2) g2 isAgg22, q2z (fun _ => qtz _ _ _ _ _ _) q3, trivial⟩ ?_
    refine wpAnyH_done (by kernel_rfl) ?_ _
    go_wp2
    go_ret
    exact ⟨by rw [hlz]; simp [q1.out, q2.out, q2q, q3.out], hk⟩
def roomV (X : List Ob) (d : Ob) : Int := d.quota - (pagO d + (d.links.map (qOf X)).sum)
def layE (X : List Ob) (d o : Ob) : Int := if plcB d.label o.label = false then 2 else if 64 ≤ d.links.length then 6 else if roomV X d < o.quota ∨ (o.kind = 2 ∧ 0 < o.links.length) then 5 else 0
def layX (X : List Ob) (d o : Ob) : List Ob := if layE X d o = 0 then puR (puR X o) { d with links := insW d.links o.id } else X
theorem vjz {S : World → Prop} {G : Array Value} (hB : ∀ W, S W → Blk W B G 180) (hV : G.extract 0 (0 + 4) = G) (hG : 0 + 4 ≤ G.size) : Obl.holds prog S (.load 25 B 0 (.agg G)) :=
 qIz 4 hB hV hG underlying25 (by kernel_rfl) q0z
theorem kKz {d : Ob} (h : Small d) {L : List Int} (hL : L.length < 4294967296) : Small { d with links := L } :=
 ⟨h.c2, hL, h.c6, h.c7, h.c25, h.c36, h.c39, h.c40, h.c41, h.c42, h.c43, h.c44, h.c49, h.c50⟩
theorem uIz {x : Ob} (h : q3z X) (hx : Small x) : q3z (puR X x) := uHz h hx
variable {Cf : Nat → Array Value} {D0 : Nat → Prop}
theorem tlaid_v {Cd Co : Array Value} {d o : Ob} (hD : ∀ b, D0 b → b < w.heap.size) (h : ObsF (LtN w) D0 w ao n cap X Cf) (hs : Srt X) (hn16 : n < 1022) (hsm : q3z X) (hid : fnd X 0 = none) (hq : ∀ x ∈ X, 0 ≤ x.quota ∧ x.quota ≤ 4096)
  (hd : ObD D0 w Cd d) (hds : Small d) (hdq : 0 ≤ d.quota ∧ d.quota ≤ 4096) (hdl : d.label.length < 1048576) (hdr : d.links.Pairwise (· < ·)) (hdn : d.links.length ≤ 4000) (ho : ObD D0 w Co o) (hos : Small o) (hol : o.label.length < 1048576) :
  Calls prog 157 #[.agg #[.int .i64 t, .int .u64 ke, .int .u64 ro, .slice ao n cap], .agg Cd, .agg Co] w fun e w' => ∃ ao2 n2 cap2, e = .returned (.tuple #[.agg #[.int .i64 t, .int .u64 ke, .int .u64 ro, .slice ao2 n2 cap2], .int .i64 (layE X d o)]) ∧ ObsN w D0 w' ao2 n2 cap2 (layX X d o) ∧ Below w.heap.size w w' := by
 have hmx : prog.follows .mixedOrders = true := by kernel_rfl
 have hn : Hid (X.length = n) := h.1
 have hO : ObsD (LtN w) D0 w ao n cap X := h.obs
 have hF : ObsF (LtN w) (LtN w) w ao n cap X Cf := h.wide hD (fun _ hb => hb)
 have hdL : ObD (LtN w) w Cd d := hd.wide hD
 have hoL : ObD (LtN w) w Co o := ho.wide hD
 have hzv : (prog.info? 180).map (·.size) = some (#[.int .i64 t, .int .u64 ke, .int .u64 ro, .slice ao n cap] : Array Value).size := by kernel_rfl
 have hV : (#[.int .i64 t, .int .u64 ke, .int .u64 ro, .slice ao n cap] : Array Value).extract 0 (0 + 4) = #[.int .i64 t, .int .u64 ke, .int .u64 ro, .slice ao n cap] := rfl
 have hG4 : 0 + 4 ≤ (#[.int .i64 t, .int .u64 ke, .int .u64 ro, .slice ao n cap] : Array Value).size := lrz _
 have hz2 : ∀ v, (prog.info? 25).map (·.size) = some (#[.int .i64 t, .int .u64 ke, .int .u64 ro, v] : Array Value).size := fun _ => q0z
 have hs2 : ∀ v, zW.size = (#[.int .i64 t, .int .u64 ke, .int .u64 ro, v] : Array Value).size := fun _ => rfl
 have h12 : ∀ ao n cap, (#[.int .i64 t, .int .u64 ke, .int .u64 ro, .slice ao n cap] : Array Value).all (·.oneCell') = true := fun _ _ _ => by kernel_rfl
 have hrf := fun {er : Int} (W : World) (hk : Below w.heap.size w W) => vzz (t := t) (ke := ke) (ro := ro) (er := er) (D0 := D0) (fun b hb => ltz (hD b hb) hk.size) (wtz hO hD hk) hs (by omega) hsm hid
 have hrm := fun (W : World) (hk : Below w.heap.size w W) => room_v (t := t) (ke := ke) (ro := ro) (hF.next hk) hs (by omega) hq (hdL.next hk) hds hdq
 have hpu := fun {W : World} {D1 : Nat → Prop} (hD1 : ∀ b, D1 b → b < W.heap.size) (h01 : ∀ b, D0 b → D1 b) (hk : Below w.heap.size w W) => put_w (t := t) (ke := ke) (ro := ro) (D0 := D1) hD1 ((wtz hO hD hk).wide h01 (fun _ hb => hb)) hs (by omega) hsm ((ho.laterK fun b hb => hk.block b (hD b hb)).wide h01) hos
 have hpv := fun {W : World} {D1 : Nat → Prop} {a2 : Option Addr} {n2 c2 : Nat} {C2 : Array Value} {d2 : Ob} (hD1 : ∀ b, D1 b → b < W.heap.size) (h2 : ObsD (LtN W) D1 W a2 n2 c2 (puR X o)) (hx : ObD D1 W C2 d2) (hxs : Small d2) => put_w (t := t) (ke := ke) (ro := ro) (D0 := D1) hD1 h2 (x2z hs o) (by have := yqz X o; have := h2.1; have := hn.out; omega) (uIz hsm hos) hx hxs
 change ∀ (W : World), Below w.heap.size w W → Calls prog _ _ W fun e w' => e = .returned (.int .i64 (roomV X d)) ∧ _ at hrm
 obtain ⟨ER, hER⟩ : ∃ ER, Hid (layE X d o = ER) := ⟨_, rfl⟩
 obtain ⟨YR, hYR⟩ : ∃ YR, Hid (layX X d o = YR) := ⟨_, rfl⟩
 rw [hER.out, hYR.out]
 obtain ⟨al, nl, cl, c5, hLk⟩ := hd.links
 obtain ⟨aD, nD, cD, c2, hLD⟩ := hdL.label
 obtain ⟨aO, nO, cO, e2, hLO⟩ := hoL.label
 obtain ⟨ak, nk, ck, e5, hLo⟩ := hoL.links
 have hln : Hid (d.links.length = nl) := hLk.1
 have hlo : Hid (o.links.length = nk) := hLo.1
 have hzd := hd.size
 have hzo := ho.size
 have e0 := ho.id
 have e1 := ho.kind
 have e3 := ho.quota
 have hpl := fun (W : World) (hk : Below w.heap.size w W) => CkM.place_any (Lab.next hLD hk) (Lab.next hLO hk) (by rw [← hLD.1]; exact hdl) (by rw [← hLO.1]; exact hol)
 change ∀ (W : World), Below w.heap.size w W → Calls prog _ _ W fun e w' => e = .returned (.bool (plcB d.label o.label)) ∧ _ at hpl
 have hli := fun (W : World) (hk : Below w.heap.size w W) => linked_v (i := o.id) ((hLk.laterK fun b hb => hk.block b (hD b hb)).wide fun b hb => ltz (hD b hb) hk.size) hdr (by rw [← hln.out]; omega)
 obtain ⟨bp, hbp⟩ : ∃ bp, Hid (plcB d.label o.label = bp) := ⟨_, rfl⟩
 simp only [hbp.out] at hpl
 obtain ⟨rm, hrme⟩ : ∃ rm, Hid (roomV X d = rm) := ⟨_, rfl⟩
 simp only [hrme.out] at hrm
 obtain ⟨G, hG⟩ : ∃ G : Array Value, G = #[.int .i64 t, .int .u64 ke, .int .u64 ro, .slice ao n cap] := ⟨_, rfl⟩
 simp only [← hG] at hrf hrm hpu
 rw [← hG] at hzv hV hG4
 rw [← hG]
 clear hG
 cases bp with
 | false =>
  go_enter func157, ntmps157
  go_wp2_with (first
   | (with_reducible refine qcz rfl 180 _ rfl G rfl ?_; intro B3 W3 hN3 hB3 hk)
   | (with_reducible refine qcz rfl 55 (.tmp 1) rfl Cd rfl ?_; intro B4 W4 hN4 hB4 hk4; replace hB3 := hB3.next hk4; replace hk := btz hk hk4)
   | (with_reducible refine qcz rfl 55 (.tmp 2) rfl Co rfl ?_; intro B5 W5 hN5 hB5 hk5; replace hB3 := hB3.next hk5; replace hB4 := hB4.next hk5; replace hk := btz hk hk5)
   | ((with_reducible refine qdz rfl _ rfl zW wyz ?_); intro R W6 hN6 hR hk6; replace hB3 := hB3.next hk6; replace hB4 := hB4.next hk6; replace hB5 := hB5.next hk6; replace hk := btz hk hk6; have hsz : Hid (B3 < W6.heap.size ∧ B4 < W6.heap.size ∧ w.heap.size ≤ B4 ∧ w.heap.size ≤ R ∧ R < W6.heap.size) := (by have := hN3.out; have := hN4.out; have := hN5.out; have := hN6.out; refine (⟨?_, ?_, ?_, ?_, ?_⟩ : _ ∧ _ ∧ _ ∧ _ ∧ _) <;> omega); have hnR : Hid (B3 ≠ R ∧ B4 ≠ R ∧ B5 ≠ R) := (by have := hN3.out; have := hN4.out; have := hN5.out; have := hN6.out; refine (⟨?_, ?_, ?_⟩ : _ ∧ _ ∧ _) <;> omega); have hne : Hid (B4 ≠ R ∧ B4 ≠ B5 ∧ B4 ≠ B3) := (by have := hN3.out; have := hN4.out; have := hN5.out; have := hN6.out; refine (⟨?_, ?_, ?_⟩ : _ ∧ _ ∧ _) <;> omega); have hkz := brz W6.heap.size W6; have hkw0 := hk; clear hN3 hN4 hN5 hN6 hk4 hk5 hk6)
   | (with_reducible refine qaz (by kernel_rfl) _ _ rfl B4 _ rfl _ _ hB4 _ c2 isAgg39 ?_)
   | (with_reducible refine qaz (by kernel_rfl) _ _ rfl B5 _ rfl _ _ hB5 _ e2 isAgg39 ?_)
   | (go_at_call 197; (with_reducible refine (hpl _ hk).mono ?_); rintro e w7 ⟨rfl, hb7⟩; replace hB3 := hB3.next hb7; replace hB4 := hB4.next hb7; replace hB5 := hB5.next hb7; replace hR := hR.next hb7; replace hkz := btz hkz hb7; replace hk := btz hk hb7; clear hb7)
   | (with_reducible refine qhz (by kernel_rfl) 180 _ rfl B3 rfl G hB3 _ underlying180 (by kernel_rfl) hzv ?_)
   | (go_at_call 154; (with_reducible refine (hrf _ hk).mono ?_); rintro e w9 ⟨aX, nX, cX, rfl, oX, hb9⟩; have hR9 := hR.next hb9)
   | ((with_reducible refine qbz rfl _ _ _ rfl R rfl _ rfl zW hR9 (hz2 _) (hs2 _) (h12 aX nX cX) ?_); intro W9 hR10 q9))
  refine bodyPost_ret (xcz results157 rfl rfl hR10 rfl) rfl ?_
  have hE : ER = 2 := by rw [← hER.out]; unfold layE; rw [if_pos hbp.out]
  have hY : YR = X := by rw [← hYR.out]; unfold layX; rw [hER.out, hE]; rfl
  rw [hE, hY]
  exact ⟨aX, nX, cX, rfl, (ObsN.store oX q9 (ltz hsz.out.2.2.2.2 hkz.size) (fun b hb => by have := hD b hb; have := hsz.out.2.2.2.1; omega)).low hk.size, q9.below _ _ hsz.out.2.2.2.1 (btz hk hb9)⟩
 | true =>
  by_cases h64 : 64 ≤ nl
  ·have h64i : (64 : Int) ≤ nl := by omega
   go_enter func157, ntmps157
   go_wp2_with (first
    | (with_reducible refine qcz rfl 180 _ rfl G rfl ?_; intro B3 W3 hN3 hB3 hk)
    | (with_reducible refine qcz rfl 55 (.tmp 1) rfl Cd rfl ?_; intro B4 W4 hN4 hB4 hk4; replace hB3 := hB3.next hk4; replace hk := btz hk hk4)
    | (with_reducible refine qcz rfl 55 (.tmp 2) rfl Co rfl ?_; intro B5 W5 hN5 hB5 hk5; replace hB3 := hB3.next hk5; replace hB4 := hB4.next hk5; replace hk := btz hk hk5)
    | ((with_reducible refine qdz rfl _ rfl zW wyz ?_); intro R W6 hN6 hR hk6; replace hB3 := hB3.next hk6; replace hB4 := hB4.next hk6; replace hB5 := hB5.next hk6; replace hk := btz hk hk6; have hsz : Hid (B3 < W6.heap.size ∧ B4 < W6.heap.size ∧ w.heap.size ≤ B4 ∧ w.heap.size ≤ R ∧ R < W6.heap.size) := (by have := hN3.out; have := hN4.out; have := hN5.out; have := hN6.out; refine (⟨?_, ?_, ?_, ?_, ?_⟩ : _ ∧ _ ∧ _ ∧ _ ∧ _) <;> omega); have hnR : Hid (B3 ≠ R ∧ B4 ≠ R ∧ B5 ≠ R) := (by have := hN3.out; have := hN4.out; have := hN5.out; have := hN6.out; refine (⟨?_, ?_, ?_⟩ : _ ∧ _ ∧ _) <;> omega); have hne : Hid (B4 ≠ R ∧ B4 ≠ B5 ∧ B4 ≠ B3) := (by have := hN3.out; have := hN4.out; have := hN5.out; have := hN6.out; refine (⟨?_, ?_, ?_⟩ : _ ∧ _ ∧ _) <;> omega); have hkz := brz W6.heap.size W6; have hkw0 := hk; clear hN3 hN4 hN5 hN6 hk4 hk5 hk6)
    | (with_reducible refine qaz (by kernel_rfl) _ _ rfl B4 _ rfl _ _ hB4 _ c2 isAgg39 ?_)
    | (with_reducible refine qaz (by kernel_rfl) _ _ rfl B5 _ rfl _ _ hB5 _ e2 isAgg39 ?_)
    | (go_at_call 197; (with_reducible refine (hpl _ hk).mono ?_); rintro e w7 ⟨rfl, hb7⟩; replace hB3 := hB3.next hb7; replace hB4 := hB4.next hb7; replace hB5 := hB5.next hb7; replace hR := hR.next hb7; replace hkz := btz hkz hb7; replace hk := btz hk hb7; clear hb7)
    | (with_reducible refine qaz (by kernel_rfl) _ _ rfl B4 _ rfl _ _ hB4 _ c5 isAgg40 ?_)
    | (with_reducible refine qhz (by kernel_rfl) 180 _ rfl B3 rfl G hB3 _ underlying180 (by kernel_rfl) hzv ?_)
    | (go_at_call 154; (with_reducible refine (hrf _ hk).mono ?_); rintro e w9 ⟨aX, nX, cX, rfl, oX, hb9⟩; have hR9 := hR.next hb9)
    | ((with_reducible refine qbz rfl _ _ _ rfl R rfl _ rfl zW hR9 (hz2 _) (hs2 _) (h12 aX nX cX) ?_); intro W9 hR10 q9))
   refine bodyPost_ret (xcz results157 rfl rfl hR10 rfl) rfl ?_
   have hE : ER = 6 := by rw [← hER.out]; unfold layE; rw [if_neg (by rw [hbp.out]; decide), if_pos (by rw [hln.out]; exact h64)]
   have hY : YR = X := by rw [← hYR.out]; unfold layX; rw [hER.out, hE]; rfl
   rw [hE, hY]
   exact ⟨aX, nX, cX, rfl, (ObsN.store oX q9 (ltz hsz.out.2.2.2.2 hkz.size) (fun b hb => by have := hD b hb; have := hsz.out.2.2.2.1; omega)).low hk.size, q9.below _ _ hsz.out.2.2.2.1 (btz hk hb9)⟩
  ·have h64i : ¬ (64 : Int) ≤ nl := by omega
   go_enter func157, ntmps157
   go_wp2_with (first
    | (with_reducible refine qcz rfl 180 _ rfl G rfl ?_; intro B3 W3 hN3 hB3 hk)
    | (with_reducible refine qcz rfl 55 (.tmp 1) rfl Cd rfl ?_; intro B4 W4 hN4 hB4 hk4; replace hB3 := hB3.next hk4; replace hk := btz hk hk4)
    | (with_reducible refine qcz rfl 55 (.tmp 2) rfl Co rfl ?_; intro B5 W5 hN5 hB5 hk5; replace hB3 := hB3.next hk5; replace hB4 := hB4.next hk5; replace hk := btz hk hk5)
    | ((with_reducible refine qdz rfl _ rfl zW wyz ?_); intro R W6 hN6 hR hk6; replace hB3 := hB3.next hk6; replace hB4 := hB4.next hk6; replace hB5 := hB5.next hk6; replace hk := btz hk hk6; have hsz : Hid (B3 < W6.heap.size ∧ B4 < W6.heap.size ∧ w.heap.size ≤ B4 ∧ w.heap.size ≤ R ∧ R < W6.heap.size) := (by have := hN3.out; have := hN4.out; have := hN5.out; have := hN6.out; refine (⟨?_, ?_, ?_, ?_, ?_⟩ : _ ∧ _ ∧ _ ∧ _ ∧ _) <;> omega); have hnR : Hid (B3 ≠ R ∧ B4 ≠ R ∧ B5 ≠ R) := (by have := hN3.out; have := hN4.out; have := hN5.out; have := hN6.out; refine (⟨?_, ?_, ?_⟩ : _ ∧ _ ∧ _) <;> omega); have hne : Hid (B4 ≠ R ∧ B4 ≠ B5 ∧ B4 ≠ B3) := (by have := hN3.out; have := hN4.out; have := hN5.out; have := hN6.out; refine (⟨?_, ?_, ?_⟩ : _ ∧ _ ∧ _) <;> omega); have hkz := brz W6.heap.size W6; have hkw0 := hk; clear hN3 hN4 hN5 hN6 hk4 hk5 hk6)
    | (with_reducible refine qaz (by kernel_rfl) _ _ rfl B4 _ rfl _ _ hB4 _ c2 isAgg39 ?_)
    | (with_reducible refine qaz (by kernel_rfl) _ _ rfl B5 _ rfl _ _ hB5 _ e2 isAgg39 ?_)
    | (go_at_call 197; (with_reducible refine (hpl _ hk).mono ?_); rintro e w7 ⟨rfl, hb7⟩; replace hB3 := hB3.next hb7; replace hB4 := hB4.next hb7; replace hB5 := hB5.next hb7; replace hR := hR.next hb7; replace hkz := btz hkz hb7; replace hk := btz hk hb7; clear hb7)
    | (with_reducible refine qaz (by kernel_rfl) _ _ rfl B4 _ rfl _ _ hB4 _ c5 isAgg40 ?_))
   refine PgM.region_out (S := fun W => Below w7.heap.size w7 W) hmx ((brz _ _).drew) (fun hS => ?_)
   generalize w7.drew = v7 at hS ⊢
   refine qGz (by kernel_rfl) (fun _ _ _ _ _ h => h) hS [(0, none), (1, some (.int .i64 o.quota)), (2, some (.agg G)), (3, some (.agg Cd))] (obs := [.load 3 B5 3 (.int .i64 o.quota), .load 180 B3 0 (.agg G), .load 55 B4 0 (.agg Cd)]) (n := 14) (by kernel_rfl) (by kernel_rfl) ⟨qez (fun _ h => hB5.next h) e3 isAgg3, qBz (fun _ h => hB3.next h) underlying180 (by kernel_rfl) hzv, qBz (fun _ h => hB4.next h) underlying55 (by kernel_rfl) (qfz hzd), trivial⟩ ?_
   refine qrz (i := 4) (fuel := 13) (f := 159) (vs := [.agg G, .agg Cd]) (d := some 33) (by kernel_rfl) (by kernel_rfl) (by kernel_rfl) call159 (hrm _ (btz hk hS)) ?_
   rintro e v8 ⟨rfl, hb8⟩
   have hS8 : Below w7.heap.size w7 v8 := btz hS hb8
   refine ⟨_, rfl, hS8, ?_⟩
   by_cases q1 : rm < o.quota
   ·replace q1 : Hid (rm < o.quota) := q1
    refine qmz (by kernel_rfl) (fun _ _ _ _ _ h => h) hS8 [(5, some (.bool true)), (6, none), (7, none), (8, none), (9, none), (10, none), (11, none), (12, none), (13, none), (14, none), (15, none), (16, none), (17, none)] (l' := #[tt, tt, tt, tt, tt, tt, tt, tt, tt, tt, tt, tt, tt, tt, tt, tt, tt, tt]) (a' := { tmps := #[.agg G, .agg Cd, .agg Co, .pointer (some ⟨B3, 0, none⟩), .pointer (some ⟨B4, 0, none⟩), .pointer (some ⟨B5, 0, none⟩), .pointer (some ⟨R, 0, none⟩), .int .i64 0, .bool false, .pointer (some ⟨B4, 2, none⟩), .slice aD nD cD, .pointer (some ⟨B5, 2, none⟩), .slice aO nO cO, .bool true, .bool false, ud, ud, ud, undef, .bool (decide ((64 : Int) ≤ (nl : Int))), .pointer (some ⟨B4, 5, none⟩), .slice al nl cl, .int .i64 nl, .bool (decide ((64 : Int) ≤ (nl : Int))), ud, ud, ud, undef, .bool true, .pointer (some ⟨B5, 3, none⟩), .int .i64 o.quota, .agg G, .agg Cd, .int .i64 rm, .bool true, .bool true, ud, ud, ud, ud, ud, ud, ud, ud, undef, .bool true, ud, ud, ud, ud, ud, ud, ud, ud, ud, ud, ud, ud, ud, ud, ud, undef], defers := [] }) (obs := [.test .gtr 3 (.tmp 30) (.tmp 33) (.int .i64 o.quota) (.int .i64 rm) (.bool true)]) (n := 0) (by kernel_rfl) (by kernel_rfl) ⟨qJz (fun _ => qLz _ _ _ _ _ _) q1, trivial⟩ ?_
    refine wpAnyH_done (by kernel_rfl) ?_ _
    replace hB3 := hB3.next hS8
    replace hB4 := hB4.next hS8
    replace hB5 := hB5.next hS8
    replace hR := hR.next hS8
    replace hkz := btz hkz hS8
    replace hk := btz hk hS8
    clear hS8 hS hb8
    go_wp2_with (first
     | (with_reducible refine qhz (by kernel_rfl) 180 _ rfl B3 rfl G hB3 _ underlying180 (by kernel_rfl) hzv ?_)
     | (go_at_call 154; (with_reducible refine (hrf _ hk).mono ?_); rintro e w9 ⟨aX, nX, cX, rfl, oX, hb9⟩; have hR9 := hR.next hb9)
     | ((with_reducible refine qbz rfl _ _ _ rfl R rfl _ rfl zW hR9 (hz2 _) (hs2 _) (h12 aX nX cX) ?_); intro W9 hR10 q9))
    refine bodyPost_ret (xcz results157 rfl rfl hR10 rfl) rfl ?_
    have hE : ER = 5 := by rw [← hER.out]; unfold layE; rw [if_neg (by rw [hbp.out]; decide), if_neg (by rw [hln.out]; exact h64), if_pos (by rw [hrme.out]; exact .inl q1.out)]
    have hY : YR = X := by rw [← hYR.out]; unfold layX; rw [hER.out, hE]; rfl
    rw [hE, hY]
    exact ⟨aX, nX, cX, rfl, (ObsN.store oX q9 (ltz hsz.out.2.2.2.2 hkz.size) (fun b hb => by have := hD b hb; have := hsz.out.2.2.2.1; omega)).low hk.size, q9.below _ _ hsz.out.2.2.2.1 (btz hk hb9)⟩
   ·replace q1 : Hid (¬ rm < o.quota) := q1
    by_cases q2 : o.kind = 2
    ·replace q2 : Hid (o.kind = 2) := q2
     by_cases q3 : (0 : Int) < (nk : Int)
     ·replace q3 : Hid ((0 : Int) < (nk : Int)) := q3
      refine qmz (by kernel_rfl) (fun _ _ _ _ _ h => h) hS8 [(5, some (.bool false)), (6, none), (7, none), (8, some (.int .i64 o.kind)), (9, some (.bool true)), (10, none), (11, none), (12, some (.slice ak nk ck)), (13, some (.int .i64 nk)), (14, some (.bool true)), (15, none), (16, none), (17, none)] (l' := #[tt, tt, tt, tt, tt, tt, tt, tt, tt, tt, tt, tt, tt, tt, tt, tt, tt, tt]) (a' := { tmps := #[.agg G, .agg Cd, .agg Co, .pointer (some ⟨B3, 0, none⟩), .pointer (some ⟨B4, 0, none⟩), .pointer (some ⟨B5, 0, none⟩), .pointer (some ⟨R, 0, none⟩), .int .i64 0, .bool false, .pointer (some ⟨B4, 2, none⟩), .slice aD nD cD, .pointer (some ⟨B5, 2, none⟩), .slice aO nO cO, .bool true, .bool false, ud, ud, ud, undef, .bool (decide ((64 : Int) ≤ (nl : Int))), .pointer (some ⟨B4, 5, none⟩), .slice al nl cl, .int .i64 nl, .bool (decide ((64 : Int) ≤ (nl : Int))), ud, ud, ud, undef, .bool true, .pointer (some ⟨B5, 3, none⟩), .int .i64 o.quota, .agg G, .agg Cd, .int .i64 rm, .bool false, .bool false, .pointer (some ⟨B5, 1, none⟩), .int .i64 o.kind, .bool true, .bool true, .pointer (some ⟨B5, 5, none⟩), .slice ak nk ck, .int .i64 nk, .bool true, .bool true, .bool true, ud, ud, ud, ud, ud, ud, ud, ud, ud, ud, ud, ud, ud, ud, ud, undef], defers := [] }) (obs := [.test .gtr 3 (.tmp 30) (.tmp 33) (.int .i64 o.quota) (.int .i64 rm) (.bool false), .load 3 B5 1 (.int .i64 o.kind), .test .eql 3 (.tmp 37) (.const (.int .i64 2)) (.int .i64 o.kind) (.int .i64 2) (.bool true), .load 40 B5 5 (.slice ak nk ck), .ln 40 3 (.slice ak nk ck) (.int .i64 nk), .test .gtr 3 (.tmp 42) (.const (.int .i64 0)) (.int .i64 nk) (.int .i64 0) (.bool true)]) (n := 0) (by kernel_rfl) (by kernel_rfl) ⟨q2z (fun _ => qLz _ _ _ _ _ _) q1, qez (fun _ h => hB5.next h) e1 isAgg3, qJz (fun _ => qtz _ _ _ _ _ _) q2, qez (fun _ h => hB5.next h) e5 isAgg40, wIz, qJz (fun _ => qLz _ _ _ _ _ _) q3, trivial⟩ ?_
      refine wpAnyH_done (by kernel_rfl) ?_ _
      replace hB3 := hB3.next hS8
      replace hB4 := hB4.next hS8
      replace hB5 := hB5.next hS8
      replace hR := hR.next hS8
      replace hkz := btz hkz hS8
      replace hk := btz hk hS8
      clear hS8 hS hb8
      go_wp2_with (first
       | (with_reducible refine qhz (by kernel_rfl) 180 _ rfl B3 rfl G hB3 _ underlying180 (by kernel_rfl) hzv ?_)
       | (go_at_call 154; (with_reducible refine (hrf _ hk).mono ?_); rintro e w9 ⟨aX, nX, cX, rfl, oX, hb9⟩; have hR9 := hR.next hb9)
       | ((with_reducible refine qbz rfl _ _ _ rfl R rfl _ rfl zW hR9 (hz2 _) (hs2 _) (h12 aX nX cX) ?_); intro W9 hR10 q9))
      refine bodyPost_ret (xcz results157 rfl rfl hR10 rfl) rfl ?_
      have hE : ER = 5 := by rw [← hER.out]; unfold layE; rw [if_neg (by rw [hbp.out]; decide), if_neg (by rw [hln.out]; exact h64), if_pos (by exact .inr ⟨q2.out, by rw [hlo.out]; have := q3.out; omega⟩)]
      have hY : YR = X := by rw [← hYR.out]; unfold layX; rw [hER.out, hE]; rfl
      rw [hE, hY]
      exact ⟨aX, nX, cX, rfl, (ObsN.store oX q9 (ltz hsz.out.2.2.2.2 hkz.size) (fun b hb => by have := hD b hb; have := hsz.out.2.2.2.1; omega)).low hk.size, q9.below _ _ hsz.out.2.2.2.1 (btz hk hb9)⟩
     ·replace q3 : Hid (¬ (0 : Int) < (nk : Int)) := q3
      refine qmz (by kernel_rfl) (fun _ _ _ _ _ h => h) hS8 [(5, some (.bool false)), (6, none), (7, none), (8, some (.int .i64 o.kind)), (9, some (.bool true)), (10, none), (11, none), (12, some (.slice ak nk ck)), (13, some (.int .i64 nk)), (14, some (.bool false)), (15, none), (16, none), (17, none)] (l' := #[tt, tt, tt, tt, tt, tt, tt, tt, tt, tt, tt, tt, tt, tt, tt, tt, tt, tt]) (a' := { tmps := #[.agg G, .agg Cd, .agg Co, .pointer (some ⟨B3, 0, none⟩), .pointer (some ⟨B4, 0, none⟩), .pointer (some ⟨B5, 0, none⟩), .pointer (some ⟨R, 0, none⟩), .int .i64 0, .bool false, .pointer (some ⟨B4, 2, none⟩), .slice aD nD cD, .pointer (some ⟨B5, 2, none⟩), .slice aO nO cO, .bool true, .bool false, ud, ud, ud, undef, .bool (decide ((64 : Int) ≤ (nl : Int))), .pointer (some ⟨B4, 5, none⟩), .slice al nl cl, .int .i64 nl, .bool (decide ((64 : Int) ≤ (nl : Int))), ud, ud, ud, undef, .bool false, .pointer (some ⟨B5, 3, none⟩), .int .i64 o.quota, .agg G, .agg Cd, .int .i64 rm, .bool false, .bool false, .pointer (some ⟨B5, 1, none⟩), .int .i64 o.kind, .bool true, .bool true, .pointer (some ⟨B5, 5, none⟩), .slice ak nk ck, .int .i64 nk, .bool false, .bool false, .bool false, ud, ud, ud, ud, ud, ud, ud, ud, ud, ud, ud, ud, ud, ud, ud, undef], defers := [] }) (obs := [.test .gtr 3 (.tmp 30) (.tmp 33) (.int .i64 o.quota) (.int .i64 rm) (.bool false), .load 3 B5 1 (.int .i64 o.kind), .test .eql 3 (.tmp 37) (.const (.int .i64 2)) (.int .i64 o.kind) (.int .i64 2) (.bool true), .load 40 B5 5 (.slice ak nk ck), .ln 40 3 (.slice ak nk ck) (.int .i64 nk), .test .gtr 3 (.tmp 42) (.const (.int .i64 0)) (.int .i64 nk) (.int .i64 0) (.bool false)]) (n := 0) (by kernel_rfl) (by kernel_rfl) ⟨q2z (fun _ => qLz _ _ _ _ _ _) q1, qez (fun _ h => hB5.next h) e1 isAgg3, qJz (fun _ => qtz _ _ _ _ _ _) q2, qez (fun _ h => hB5.next h) e5 isAgg40, wIz, q2z (fun _ => qLz _ _ _ _ _ _) q3, trivial⟩ ?_
      refine wpAnyH_done (by kernel_rfl) ?_ _
      replace hB3 := hB3.next hS8
      replace hB4 := hB4.next hS8
      replace hB5 := hB5.next hS8
      replace hR := hR.next hS8
      replace hkz := btz hkz hS8
      replace hk := btz hk hS8
      clear hS8 hS hb8
      go_wp2_with (first
       | (with_reducible refine qaz (by kernel_rfl) _ _ rfl B4 _ rfl _ _ hB4 _ c5 isAgg40 ?_)
       | (with_reducible refine qaz (by kernel_rfl) _ _ rfl B5 _ rfl _ _ hB5 _ e0 isAgg22 ?_)
       | (go_at_call 198; (with_reducible refine (hli _ hk).mono ?_); rintro e w9 ⟨V, rfl, hown, hb9⟩; have hkV := hkz; replace hB3 := hB3.next hb9; replace hB4 := hB4.next hb9; replace hB5 := hB5.next hb9; replace hR := hR.next hb9; replace hkz := btz hkz hb9; replace hk := btz hk hb9; obtain ⟨aV, cV, rfl, hct⟩ := kgz hown)
       | ((with_reducible refine qiz rfl _ _ _ rfl B4 5 rfl (.slice aV (insW d.links o.id).length cV) rfl rfl Cd _ hB4 wDz (by rw [hzd]; omega) rfl ?_); intro W9 hB4n q9; replace hB3 := hB3.other q9 (Ne.symm hne.out.2.2); replace hB5 := hB5.other q9 (Ne.symm hne.out.2.1); replace hR := hR.other q9 (Ne.symm hne.out.1)))
      have hk9 : Below w.heap.size w W9 := q9.below _ _ hsz.out.2.2.1 hk
      have hkz9 : W6.heap.size ≤ W9.heap.size := by rw [q9.size]; exact hkz.size
      have hct9 : CtD (fun b => D0 b ∨ New W6 W9 b) W9 aV (insW d.links o.id).length cV (insW d.links o.id) := (hct.laterK fun b hb => q9.block b (by have := hb.1; have := hkV.size; have := hsz.out.2.1; omega)).wide fun b hb => .inr ⟨Nat.le_trans hkV.size hb.1, by rw [q9.size]; exact hb.2⟩
      have hd9 : ObD (fun b => D0 b ∨ New W6 W9 b) W9 (Cd.setIfInBounds 5 (.slice aV (insW d.links o.id).length cV)) { d with links := insW d.links o.id } := ((hd.laterK fun b hb => hk9.block b (hD b hb)).wide fun b hb => .inl hb).set5 ⟨aV, _, cV, rfl, hct9⟩ rfl
      have hzn : (Cd.setIfInBounds 5 (.slice aV (insW d.links o.id).length cV)).size = 51 := hd9.size
      have hln2 : (insW d.links o.id).length = nl + 1 := by rw [← hln.out]; unfold insW; have := bZz d.links o.id; simp; omega
      have hds2 : Small { d with links := insW d.links o.id } := kKz hds (by rw [hln2]; omega)
      obtain ⟨Cn, hCn⟩ : ∃ Cn, Hid (Cd.setIfInBounds 5 (.slice aV (insW d.links o.id).length cV) = Cn) := ⟨_, rfl⟩
      rw [hCn.out] at hd9 hzn hB4n
      generalize (insW d.links o.id).length = nn at *
      have hS : Below W9.heap.size W9 W9.drew := (brz _ _).drew
      refine PgM.region_out (S := fun W => Blk W B3 G 180 ∧ Blk W B4 Cn 55 ∧ Blk W B5 Co 55) hmx ⟨hB3.next hS, hB4n.next hS, hB5.next hS⟩ (fun hT => ?_)
      generalize W9.drew = v9 at hS hT ⊢
      refine qmz (by kernel_rfl) (fun _ _ _ _ _ h => h) hT [(0, none), (1, some (.agg G)), (2, some (.agg Co)), (4, some (.agg Cn))] (l' := #[tt, tt, tt, ff, tt, ff, ff, ff]) (a' := { tmps := #[.agg G, .agg Cd, .agg Co, .pointer (some ⟨B3, 0, none⟩), .pointer (some ⟨B4, 0, none⟩), .pointer (some ⟨B5, 0, none⟩), .pointer (some ⟨R, 0, none⟩), .int .i64 0, .bool false, .pointer (some ⟨B4, 2, none⟩), .slice aD nD cD, .pointer (some ⟨B5, 2, none⟩), .slice aO nO cO, .bool true, .bool false, ud, ud, ud, undef, .bool (decide ((64 : Int) ≤ (nl : Int))), .pointer (some ⟨B4, 5, none⟩), .slice al nl cl, .int .i64 nl, .bool (decide ((64 : Int) ≤ (nl : Int))), ud, ud, ud, undef, .bool false, .pointer (some ⟨B5, 3, none⟩), .int .i64 o.quota, .agg G, .agg Cd, .int .i64 rm, .bool false, .bool false, .pointer (some ⟨B5, 1, none⟩), .int .i64 o.kind, .bool true, .bool true, .pointer (some ⟨B5, 5, none⟩), .slice ak nk ck, .int .i64 nk, .bool false, .bool false, .bool false, ud, ud, ud, undef, .pointer (some ⟨B4, 5, none⟩), .slice al nl cl, .pointer (some ⟨B5, 0, none⟩), .int .u64 o.id, .slice aV nn cV, .pointer (some ⟨B4, 5, none⟩), .pointer (some ⟨B3, 0, none⟩), .agg G, .agg Co, undef, .agg Cn, undef], defers := [] }) (obs := [.load 25 B3 0 (.agg G), .load 55 B5 0 (.agg Co), .load 55 B4 0 (.agg Cn)]) (n := 4) (by kernel_rfl) (by kernel_rfl) ⟨vjz (fun _ h => h.1) hV hG4, qBz (fun _ h => h.2.2) underlying55 (by kernel_rfl) (qfz hzo), qBz (fun _ h => h.2.1) underlying55 (by kernel_rfl) (qfz hzn), trivial⟩ ?_
      have hDv : ∀ b, (D0 b ∨ New W6 W9 b) → b < v9.heap.size := fun b hb => by rcases hb with c | c; exact ltz (hD b c) (Nat.le_trans hk9.size hS.size); exact ltz c.2 hS.size
      refine qrz (i := 3) (fuel := 3) (f := 142) (vs := [.agg G, .agg Co]) (d := some 59) (by kernel_rfl) (by kernel_rfl) (by kernel_rfl) call142 (hpu (D1 := fun b => D0 b ∨ New W6 W9 b) hDv (fun _ hb => .inl hb) (btz hk9 hS)) ?_
      rintro e vX ⟨aX, nX, cX, rfl, oX, hbX⟩
      have hSX : Below W9.heap.size W9 vX := btz hS hbX
      have hTX : Blk vX B3 G 180 ∧ Blk vX B4 Cn 55 ∧ Blk vX B5 Co 55 := ⟨hB3.next hSX, hB4n.next hSX, hB5.next hSX⟩
      refine ⟨_, rfl, hTX, ?_⟩
      have oX2 : ObsD (LtN vX) (fun b => D0 b ∨ New W6 vX b) vX aX nX cX (puR X o) := ObsD.wide oX (fun b hb => by rcases hb with (c | c) | c; exact .inl c; exact .inr ⟨c.1, ltz c.2 hSX.size⟩; exact .inr ⟨Nat.le_trans hkz9 (Nat.le_trans hS.size c.1), c.2⟩) (fun b hb => hb.2)
      have hdX : ObD (fun b => D0 b ∨ New W6 vX b) vX Cn { d with links := insW d.links o.id } := (hd9.laterK fun b hb => hSX.block b (by rcases hb with c | c; exact ltz (hD b c) hk9.size; exact c.2)).wide fun b hb => hb.imp id fun c => ⟨c.1, ltz c.2 hSX.size⟩
      have hDX : ∀ b, (D0 b ∨ New W6 vX b) → b < vX.heap.size := fun b hb => by rcases hb with c | c; exact ltz (hD b c) (Nat.le_trans hk9.size hSX.size); exact c.2
      refine qrz (i := 5) (fuel := 2) (f := 142) (vs := [.agg #[.int .i64 t, .int .u64 ke, .int .u64 ro, .slice aX nX cX], .agg Cn]) (d := some 61) (by kernel_rfl) (by kernel_rfl) (by kernel_rfl) call142 (hpv hDX oX2 hdX hds2) ?_
      rintro e vY ⟨aY, nY, cY, rfl, oY, hbY⟩
      have hSY : Below W9.heap.size W9 vY := btz hSX hbY
      have hTY : Blk vY B3 G 180 ∧ Blk vY B4 Cn 55 ∧ Blk vY B5 Co 55 := ⟨hB3.next hSY, hB4n.next hSY, hB5.next hSY⟩
      refine ⟨_, rfl, hTY, ?_⟩
      have oY2 : ObsN W6 D0 vY aY nY cY (puR (puR X o) { d with links := insW d.links o.id }) := ObsD.wide oY (fun b hb => by rcases hb with (c | c) | c; exact .inl c; exact .inr ⟨c.1, ltz c.2 hbY.size⟩; exact .inr ⟨Nat.le_trans hkz9 (Nat.le_trans hSX.size c.1), c.2⟩) (fun b hb => ⟨Nat.le_trans hkz9 (Nat.le_trans hSX.size hb.1), hb.2⟩)
      obtain ⟨wZ, hst, hRz, qZ⟩ := qPz (hR.next hSY) (hz2 (.slice aY nY cY)) (hs2 _) (h12 aY nY cY)
      refine qkz (i := 6) (n := 1) rfl (by kernel_rfl) ?_
      refine qQz (ty := 25) (B := R) (off := 0) (v := .agg #[.int .i64 t, .int .u64 ke, .int .u64 ro, .slice aY nY cY]) (d := none) (by kernel_rfl) hst ?_
      have hSZ : Below w.heap.size w wZ := qZ.below _ _ hsz.out.2.2.2.1 (btz hk9 hSY)
      have hRR : Oth R vY wZ := qZ
      have hTZ : Blk wZ B3 G 180 ∧ Blk wZ B4 Cn 55 ∧ Blk wZ B5 Co 55 := ⟨hTY.1.other qZ hnR.out.1, hTY.2.1.other qZ hnR.out.2.1, hTY.2.2.other qZ hnR.out.2.2⟩
      refine ⟨hTZ, ?_⟩
      refine qmz (by kernel_rfl) (fun _ _ _ _ _ h => h) hTZ [(7, none)] (l' := #[tt, tt, tt, tt, tt, tt, tt, tt]) (a' := { tmps := #[.agg G, .agg Cd, .agg Co, .pointer (some ⟨B3, 0, none⟩), .pointer (some ⟨B4, 0, none⟩), .pointer (some ⟨B5, 0, none⟩), .pointer (some ⟨R, 0, none⟩), .int .i64 0, .bool false, .pointer (some ⟨B4, 2, none⟩), .slice aD nD cD, .pointer (some ⟨B5, 2, none⟩), .slice aO nO cO, .bool true, .bool false, ud, ud, ud, undef, .bool (decide ((64 : Int) ≤ (nl : Int))), .pointer (some ⟨B4, 5, none⟩), .slice al nl cl, .int .i64 nl, .bool (decide ((64 : Int) ≤ (nl : Int))), ud, ud, ud, undef, .bool false, .pointer (some ⟨B5, 3, none⟩), .int .i64 o.quota, .agg G, .agg Cd, .int .i64 rm, .bool false, .bool false, .pointer (some ⟨B5, 1, none⟩), .int .i64 o.kind, .bool true, .bool true, .pointer (some ⟨B5, 5, none⟩), .slice ak nk ck, .int .i64 nk, .bool false, .bool false, .bool false, ud, ud, ud, undef, .pointer (some ⟨B4, 5, none⟩), .slice al nl cl, .pointer (some ⟨B5, 0, none⟩), .int .u64 o.id, .slice aV nn cV, .pointer (some ⟨B4, 5, none⟩), .pointer (some ⟨B3, 0, none⟩), .agg G, .agg Co, .agg #[.int .i64 t, .int .u64 ke, .int .u64 ro, .slice aX nX cX], .agg Cn, .agg #[.int .i64 t, .int .u64 ke, .int .u64 ro, .slice aY nY cY]], defers := [] }) (obs := []) (n := 0) (by kernel_rfl) (by kernel_rfl) trivial ?_
      refine wpAnyH_done (by kernel_rfl) ?_ _
      go_wp2
      refine bodyPost_ret (xcz results157 rfl rfl hRz rfl) rfl ?_
      have hE : ER = 0 := by rw [← hER.out]; unfold layE; rw [if_neg (by rw [hbp.out]; decide), if_neg (by rw [hln.out]; exact h64), if_neg (by rw [hrme.out, hlo.out]; have := q1.out; have := q3.out; omega)]
      have hY : YR = puR (puR X o) { d with links := insW d.links o.id } := by rw [← hYR.out]; unfold layX; rw [hER.out, hE]; rfl
      rw [hE, hY]
      exact ⟨aY, nY, cY, rfl, (ObsN.store oY2 qZ hsz.out.2.2.2.2 (fun b hb => by have := hD b hb; have := hsz.out.2.2.2.1; omega)).low hkw0.size, hSZ⟩
    ·replace q2 : Hid (¬ o.kind = 2) := q2
     refine qmz (by kernel_rfl) (fun _ _ _ _ _ h => h) hS8 [(5, some (.bool false)), (6, none), (7, none), (8, some (.int .i64 o.kind)), (9, some (.bool false)), (10, none), (11, none), (12, none), (13, none), (14, none), (15, none), (16, none), (17, none)] (l' := #[tt, tt, tt, tt, tt, tt, tt, tt, tt, tt, tt, tt, tt, tt, tt, tt, tt, tt]) (a' := { tmps := #[.agg G, .agg Cd, .agg Co, .pointer (some ⟨B3, 0, none⟩), .pointer (some ⟨B4, 0, none⟩), .pointer (some ⟨B5, 0, none⟩), .pointer (some ⟨R, 0, none⟩), .int .i64 0, .bool false, .pointer (some ⟨B4, 2, none⟩), .slice aD nD cD, .pointer (some ⟨B5, 2, none⟩), .slice aO nO cO, .bool true, .bool false, ud, ud, ud, undef, .bool (decide ((64 : Int) ≤ (nl : Int))), .pointer (some ⟨B4, 5, none⟩), .slice al nl cl, .int .i64 nl, .bool (decide ((64 : Int) ≤ (nl : Int))), ud, ud, ud, undef, .bool false, .pointer (some ⟨B5, 3, none⟩), .int .i64 o.quota, .agg G, .agg Cd, .int .i64 rm, .bool false, .bool false, .pointer (some ⟨B5, 1, none⟩), .int .i64 o.kind, .bool false, .bool false, ud, ud, ud, undef, .bool false, .bool false, ud, ud, ud, ud, ud, ud, ud, ud, ud, ud, ud, ud, ud, ud, ud, undef], defers := [] }) (obs := [.test .gtr 3 (.tmp 30) (.tmp 33) (.int .i64 o.quota) (.int .i64 rm) (.bool false), .load 3 B5 1 (.int .i64 o.kind), .test .eql 3 (.tmp 37) (.const (.int .i64 2)) (.int .i64 o.kind) (.int .i64 2) (.bool false)]) (n := 0) (by kernel_rfl) (by kernel_rfl) ⟨q2z (fun _ => qLz _ _ _ _ _ _) q1, qez (fun _ h => hB5.next h) e1 isAgg3, q2z (fun _ => qtz _ _ _ _ _ _) q2, trivial⟩ ?_
     refine wpAnyH_done (by kernel_rfl) ?_ _
     replace hB3 := hB3.next hS8
     replace hB4 := hB4.next hS8
     replace hB5 := hB5.next hS8
     replace hR := hR.next hS8
     replace hkz := btz hkz hS8
     replace hk := btz hk hS8
     clear hS8 hS hb8
     go_wp2_with (first
      | (with_reducible refine qaz (by kernel_rfl) _ _ rfl B4 _ rfl _ _ hB4 _ c5 isAgg40 ?_)
      | (with_reducible refine qaz (by kernel_rfl) _ _ rfl B5 _ rfl _ _ hB5 _ e0 isAgg22 ?_)
      | (go_at_call 198; (with_reducible refine (hli _ hk).mono ?_); rintro e w9 ⟨V, rfl, hown, hb9⟩; have hkV := hkz; replace hB3 := hB3.next hb9; replace hB4 := hB4.next hb9; replace hB5 := hB5.next hb9; replace hR := hR.next hb9; replace hkz := btz hkz hb9; replace hk := btz hk hb9; obtain ⟨aV, cV, rfl, hct⟩ := kgz hown)
      | ((with_reducible refine qiz rfl _ _ _ rfl B4 5 rfl (.slice aV (insW d.links o.id).length cV) rfl rfl Cd _ hB4 wDz (by rw [hzd]; omega) rfl ?_); intro W9 hB4n q9; replace hB3 := hB3.other q9 (Ne.symm hne.out.2.2); replace hB5 := hB5.other q9 (Ne.symm hne.out.2.1); replace hR := hR.other q9 (Ne.symm hne.out.1)))
     have hk9 : Below w.heap.size w W9 := q9.below _ _ hsz.out.2.2.1 hk
     have hkz9 : W6.heap.size ≤ W9.heap.size := by rw [q9.size]; exact hkz.size
     have hct9 : CtD (fun b => D0 b ∨ New W6 W9 b) W9 aV (insW d.links o.id).length cV (insW d.links o.id) := (hct.laterK fun b hb => q9.block b (by have := hb.1; have := hkV.size; have := hsz.out.2.1; omega)).wide fun b hb => .inr ⟨Nat.le_trans hkV.size hb.1, by rw [q9.size]; exact hb.2⟩
     have hd9 : ObD (fun b => D0 b ∨ New W6 W9 b) W9 (Cd.setIfInBounds 5 (.slice aV (insW d.links o.id).length cV)) { d with links := insW d.links o.id } := ((hd.laterK fun b hb => hk9.block b (hD b hb)).wide fun b hb => .inl hb).set5 ⟨aV, _, cV, rfl, hct9⟩ rfl
     have hzn : (Cd.setIfInBounds 5 (.slice aV (insW d.links o.id).length cV)).size = 51 := hd9.size
     have hln2 : (insW d.links o.id).length = nl + 1 := by rw [← hln.out]; unfold insW; have := bZz d.links o.id; simp; omega
     have hds2 : Small { d with links := insW d.links o.id } := kKz hds (by rw [hln2]; omega)
     obtain ⟨Cn, hCn⟩ : ∃ Cn, Hid (Cd.setIfInBounds 5 (.slice aV (insW d.links o.id).length cV) = Cn) := ⟨_, rfl⟩
     rw [hCn.out] at hd9 hzn hB4n
     generalize (insW d.links o.id).length = nn at *
     have hS : Below W9.heap.size W9 W9.drew := (brz _ _).drew
     refine PgM.region_out (S := fun W => Blk W B3 G 180 ∧ Blk W B4 Cn 55 ∧ Blk W B5 Co 55) hmx ⟨hB3.next hS, hB4n.next hS, hB5.next hS⟩ (fun hT => ?_)
     generalize W9.drew = v9 at hS hT ⊢
     refine qmz (by kernel_rfl) (fun _ _ _ _ _ h => h) hT [(0, none), (1, some (.agg G)), (2, some (.agg Co)), (4, some (.agg Cn))] (l' := #[tt, tt, tt, ff, tt, ff, ff, ff]) (a' := { tmps := #[.agg G, .agg Cd, .agg Co, .pointer (some ⟨B3, 0, none⟩), .pointer (some ⟨B4, 0, none⟩), .pointer (some ⟨B5, 0, none⟩), .pointer (some ⟨R, 0, none⟩), .int .i64 0, .bool false, .pointer (some ⟨B4, 2, none⟩), .slice aD nD cD, .pointer (some ⟨B5, 2, none⟩), .slice aO nO cO, .bool true, .bool false, ud, ud, ud, undef, .bool (decide ((64 : Int) ≤ (nl : Int))), .pointer (some ⟨B4, 5, none⟩), .slice al nl cl, .int .i64 nl, .bool (decide ((64 : Int) ≤ (nl : Int))), ud, ud, ud, undef, .bool false, .pointer (some ⟨B5, 3, none⟩), .int .i64 o.quota, .agg G, .agg Cd, .int .i64 rm, .bool false, .bool false, .pointer (some ⟨B5, 1, none⟩), .int .i64 o.kind, .bool false, .bool false, ud, ud, ud, undef, .bool false, .bool false, ud, ud, ud, undef, .pointer (some ⟨B4, 5, none⟩), .slice al nl cl, .pointer (some ⟨B5, 0, none⟩), .int .u64 o.id, .slice aV nn cV, .pointer (some ⟨B4, 5, none⟩), .pointer (some ⟨B3, 0, none⟩), .agg G, .agg Co, undef, .agg Cn, undef], defers := [] }) (obs := [.load 25 B3 0 (.agg G), .load 55 B5 0 (.agg Co), .load 55 B4 0 (.agg Cn)]) (n := 4) (by kernel_rfl) (by kernel_rfl) ⟨vjz (fun _ h => h.1) hV hG4, qBz (fun _ h => h.2.2) underlying55 (by kernel_rfl) (qfz hzo), qBz (fun _ h => h.2.1) underlying55 (by kernel_rfl) (qfz hzn), trivial⟩ ?_
     have hDv : ∀ b, (D0 b ∨ New W6 W9 b) → b < v9.heap.size := fun b hb => by rcases hb with c | c; exact ltz (hD b c) (Nat.le_trans hk9.size hS.size); exact ltz c.2 hS.size
     refine qrz (i := 3) (fuel := 3) (f := 142) (vs := [.agg G, .agg Co]) (d := some 59) (by kernel_rfl) (by kernel_rfl) (by kernel_rfl) call142 (hpu (D1 := fun b => D0 b ∨ New W6 W9 b) hDv (fun _ hb => .inl hb) (btz hk9 hS)) ?_
     rintro e vX ⟨aX, nX, cX, rfl, oX, hbX⟩
     have hSX : Below W9.heap.size W9 vX := btz hS hbX
     have hTX : Blk vX B3 G 180 ∧ Blk vX B4 Cn 55 ∧ Blk vX B5 Co 55 := ⟨hB3.next hSX, hB4n.next hSX, hB5.next hSX⟩
     refine ⟨_, rfl, hTX, ?_⟩
     have oX2 : ObsD (LtN vX) (fun b => D0 b ∨ New W6 vX b) vX aX nX cX (puR X o) := ObsD.wide oX (fun b hb => by rcases hb with (c | c) | c; exact .inl c; exact .inr ⟨c.1, ltz c.2 hSX.size⟩; exact .inr ⟨Nat.le_trans hkz9 (Nat.le_trans hS.size c.1), c.2⟩) (fun b hb => hb.2)
     have hdX : ObD (fun b => D0 b ∨ New W6 vX b) vX Cn { d with links := insW d.links o.id } := (hd9.laterK fun b hb => hSX.block b (by rcases hb with c | c; exact ltz (hD b c) hk9.size; exact c.2)).wide fun b hb => hb.imp id fun c => ⟨c.1, ltz c.2 hSX.size⟩
     have hDX : ∀ b, (D0 b ∨ New W6 vX b) → b < vX.heap.size := fun b hb => by rcases hb with c | c; exact ltz (hD b c) (Nat.le_trans hk9.size hSX.size); exact c.2
     refine qrz (i := 5) (fuel := 2) (f := 142) (vs := [.agg #[.int .i64 t, .int .u64 ke, .int .u64 ro, .slice aX nX cX], .agg Cn]) (d := some 61) (by kernel_rfl) (by kernel_rfl) (by kernel_rfl) call142 (hpv hDX oX2 hdX hds2) ?_
     rintro e vY ⟨aY, nY, cY, rfl, oY, hbY⟩
     have hSY : Below W9.heap.size W9 vY := btz hSX hbY
     have hTY : Blk vY B3 G 180 ∧ Blk vY B4 Cn 55 ∧ Blk vY B5 Co 55 := ⟨hB3.next hSY, hB4n.next hSY, hB5.next hSY⟩
     refine ⟨_, rfl, hTY, ?_⟩
     have oY2 : ObsN W6 D0 vY aY nY cY (puR (puR X o) { d with links := insW d.links o.id }) := ObsD.wide oY (fun b hb => by rcases hb with (c | c) | c; exact .inl c; exact .inr ⟨c.1, ltz c.2 hbY.size⟩; exact .inr ⟨Nat.le_trans hkz9 (Nat.le_trans hSX.size c.1), c.2⟩) (fun b hb => ⟨Nat.le_trans hkz9 (Nat.le_trans hSX.size hb.1), hb.2⟩)
     obtain ⟨wZ, hst, hRz, qZ⟩ := qPz (hR.next hSY) (hz2 (.slice aY nY cY)) (hs2 _) (h12 aY nY cY)
     refine qkz (i := 6) (n := 1) rfl (by kernel_rfl) ?_
     refine qQz (ty := 25) (B := R) (off := 0) (v := .agg #[.int .i64 t, .int .u64 ke, .int .u64 ro, .slice aY nY cY]) (d := none) (by kernel_rfl) hst ?_
     have hSZ : Below w.heap.size w wZ := qZ.below _ _ hsz.out.2.2.2.1 (btz hk9 hSY)
     have hRR : Oth R vY wZ := qZ
     have hTZ : Blk wZ B3 G 180 ∧ Blk wZ B4 Cn 55 ∧ Blk wZ B5 Co 55 := ⟨hTY.1.other qZ hnR.out.1, hTY.2.1.other qZ hnR.out.2.1, hTY.2.2.other qZ hnR.out.2.2⟩
     refine ⟨hTZ, ?_⟩
     refine qmz (by kernel_rfl) (fun _ _ _ _ _ h => h) hTZ [(7, none)] (l' := #[tt, tt, tt, tt, tt, tt, tt, tt]) (a' := { tmps := #[.agg G, .agg Cd, .agg Co, .pointer (some ⟨B3, 0, none⟩), .pointer (some ⟨B4, 0, none⟩), .pointer (some ⟨B5, 0, none⟩), .pointer (some ⟨R, 0, none⟩), .int .i64 0, .bool false, .pointer (some ⟨B4, 2, none⟩), .slice aD nD cD, .pointer (some ⟨B5, 2, none⟩), .slice aO nO cO, .bool true, .bool false, ud, ud, ud, undef, .bool (decide ((64 : Int) ≤ (nl : Int))), .pointer (some ⟨B4, 5, none⟩), .slice al nl cl, .int .i64 nl, .bool (decide ((64 : Int) ≤ (nl : Int))), ud, ud, ud, undef, .bool false, .pointer (some ⟨B5, 3, none⟩), .int .i64 o.quota, .agg G, .agg Cd, .int .i64 rm, .bool false, .bool false, .pointer (some ⟨B5, 1, none⟩), .int .i64 o.kind, .bool false, .bool false, ud, ud, ud, undef, .bool false, .bool false, ud, ud, ud, undef, .pointer (some ⟨B4, 5, none⟩), .slice al nl cl, .pointer (some ⟨B5, 0, none⟩), .int .u64 o.id, .slice aV nn cV, .pointer (some ⟨B4, 5, none⟩), .pointer (some ⟨B3, 0, none⟩), .agg G, .agg Co, .agg #[.int .i64 t, .int .u64 ke, .int .u64 ro, .slice aX nX cX], .agg Cn, .agg #[.int .i64 t, .int .u64 ke, .int .u64 ro, .slice aY nY cY]], defers := [] }) (obs := []) (n := 0) (by kernel_rfl) (by kernel_rfl) trivial ?_
     refine wpAnyH_done (by kernel_rfl) ?_ _
     go_wp2
     refine bodyPost_ret (xcz results157 rfl rfl hRz rfl) rfl ?_
     have hE : ER = 0 := by rw [← hER.out]; unfold layE; rw [if_neg (by rw [hbp.out]; decide), if_neg (by rw [hln.out]; exact h64), if_neg (by rw [hrme.out]; have := q1.out; have := q2.out; omega)]
     have hY : YR = puR (puR X o) { d with links := insW d.links o.id } := by rw [← hYR.out]; unfold layX; rw [hER.out, hE]; rfl
     rw [hE, hY]
     exact ⟨aY, nY, cY, rfl, (ObsN.store oY2 qZ hsz.out.2.2.2.2 (fun b hb => by have := hD b hb; have := hsz.out.2.2.2.1; omega)).low hkw0.size, hSZ⟩
def attE (X : List Ob) (i : Int) (o : Ob) : Int := if (fnd X i).isSome = false then 1 else if (fO X i).kind ≠ 2 then 3 else if (fnd X o.id).isSome = true then 12 else layE X (fO X i) o
def attX (X : List Ob) (i : Int) (o : Ob) : List Ob := if (fnd X i).isSome = false then X else if (fO X i).kind ≠ 2 then X else if (fnd X o.id).isSome = true then X else layX X (fO X i) o
theorem g3z {w w' : World} (h : ObsF (LtN w) D0 w ao n cap X Cf) (hD : ∀ b, D0 b → b < w.heap.size) (k : Below w.heap.size w w') : ObsF (LtN w') D0 w' ao n cap X Cf :=
 (h.laterK (fun b hb => k.block b (hD b hb)) (fun b hb => k.block b hb)).wide (fun _ hb => hb) (fun b hb => ltz hb k.size)
structure Lays (X : List Ob) : Prop where
 srt : Srt X
 sms : q3z X
 nul : fnd X 0 = none
 quo : ∀ x ∈ X, 0 ≤ x.quota ∧ x.quota ≤ 4096
 lab : ∀ x ∈ X, x.label.length < 1048576
 ris : ∀ x ∈ X, x.links.Pairwise (· < ·) ∧ x.links.length ≤ 4000
theorem Lays.at (h : Lays X) (i : Int) : Small (fO X i) ∧ (0 ≤ (fO X i).quota ∧ (fO X i).quota ≤ 4096) ∧ (fO X i).label.length < 1048576 ∧ ((fO X i).links.Pairwise (· < ·) ∧ (fO X i).links.length ≤ 4000) := by
 unfold fO
 cases hf : fnd X i with
 | none => exact ⟨⟨by decide, by decide, by decide, by decide, by decide, by decide, by decide, by decide, by decide, by decide, by decide, by decide, by decide, by decide⟩, by decide, by decide, List.Pairwise.nil, by decide⟩
 | some x => exact ⟨h.sms x (kiz hf).2, h.quo x (kiz hf).2, h.lab x (kiz hf).2, h.ris x (kiz hf).2⟩
theorem uAz {t ke ro i : Int} {Co : Array Value} {o : Ob} (hD : ∀ b, D0 b → b < w.heap.size) (h : ObsF (LtN w) D0 w ao n cap X Cf) (hL : Lays X) (hn16 : n < 1022) (ho : ObD D0 w Co o) (hos : Small o) (hol : o.label.length < 1048576) :
  Calls prog 141 #[.agg #[.int .i64 t, .int .u64 ke, .int .u64 ro, .slice ao n cap], .int .u64 i, .agg Co] w fun e w' => ∃ ao2 n2 cap2, e = .returned (.tuple #[.agg #[.int .i64 t, .int .u64 ke, .int .u64 ro, .slice ao2 n2 cap2], .int .i64 (attE X i o)]) ∧ ObsN w D0 w' ao2 n2 cap2 (attX X i o) ∧ Below w.heap.size w w' := by
 have hO : ObsD (LtN w) D0 w ao n cap X := h.obs
 have hF : ObsF (LtN w) (LtN w) w ao n cap X Cf := h.wide hD (fun _ hb => hb)
 have hzw : (prog.info? 25).map (·.size) = some (#[.int .i64 t, .int .u64 ke, .int .u64 ro, .slice ao n cap] : Array Value).size := by kernel_rfl
 have hzv : (prog.info? 180).map (·.size) = some (#[.int .i64 t, .int .u64 ke, .int .u64 ro, .slice ao n cap] : Array Value).size := by kernel_rfl
 have hbt : prog.built 180 [(0, .agg #[.int .i64 t, .int .u64 ke, .int .u64 ro, .slice ao n cap])] = some #[.int .i64 t, .int .u64 ke, .int .u64 ro, .slice ao n cap] := by kernel_rfl
 have hz4 : (#[.int .i64 0, .int .u64 0, .int .u64 0, .slice none 0 0] : Array Value).size = (#[.int .i64 t, .int .u64 ke, .int .u64 ro, .slice ao n cap] : Array Value).size := rfl
 have h14 : (#[.int .i64 t, .int .u64 ke, .int .u64 ro, .slice ao n cap] : Array Value).all (·.oneCell') = true := by simp [Value.oneCell']
 have hz2 : ∀ v, (prog.info? 25).map (·.size) = some (#[.int .i64 t, .int .u64 ke, .int .u64 ro, v] : Array Value).size := fun _ => q0z
 have hs2 : ∀ v, zW.size = (#[.int .i64 t, .int .u64 ke, .int .u64 ro, v] : Array Value).size := fun _ => rfl
 have h12 : ∀ ao n cap, (#[.int .i64 t, .int .u64 ke, .int .u64 ro, .slice ao n cap] : Array Value).all (·.oneCell') = true := fun _ _ _ => by kernel_rfl
 have hrf := fun {er : Int} (W : World) (hk : Below w.heap.size w W) => vzz (t := t) (ke := ke) (ro := ro) (er := er) (D0 := D0) (fun b hb => ltz (hD b hb) hk.size) (wtz hO hD hk) hL.srt (by omega) hL.sms hL.nul
 have hf1 := fun (W : World) (hk : Below w.heap.size w W) => bCz (t := t) (ke := ke) (ro := ro) (i := i) (hF.next hk) hL.srt (by omega)
 have hf2 := fun (W : World) (hk : Below w.heap.size w W) => bCz (t := t) (ke := ke) (ro := ro) (i := o.id) (hF.next hk) hL.srt (by omega)
 have hdo := fC_ob h hL.srt i
 have hdo2 := fC_ob h hL.srt o.id
 have hla := fun (W : World) (hk : Below w.heap.size w W) => tlaid_v (t := t) (ke := ke) (ro := ro) (D0 := D0) (fun b hb => ltz (hD b hb) hk.size) (g3z h hD hk) hL.srt hn16 hL.sms hL.nul hL.quo (hdo.laterK fun b hb => hk.block b (hD b hb)) (hL.at i).1 (hL.at i).2.1 (hL.at i).2.2.1 (hL.at i).2.2.2.1 (hL.at i).2.2.2.2 (ho.laterK fun b hb => hk.block b (hD b hb)) hos hol
 have hz1 := hdo.size
 have h1c := hdo.one
 have d1 := hdo.kind
 have hz3 := hdo2.size
 have h3c := hdo2.one
 have hzo := ho.size
 have e0 := ho.id
 obtain ⟨ER, hER⟩ : ∃ ER, Hid (attE X i o = ER) := ⟨_, rfl⟩
 obtain ⟨YR, hYR⟩ : ∃ YR, Hid (attX X i o = YR) := ⟨_, rfl⟩
 rw [hER.out, hYR.out]
 generalize fC X Cf i = C1 at hf1 hz1 h1c d1 hla
 generalize fC X Cf o.id = C2 at hf2 hz3 h3c
 clear hdo hdo2
 obtain ⟨LE, hLE⟩ : ∃ LE, Hid (layE X (fO X i) o = LE) := ⟨_, rfl⟩
 obtain ⟨LX, hLX⟩ : ∃ LX, Hid (layX X (fO X i) o = LX) := ⟨_, rfl⟩
 simp only [hLE.out, hLX.out] at hla
 obtain ⟨kd, hkd⟩ : ∃ kd, Hid ((fO X i).kind = kd) := ⟨_, rfl⟩
 rw [hkd.out] at d1
 obtain ⟨G, hG⟩ : ∃ G : Array Value, G = #[.int .i64 t, .int .u64 ke, .int .u64 ro, .slice ao n cap] := ⟨_, rfl⟩
 simp only [← hG] at hrf hf1 hf2 hla
 rw [← hG] at hzw hzv hbt hz4 h14
 rw [← hG]
 clear hG
 cases hb1 : (fnd X i).isSome
 rw [hb1] at hf1
 generalize (fnd X o.id).isSome = b2 at hf2
 rotate_left
 rw [hb1] at hf1
 by_cases k2 : kd = 2
 subst k2
 cases hb2 : (fnd X o.id).isSome
 rw [hb2] at hf2
 rotate_left
 rw [hb2] at hf2
 rotate_left
 have k2b : (kd == 2) = false := by simpa using k2
 generalize (fnd X o.id).isSome = b2 at hf2
 rotate_left
 all_goals go_enter func141, ntmps141
 all_goals go_wp2_with (first
  | (with_reducible refine qcz rfl 25 _ rfl G rfl ?_; intro B3 W3 hN3 hB3 hk)
  | (with_reducible refine qcz rfl 55 _ rfl Co rfl ?_; intro B5 W5 hN5 hB5 hk5; replace hB3 := hB3.next hk5; replace hk := btz hk hk5)
  | ((with_reducible refine qdz rfl 25 rfl zW wyz ?_); intro R W6 hN6 hR hk6; have hRw : Hid (w.heap.size ≤ R) := (by have := hN6.out; have := hk.size; refine (?_ : w.heap.size ≤ R); omega); replace hB3 := hB3.next hk6; replace hB5 := hB5.next hk6; replace hk := btz hk hk6; clear hN3 hN5 hN6)
  | (with_reducible refine qhz (by kernel_rfl) 25 _ rfl B3 rfl G hB3 _ underlying25 (by kernel_rfl) hzw ?_)
  | ((with_reducible refine qTz (by kernel_rfl) _ [(0, .tmp 13)] rfl G ?hf ?_); (case hf => exact hbt))
  | ((with_reducible refine qdz rfl 180 rfl #[.int .i64 0, .int .u64 0, .int .u64 0, .slice none 0 0] Tryz.zeroValue180 ?_); intro B8 W8 hN8 hR8 hk8)
  | ((with_reducible refine qbz rfl _ _ _ rfl B8 rfl G rfl _ hR8 hzv hz4 h14 ?_); intro V8 hB8 o8; have hb8 : Below W6.heap.size W6 V8 := o8.below W6.heap.size W6 (by have := hN8.out; omega) hk8; replace hB3 := hB3.next hb8; replace hB5 := hB5.next hb8; replace hR := hR.next hb8; replace hk := btz hk hb8; clear hN8 hR8 hk8 o8 hb8)
  | (with_reducible refine qhz (by kernel_rfl) 180 _ rfl B8 rfl G hB8 _ underlying180 (by kernel_rfl) hzv ?_)
  | (with_reducible refine qaz (by kernel_rfl) _ _ rfl B5 _ rfl _ _ hB5 _ e0 isAgg22 ?_)
  | (go_at_call 153; have hx := hP9; (with_reducible refine (hf2 _ hk).mono ?_); rintro e w11 ⟨rfl, hb8⟩; replace hB3 := hB3.next hb8; replace hB5 := hB5.next hb8; replace hR := hR.next hb8; replace hB8 := hB8.next hb8; replace hP9 := hP9.next hb8; replace hk := btz hk hb8; clear hb8 hx)
  | (go_at_call 153; (with_reducible refine (hf1 _ hk).mono ?_); rintro e w9 ⟨rfl, hb8⟩; replace hB3 := hB3.next hb8; replace hB5 := hB5.next hb8; replace hR := hR.next hb8; replace hB8 := hB8.next hb8; replace hk := btz hk hb8; clear hb8)
  | ((with_reducible refine qdz rfl 55 rfl zC qsz ?_); have hx := hP9; intro P11 W11 hN11 hP11a hk11; clear hx)
  | ((with_reducible refine qdz rfl 55 rfl zC qsz ?_); intro P9 W9 hN9 hP9a hk9)
  | ((with_reducible refine qbz rfl _ _ _ rfl P9 rfl C1 rfl zC hP9a (qfz hz1) (qoz.trans hz1.symm) h1c ?_); intro V9 hP9 q9; have hb8 : Below w9.heap.size w9 V9 := q9.below w9.heap.size w9 (by have := hN9.out; omega) hk9; replace hB3 := hB3.next hb8; replace hB5 := hB5.next hb8; replace hR := hR.next hb8; replace hB8 := hB8.next hb8; replace hk := btz hk hb8; clear hN9 hP9a hk9 q9 hb8)
  | ((with_reducible refine qbz rfl _ _ _ rfl P11 rfl C2 rfl zC hP11a (qfz hz3) (qoz.trans hz3.symm) h3c ?_); intro V11 hP11 q11; have hb8 : Below w11.heap.size w11 V11 := q11.below w11.heap.size w11 (by have := hN11.out; omega) hk11; replace hB3 := hB3.next hb8; replace hB5 := hB5.next hb8; replace hR := hR.next hb8; replace hB8 := hB8.next hb8; replace hP9 := hP9.next hb8; replace hk := btz hk hb8; clear hN11 hP11a hk11 q11 hb8)
  | (with_reducible refine qaz (by kernel_rfl) _ _ rfl P9 _ rfl _ _ hP9 _ d1 isAgg3 ?_)
  | (go_at_call 154; (with_reducible refine (hrf _ hk).mono ?_); rintro e w12 ⟨aX, nX, cX, rfl, oX, hb9⟩; have hR9 := hR.next hb9)
  | (with_reducible refine qhz (by kernel_rfl) 55 _ rfl P9 rfl C1 hP9 _ underlying55 (by kernel_rfl) (qfz hz1) ?_)
  | (with_reducible refine qhz (by kernel_rfl) 55 _ rfl B5 rfl Co hB5 _ underlying55 (by kernel_rfl) (qfz hzo) ?_)
  | (go_at_call 157; (with_reducible refine (hla _ hk).mono ?_); rintro e w12 ⟨aX, nX, cX, rfl, oX, hb9⟩; have hR9 := hR.next hb9)
  | ((with_reducible refine qbz rfl _ _ _ rfl R rfl _ rfl zW hR9 (hz2 _) (hs2 _) (h12 aX nX cX) ?_); intro W13 hR13 q13))
 ·refine bodyPost_ret (xcz results141 rfl rfl hR13 rfl) rfl ?_
  have hE : ER = 1 := by rw [← hER.out]; unfold attE; rw [if_pos hb1]
  have hY : YR = X := by rw [← hYR.out]; unfold attX; rw [if_pos hb1]
  rw [hE, hY]
  exact ⟨aX, nX, cX, rfl, (ObsN.store oX q13 hR.lt (fun b hb => by have := hD b hb; have := hRw.out; omega)).low hk.size, q13.below _ _ hRw.out (btz hk hb9)⟩
 ·refine bodyPost_ret (xcz results141 rfl rfl hR13 rfl) rfl ?_
  have hE : ER = LE := by rw [← hER.out]; unfold attE; rw [if_neg (by rw [hb1]; decide), if_neg (by rw [hkd.out]; decide), if_neg (by rw [hb2]; decide), hLE.out]
  have hY : YR = LX := by rw [← hYR.out]; unfold attX; rw [if_neg (by rw [hb1]; decide), if_neg (by rw [hkd.out]; decide), if_neg (by rw [hb2]; decide), hLX.out]
  rw [hE, hY]
  exact ⟨aX, nX, cX, rfl, (ObsN.store oX q13 hR.lt (fun b hb => by have := hD b hb; have := hRw.out; omega)).low hk.size, q13.below _ _ hRw.out (btz hk hb9)⟩
 ·refine bodyPost_ret (xcz results141 rfl rfl hR13 rfl) rfl ?_
  have hE : ER = 12 := by rw [← hER.out]; unfold attE; rw [if_neg (by rw [hb1]; decide), if_neg (by rw [hkd.out]; decide), if_pos hb2]
  have hY : YR = X := by rw [← hYR.out]; unfold attX; rw [if_neg (by rw [hb1]; decide), if_neg (by rw [hkd.out]; decide), if_pos hb2]
  rw [hE, hY]
  exact ⟨aX, nX, cX, rfl, (ObsN.store oX q13 hR.lt (fun b hb => by have := hD b hb; have := hRw.out; omega)).low hk.size, q13.below _ _ hRw.out (btz hk hb9)⟩
 ·refine bodyPost_ret (xcz results141 rfl rfl hR13 rfl) rfl ?_
  have hE : ER = 3 := by rw [← hER.out]; unfold attE; rw [if_neg (by rw [hb1]; decide), if_pos (by rw [hkd.out]; exact k2)]
  have hY : YR = X := by rw [← hYR.out]; unfold attX; rw [if_neg (by rw [hb1]; decide), if_pos (by rw [hkd.out]; exact k2)]
  rw [hE, hY]
  exact ⟨aX, nX, cX, rfl, (ObsN.store oX q13 hR.lt (fun b hb => by have := hD b hb; have := hRw.out; omega)).low hk.size, q13.below _ _ hRw.out (btz hk hb9)⟩
structure Kg (X : List Ob) (n : Nat) (x : Ob) : Prop where
 lay : Lays X
 len : n < 1000
 lab : x.label.length < 1048576
 sm : Small x
theorem yvz {Z : Nat → Prop} {T : TypeId} {F : Array Value} {x : Ob} {A : List Int} {i : Int} {wr : Bool} (h : Kz Z w B T F x t ke ro ao n cap X A) (hg : Kg X n x) (hE : dirE X x.label i wr = 0) : Calls prog 93 #[.pointer (some ⟨B, 0, none⟩), .int .u64 i, .bool wr] w fun e w' => ∃ C', e = .returned (.agg C') ∧ ObD (New w w') w' C' (fO X i) ∧ Below w.heap.size w w' := by
 have hmx : prog.follows .mixedOrders = true := by kernel_rfl
 have hB := h.blk
 have hz := h.size
 have hBl := h.blk.lt
 have hk := brz w.heap.size w
 have hwl := h.wld
 obtain ⟨CO, hCO⟩ : ∃ CO, F.extract 0 51 = CO := ⟨_, rfl⟩
 have zO : CO.size = 51 := by rw [← hCO]; simp [hz]
 obtain ⟨D, hD⟩ : ∃ D : Array Value, D = #[.int .i64 t, .int .u64 ke, .int .u64 ro, .slice ao n cap] := ⟨_, rfl⟩
 rw [← hD] at hwl
 have zD : D.size = 4 := by rw [hD]; rfl
 have hdi := fun {W : World} (hk : Below w.heap.size w W) => uvz (t := t) (ke := ke) (ro := ro) (i := i) (wr := wr) ((h.next hk).obs.wide (fun b hb => hb.1.1) fun b hb => hb.1.1) hg.lay.srt (by have := hg.len; omega) hg.lay.sms ((h.next hk).ob.wide fun b hb => hb.1.1) hg.lab
 rw [← hD, hCO] at hdi
 rw [hE] at hdi
 obtain ⟨y, hy⟩ : ∃ y, resO 0 (fO X i) = y := ⟨_, rfl⟩
 have hy2 : fO X i = y := hy
 rw [hy] at hdi
 rw [hy2]
 clear hD hE hy hy2
 go_enter func93, ntmps93
 go_wp2_with (first
  | ((with_reducible refine qdz rfl 55 rfl zC qsz ?_); intro R W0 hN0 hR hk0))
 have hB0 := hB.next hk0
 clear hk
 have hdr : Below W0.heap.size W0 W0.drew := (brz _ _).drew
 replace hB := hB0
 clear hB0
 refine PgM.region_out (S := fun W => Below W0.drew.heap.size W0.drew W) hmx (brz _ _) (fun hS => ?_)
 generalize W0.drew = v6 at *
 refine qCz (by kernel_rfl) (fun _ _ _ _ _ h => h) hS [(0, none), (1, none), (2, none), (3, some (.agg D)), (4, none), (5, none), (6, none), (7, some (.agg CO)), (8, none), (9, none)] (l' := #[tt, tt, tt, tt, tt, tt, tt, tt, tt, tt, ff, ff, ff, ff, ff, ff, ff]) (a' := { tmps := #[.pointer (some ⟨B, 0, none⟩), .int .u64 i, .bool wr, ud, ud, undef, .pointer (some ⟨R, 0, none⟩), ud, ud, undef, .pointer (some ⟨B, 0, none⟩), .pointer (some ⟨B, 0, none⟩), .pointer (some ⟨B, 51, none⟩), .agg D, .pointer (some ⟨B, 0, none⟩), .pointer (some ⟨B, 0, none⟩), .pointer (some ⟨B, 0, none⟩), .agg CO, .int .u64 i, .bool wr, ud, ud, ud, ud, ud, undef], defers := [] }) (obs := [.load 25 B 51 (.agg D), .load 55 B 0 (.agg CO)]) (n := 7) (by kernel_rfl) (by kernel_rfl) ⟨qIz 4 (fun W hS => hB.next ((btz hdr hS))) hwl (by rw [hz]; decide) underlying25 rfl (by kernel_rfl), qIz 51 (fun W hS => hB.next ((btz hdr hS))) (by rw [Nat.zero_add]; exact hCO) (by rw [hz]; decide) underlying55 rfl (by kernel_rfl), trivial⟩ ?_
 refine share 2 #[true, true, true, true, true, true, true, true, true, true, true, true, true, true, true, false, false] (fun A W => ∃ (P6 : Nat) (C6 : Array Value), A = { tmps := #[.pointer (some ⟨B, 0, none⟩), .int .u64 i, .bool wr, ud, ud, undef, .pointer (some ⟨R, 0, none⟩), .pointer (some ⟨P6, 0, none⟩), undef, .tuple #[.agg C6, .int .i64 0], .pointer (some ⟨B, 0, none⟩), .pointer (some ⟨B, 0, none⟩), .pointer (some ⟨B, 51, none⟩), .agg D, .pointer (some ⟨B, 0, none⟩), .pointer (some ⟨B, 0, none⟩), .pointer (some ⟨B, 0, none⟩), .agg CO, .int .u64 i, .bool wr, .tuple #[.agg C6, .int .i64 0], .agg C6, .int .i64 0, ud, ud, undef], defers := [] } ∧ (Below v6.heap.size v6 W) ∧ Blk W P6 zC 55 ∧ v6.heap.size ≤ P6 ∧ ObD (Kn v6 P6 W) W C6 y) ?_ (fun rest => ?_)
 ·rintro A W ⟨P6, C6, rfl, hS1, hP0, hgP, o6⟩
  obtain ⟨W6, hr6, hP6, q6⟩ := qPz hP0 (qfz o6.size) (qoz.trans o6.size.symm) o6.one
  refine qkz (i := 15) (n := 1) rfl (by kernel_rfl) ?_
  refine qQz (ty := 55) (B := P6) (off := 0) (v := .agg C6) (d := none) (by kernel_rfl) hr6 ?_
  have hS6 : Below v6.heap.size v6 W6 := q6.below _ _ hgP hS1
  have o6 := (o6.laterK fun b hb => q6.block b hb.2.2).wide (D' := Kn v6 P6 W6) fun b hb => ⟨hb.1, by rw [q6.size]; exact hb.2.1, hb.2.2⟩
  refine ⟨hS6, ?_⟩
  refine qCz (by kernel_rfl) (fun _ _ _ _ _ h => h) hS6 [(16, none)] (l' := #[tt, tt, tt, tt, tt, tt, tt, tt, tt, tt, tt, tt, tt, tt, tt, tt, tt]) (a' := { tmps := #[.pointer (some ⟨B, 0, none⟩), .int .u64 i, .bool wr, ud, ud, undef, .pointer (some ⟨R, 0, none⟩), .pointer (some ⟨P6, 0, none⟩), .int .i64 0, .tuple #[.agg C6, .int .i64 0], .pointer (some ⟨B, 0, none⟩), .pointer (some ⟨B, 0, none⟩), .pointer (some ⟨B, 51, none⟩), .agg D, .pointer (some ⟨B, 0, none⟩), .pointer (some ⟨B, 0, none⟩), .pointer (some ⟨B, 0, none⟩), .agg CO, .int .u64 i, .bool wr, .tuple #[.agg C6, .int .i64 0], .agg C6, .int .i64 0, ud, ud, undef], defers := [] }) (obs := []) (n := 0) (by kernel_rfl) (by kernel_rfl) trivial ?_
  refine wpAnyH_done (by kernel_rfl) ?_ _
  clear hS hS1 hP0 hr6 q6
  have hk6 : Below w.heap.size w W6 := hk0.trans ((btz hdr hS6).mono hk0.size)
  have hR6 := hR.next (btz hdr hS6)
  go_wp2_with (first
   | (go_at_call 139; (with_reducible refine (ksz _).mono ?_); rintro e w9 ⟨rfl, rfl⟩)
   | (with_reducible refine qhz (by kernel_rfl) 55 _ rfl P6 rfl C6 hP6 _ underlying55 (by kernel_rfl) (qfz o6.size) ?_)
   | ((with_reducible refine qbz rfl _ _ _ rfl R rfl C6 rfl zC hR6 (qfz o6.size) (qoz.trans o6.size.symm) o6.one ?_); intro W9 hR9 q9))
  refine bodyPost_ret (v := .agg C6) (xLz results93 rfl hR9 o6.size) rfl ?_
  have hRl := hR.lt
  have hRn := hN0.out
  have hds := hdr.size
  have hs9 := q9.size
  exact ⟨C6, rfl, (o6.laterK fun b hb => q9.block b (by have := hb.1; omega)).wide fun b hb => ⟨by have := hb.1; omega, by rw [hs9]; exact hb.2.1⟩, q9.below _ _ (by omega) hk6⟩
 ·refine wBz (i := 10) (j := 14) (n := 6) rfl (by kernel_rfl) ?_ ?_
  ·refine quz (f := 144) (vs := [.agg D, .agg CO, .int .u64 i, .bool wr]) (d := some 20) (by kernel_rfl) call144 (hdi (hk0.trans ((btz hdr hS).mono hk0.size))) ?_
   rintro e z1 ⟨C6, rfl, o6, hb101⟩
   have k1 := (brz v6.heap.size v6).trans (hb101.mono (brz v6.heap.size v6).size)
   have hS1 : Below v6.heap.size v6 z1 := btz hS hb101
   refine ⟨_, rfl, hS1, ?_⟩
   refine qXz (by kernel_rfl) (fun _ _ _ _ _ h => h) hS1 [11, 12, 13] (l' := #[tt, tt, tt, tt, tt, tt, tt, tt, tt, tt, tt, tt, tt, tt, ff, ff, ff]) (a' := { tmps := #[.pointer (some ⟨B, 0, none⟩), .int .u64 i, .bool wr, ud, ud, undef, .pointer (some ⟨R, 0, none⟩), ud, undef, .tuple #[.agg C6, .int .i64 0], .pointer (some ⟨B, 0, none⟩), .pointer (some ⟨B, 0, none⟩), .pointer (some ⟨B, 51, none⟩), .agg D, .pointer (some ⟨B, 0, none⟩), .pointer (some ⟨B, 0, none⟩), .pointer (some ⟨B, 0, none⟩), .agg CO, .int .u64 i, .bool wr, .tuple #[.agg C6, .int .i64 0], .agg C6, .int .i64 0, ud, ud, undef], defers := [] }) (n := 3) (by kernel_rfl) (by kernel_rfl) ?_
   refine qkz (i := 14) (n := 2) rfl (by kernel_rfl) ?_
   refine qRz (ty := 55) (z := zC) (d := some 7) (by kernel_rfl) qsz ?_
   intro P6 z2 hN hP6 hb102
   have hgP : v6.heap.size ≤ P6 := by have := hN.out; have := k1.size; omega
   have o6 := (o6.laterK fun b hb => hb102.block b hb.2).wide (D' := Kn v6 P6 z2) fun b hb => ⟨hb.1, ltz hb.2 hb102.size, by have := hN.out; have := hb.2; omega⟩
   have k2 := btz k1 hb102
   have hS2 : Below v6.heap.size v6 z2 := btz hS1 hb102
   refine ⟨hS2, ?_⟩
   exact rest _ _ ⟨P6, C6, rfl, hS2, hP6, hgP, o6⟩
  ·refine qRz (ty := 55) (z := zC) (d := some 7) (by kernel_rfl) qsz ?_
   intro P6 z3 hN hP6 hb103
   have hgP : v6.heap.size ≤ P6 := by have := hN.out; have := (brz v6.heap.size v6).size; omega
   have k3 := (brz v6.heap.size v6).trans (hb103.mono (brz v6.heap.size v6).size)
   have hS3 : Below v6.heap.size v6 z3 := btz hS hb103
   refine ⟨hS3, ?_⟩
   refine qkz (i := 10) (n := 5) rfl (by kernel_rfl) ?_
   refine quz (f := 144) (vs := [.agg D, .agg CO, .int .u64 i, .bool wr]) (d := some 20) (by kernel_rfl) call144 (hdi (hk0.trans ((btz hdr hS3).mono hk0.size))) ?_
   rintro e z4 ⟨C6, rfl, o6, hb104⟩
   have o6 := o6.wide (D' := Kn v6 P6 z4) fun b hb => ⟨Nat.le_trans k3.size hb.1, hb.2, by have := hb.1; have := hP6.lt; omega⟩
   replace hP6 := hP6.next hb104
   have k4 := btz k3 hb104
   have hS4 : Below v6.heap.size v6 z4 := btz hS3 hb104
   refine ⟨_, rfl, hS4, ?_⟩
   refine qXz (by kernel_rfl) (fun _ _ _ _ _ h => h) hS4 [11, 12, 13] (l' := #[tt, tt, tt, tt, tt, tt, tt, tt, tt, tt, tt, tt, tt, tt, tt, ff, ff]) (a' := { tmps := #[.pointer (some ⟨B, 0, none⟩), .int .u64 i, .bool wr, ud, ud, undef, .pointer (some ⟨R, 0, none⟩), .pointer (some ⟨P6, 0, none⟩), undef, .tuple #[.agg C6, .int .i64 0], .pointer (some ⟨B, 0, none⟩), .pointer (some ⟨B, 0, none⟩), .pointer (some ⟨B, 51, none⟩), .agg D, .pointer (some ⟨B, 0, none⟩), .pointer (some ⟨B, 0, none⟩), .pointer (some ⟨B, 0, none⟩), .agg CO, .int .u64 i, .bool wr, .tuple #[.agg C6, .int .i64 0], .agg C6, .int .i64 0, ud, ud, undef], defers := [] }) (n := 2) (by kernel_rfl) (by kernel_rfl) ?_
   exact rest _ _ ⟨P6, C6, rfl, hS4, hP6, hgP, o6⟩
theorem kdir_no {Z : Nat → Prop} {T : TypeId} {F : Array Value} {x : Ob} {A : List Int} {i : Int} {wr : Bool} (h : Kz Z w B T F x t ke ro ao n cap X A) (hg : Kg X n x) (hE : dirE X x.label i wr ≠ 0) : Calls prog 93 #[.pointer (some ⟨B, 0, none⟩), .int .u64 i, .bool wr] w fun e w' => e = .panicked (wfz (dirE X x.label i wr)) ∧ Below w.heap.size w w' := by
 have hmx : prog.follows .mixedOrders = true := by kernel_rfl
 have hB := h.blk
 have hz := h.size
 have hBl := h.blk.lt
 have hk := brz w.heap.size w
 have hwl := h.wld
 obtain ⟨CO, hCO⟩ : ∃ CO, F.extract 0 51 = CO := ⟨_, rfl⟩
 have zO : CO.size = 51 := by rw [← hCO]; simp [hz]
 obtain ⟨D, hD⟩ : ∃ D : Array Value, D = #[.int .i64 t, .int .u64 ke, .int .u64 ro, .slice ao n cap] := ⟨_, rfl⟩
 rw [← hD] at hwl
 have zD : D.size = 4 := by rw [hD]; rfl
 have hdi := fun {W : World} (hk : Below w.heap.size w W) => uvz (t := t) (ke := ke) (ro := ro) (i := i) (wr := wr) ((h.next hk).obs.wide (fun b hb => hb.1.1) fun b hb => hb.1.1) hg.lay.srt (by have := hg.len; omega) hg.lay.sms ((h.next hk).ob.wide fun b hb => hb.1.1) hg.lab
 rw [← hD, hCO] at hdi
 obtain ⟨k, hk2⟩ : ∃ k, dirE X x.label i wr = k := ⟨_, rfl⟩
 rw [hk2] at hdi hE ⊢
 obtain ⟨y, hy⟩ : ∃ y, resO k (fO X i) = y := ⟨_, rfl⟩
 rw [hy] at hdi
 clear hD hy hk2
 go_enter func93, ntmps93
 go_wp2_with (first
  | ((with_reducible refine qdz rfl 55 rfl zC qsz ?_); intro R W0 hN0 hR hk0))
 have hB0 := hB.next hk0
 clear hk
 have hdr : Below W0.heap.size W0 W0.drew := (brz _ _).drew
 replace hB := hB0
 clear hB0
 refine PgM.region_out (S := fun W => Below W0.drew.heap.size W0.drew W) hmx (brz _ _) (fun hS => ?_)
 generalize W0.drew = v6 at *
 refine qCz (by kernel_rfl) (fun _ _ _ _ _ h => h) hS [(0, none), (1, none), (2, none), (3, some (.agg D)), (4, none), (5, none), (6, none), (7, some (.agg CO)), (8, none), (9, none)] (l' := #[tt, tt, tt, tt, tt, tt, tt, tt, tt, tt, ff, ff, ff, ff, ff, ff, ff]) (a' := { tmps := #[.pointer (some ⟨B, 0, none⟩), .int .u64 i, .bool wr, ud, ud, undef, .pointer (some ⟨R, 0, none⟩), ud, ud, undef, .pointer (some ⟨B, 0, none⟩), .pointer (some ⟨B, 0, none⟩), .pointer (some ⟨B, 51, none⟩), .agg D, .pointer (some ⟨B, 0, none⟩), .pointer (some ⟨B, 0, none⟩), .pointer (some ⟨B, 0, none⟩), .agg CO, .int .u64 i, .bool wr, ud, ud, ud, ud, ud, undef], defers := [] }) (obs := [.load 25 B 51 (.agg D), .load 55 B 0 (.agg CO)]) (n := 7) (by kernel_rfl) (by kernel_rfl) ⟨qIz 4 (fun W hS => hB.next ((btz hdr hS))) hwl (by rw [hz]; decide) underlying25 rfl (by kernel_rfl), qIz 51 (fun W hS => hB.next ((btz hdr hS))) (by rw [Nat.zero_add]; exact hCO) (by rw [hz]; decide) underlying55 rfl (by kernel_rfl), trivial⟩ ?_
 refine share 2 #[true, true, true, true, true, true, true, true, true, true, true, true, true, true, true, false, false] (fun A W => ∃ (P6 : Nat) (C6 : Array Value), A = { tmps := #[.pointer (some ⟨B, 0, none⟩), .int .u64 i, .bool wr, ud, ud, undef, .pointer (some ⟨R, 0, none⟩), .pointer (some ⟨P6, 0, none⟩), undef, .tuple #[.agg C6, .int .i64 k], .pointer (some ⟨B, 0, none⟩), .pointer (some ⟨B, 0, none⟩), .pointer (some ⟨B, 51, none⟩), .agg D, .pointer (some ⟨B, 0, none⟩), .pointer (some ⟨B, 0, none⟩), .pointer (some ⟨B, 0, none⟩), .agg CO, .int .u64 i, .bool wr, .tuple #[.agg C6, .int .i64 k], .agg C6, .int .i64 k, ud, ud, undef], defers := [] } ∧ (Below v6.heap.size v6 W) ∧ Blk W P6 zC 55 ∧ v6.heap.size ≤ P6 ∧ ObD (Kn v6 P6 W) W C6 y) ?_ (fun rest => ?_)
 ·rintro A W ⟨P6, C6, rfl, hS1, hP0, hgP, o6⟩
  obtain ⟨W6, hr6, hP6, q6⟩ := qPz hP0 (qfz o6.size) (qoz.trans o6.size.symm) o6.one
  refine qkz (i := 15) (n := 1) rfl (by kernel_rfl) ?_
  refine qQz (ty := 55) (B := P6) (off := 0) (v := .agg C6) (d := none) (by kernel_rfl) hr6 ?_
  have hS6 : Below v6.heap.size v6 W6 := q6.below _ _ hgP hS1
  have o6 := (o6.laterK fun b hb => q6.block b hb.2.2).wide (D' := Kn v6 P6 W6) fun b hb => ⟨hb.1, by rw [q6.size]; exact hb.2.1, hb.2.2⟩
  refine ⟨hS6, ?_⟩
  refine qCz (by kernel_rfl) (fun _ _ _ _ _ h => h) hS6 [(16, none)] (l' := #[tt, tt, tt, tt, tt, tt, tt, tt, tt, tt, tt, tt, tt, tt, tt, tt, tt]) (a' := { tmps := #[.pointer (some ⟨B, 0, none⟩), .int .u64 i, .bool wr, ud, ud, undef, .pointer (some ⟨R, 0, none⟩), .pointer (some ⟨P6, 0, none⟩), .int .i64 k, .tuple #[.agg C6, .int .i64 k], .pointer (some ⟨B, 0, none⟩), .pointer (some ⟨B, 0, none⟩), .pointer (some ⟨B, 51, none⟩), .agg D, .pointer (some ⟨B, 0, none⟩), .pointer (some ⟨B, 0, none⟩), .pointer (some ⟨B, 0, none⟩), .agg CO, .int .u64 i, .bool wr, .tuple #[.agg C6, .int .i64 k], .agg C6, .int .i64 k, ud, ud, undef], defers := [] }) (obs := []) (n := 0) (by kernel_rfl) (by kernel_rfl) trivial ?_
  refine wpAnyH_done (by kernel_rfl) ?_ _
  clear hS hS1 hP0 hr6 q6
  have hk6 : Below w.heap.size w W6 := hk0.trans ((btz hdr hS6).mono hk0.size)
  go_wp2_with (go_at_call 139; (with_reducible refine (ysz hE _).mono ?_); rintro e w9 ⟨rfl, rfl⟩)
  exact ⟨rfl, rfl, hk6⟩
 ·refine wBz (i := 10) (j := 14) (n := 6) rfl (by kernel_rfl) ?_ ?_
  ·refine quz (f := 144) (vs := [.agg D, .agg CO, .int .u64 i, .bool wr]) (d := some 20) (by kernel_rfl) call144 (hdi (hk0.trans ((btz hdr hS).mono hk0.size))) ?_
   rintro e z1 ⟨C6, rfl, o6, hb101⟩
   have k1 := (brz v6.heap.size v6).trans (hb101.mono (brz v6.heap.size v6).size)
   have hS1 : Below v6.heap.size v6 z1 := btz hS hb101
   refine ⟨_, rfl, hS1, ?_⟩
   refine qXz (by kernel_rfl) (fun _ _ _ _ _ h => h) hS1 [11, 12, 13] (l' := #[tt, tt, tt, tt, tt, tt, tt, tt, tt, tt, tt, tt, tt, tt, ff, ff, ff]) (a' := { tmps := #[.pointer (some ⟨B, 0, none⟩), .int .u64 i, .bool wr, ud, ud, undef, .pointer (some ⟨R, 0, none⟩), ud, undef, .tuple #[.agg C6, .int .i64 k], .pointer (some ⟨B, 0, none⟩), .pointer (some ⟨B, 0, none⟩), .pointer (some ⟨B, 51, none⟩), .agg D, .pointer (some ⟨B, 0, none⟩), .pointer (some ⟨B, 0, none⟩), .pointer (some ⟨B, 0, none⟩), .agg CO, .int .u64 i, .bool wr, .tuple #[.agg C6, .int .i64 k], .agg C6, .int .i64 k, ud, ud, undef], defers := [] }) (n := 3) (by kernel_rfl) (by kernel_rfl) ?_
   refine qkz (i := 14) (n := 2) rfl (by kernel_rfl) ?_
   refine qRz (ty := 55) (z := zC) (d := some 7) (by kernel_rfl) qsz ?_
   intro P6 z2 hN hP6 hb102
   have hgP : v6.heap.size ≤ P6 := by have := hN.out; have := k1.size; omega
   have o6 := (o6.laterK fun b hb => hb102.block b hb.2).wide (D' := Kn v6 P6 z2) fun b hb => ⟨hb.1, ltz hb.2 hb102.size, by have := hN.out; have := hb.2; omega⟩
   have k2 := btz k1 hb102
   have hS2 : Below v6.heap.size v6 z2 := btz hS1 hb102
   refine ⟨hS2, ?_⟩
   exact rest _ _ ⟨P6, C6, rfl, hS2, hP6, hgP, o6⟩
  ·refine qRz (ty := 55) (z := zC) (d := some 7) (by kernel_rfl) qsz ?_
   intro P6 z3 hN hP6 hb103
   have hgP : v6.heap.size ≤ P6 := by have := hN.out; have := (brz v6.heap.size v6).size; omega
   have k3 := (brz v6.heap.size v6).trans (hb103.mono (brz v6.heap.size v6).size)
   have hS3 : Below v6.heap.size v6 z3 := btz hS hb103
   refine ⟨hS3, ?_⟩
   refine qkz (i := 10) (n := 5) rfl (by kernel_rfl) ?_
   refine quz (f := 144) (vs := [.agg D, .agg CO, .int .u64 i, .bool wr]) (d := some 20) (by kernel_rfl) call144 (hdi (hk0.trans ((btz hdr hS3).mono hk0.size))) ?_
   rintro e z4 ⟨C6, rfl, o6, hb104⟩
   have o6 := o6.wide (D' := Kn v6 P6 z4) fun b hb => ⟨Nat.le_trans k3.size hb.1, hb.2, by have := hb.1; have := hP6.lt; omega⟩
   replace hP6 := hP6.next hb104
   have k4 := btz k3 hb104
   have hS4 : Below v6.heap.size v6 z4 := btz hS3 hb104
   refine ⟨_, rfl, hS4, ?_⟩
   refine qXz (by kernel_rfl) (fun _ _ _ _ _ h => h) hS4 [11, 12, 13] (l' := #[tt, tt, tt, tt, tt, tt, tt, tt, tt, tt, tt, tt, tt, tt, tt, ff, ff]) (a' := { tmps := #[.pointer (some ⟨B, 0, none⟩), .int .u64 i, .bool wr, ud, ud, undef, .pointer (some ⟨R, 0, none⟩), .pointer (some ⟨P6, 0, none⟩), undef, .tuple #[.agg C6, .int .i64 k], .pointer (some ⟨B, 0, none⟩), .pointer (some ⟨B, 0, none⟩), .pointer (some ⟨B, 51, none⟩), .agg D, .pointer (some ⟨B, 0, none⟩), .pointer (some ⟨B, 0, none⟩), .pointer (some ⟨B, 0, none⟩), .agg CO, .int .u64 i, .bool wr, .tuple #[.agg C6, .int .i64 k], .agg C6, .int .i64 k, ud, ud, undef], defers := [] }) (n := 2) (by kernel_rfl) (by kernel_rfl) ?_
   exact rest _ _ ⟨P6, C6, rfl, hS4, hP6, hgP, o6⟩
theorem kBz (w : World) : (zeroValue 48).run prog w = .ok (.agg #[.int .u64 0, .int .u64 0]) w := by kernel_rfl
section
variable {Z : Nat → Prop} {w w' : World} {B : Nat} {T : TypeId} {F : Array Value} {x : Ob} {t ke ro : Int} {ao : Option Addr} {n cap : Nat} {X : List Ob} {A : List Int}
theorem Kz.span (h : Kz Z w B T F x t ke ro ao n cap X A) {a b : Int} {S : Array Value} (hS : S = #[.int .u64 a, .int .u64 b]) (hb : Blk w' B (F.extract 0 37 ++ S ++ F.extract (37 + S.size) F.size) T) (q : Oth B w w') : Kz Z w' B T (F.extract 0 37 ++ S ++ F.extract (37 + S.size) F.size) { x with th := { x.th with lo := a, hi := b } } t ke ro ao n cap X A := by
 have hz := h.size
 have zS : S.size = 2 := by rw [hS]; rfl
 have hs : 37 + S.size ≤ F.size := by omega
 obtain ⟨G, hG⟩ : ∃ G, F.extract 0 37 ++ S ++ F.extract (37 + S.size) F.size = G := ⟨_, rfl⟩
 have zG : G.size = 62 := by rw [← hG, kSz hs]; exact hz
 have e : ∀ i, i ≠ 37 → i ≠ 38 → G[i]? = F[i]? := fun i h1 h2 => by rw [← hG]; exact jSz hs (by omega)
 have e37 : G[37]? = some (.int .u64 a) := by rw [← hG]; exact jTz (j := 0) hs (by rw [hS]; rfl)
 have e38 : G[38]? = some (.int .u64 b) := by rw [← hG]; exact jTz (j := 1) hs (by rw [hS]; rfl)
 rw [hG] at hb ⊢
 have g : ∀ b, Kx Z B w b → Kx Z B w' b := fun b hb => ⟨⟨by rw [q.size]; exact hb.1.1, hb.1.2⟩, hb.2⟩
 have o := (h.ob.laterK fun b hb => q.block b hb.1.2).wide g
 have c : ∀ i, i < 51 → i ≠ 37 → i ≠ 38 → (G.extract 0 51)[i]? = (F.extract 0 51)[i]? := fun i hi h1 h2 => by rw [kXz zG hi, kXz hz hi, e i h1 h2]
 refine ⟨hb, zG, w1z fun j v q => ?_, ⟨by simp [zG], w1z fun j v q => ?_, (c 0 (by omega) (by omega) (by omega)).trans o.id, (c 1 (by omega) (by omega) (by omega)).trans o.kind, by rw [c 2 (by omega) (by omega) (by omega)]; exact o.label, (c 3 (by omega) (by omega) (by omega)).trans o.quota, (c 4 (by omega) (by omega) (by omega)).trans o.fixed, by rw [c 5 (by omega) (by omega) (by omega)]; exact o.links, by rw [c 6 (by omega) (by omega) (by omega)]; exact o.data, by rw [c 7 (by omega) (by omega) (by omega)]; exact o.maps, ?_, ?_, by rw [c 49 (by omega) (by omega) (by omega)]; exact o.inn, by rw [c 50 (by omega) (by omega) (by omega)]; exact o.out⟩, ?_, (h.obs.laterK (fun b hb => q.block b hb.1.2) fun b hb => q.block b hb.1.2).wide g g, fun i hi => by rw [e (55 + i) (by omega) (by omega)]; exact h.arg i hi, fun b hb => by rw [q.size]; exact h.zlt b hb⟩
 ·by_cases h1 : j = 37
  ·subst h1; rw [e37] at q; cases q; rfl
  ·by_cases h2 : j = 38
   ·subst h2; rw [e38] at q; cases q; rfl
   ·rw [e j h1 h2] at q; exact wqz h.one q
 ·by_cases hj : j < 51
  ·rw [kXz zG hj] at q
   by_cases h1 : j = 37
   ·subst h1; rw [e37] at q; cases q; rfl
   ·by_cases h2 : j = 38
    ·subst h2; rw [e38] at q; cases q; rfl
    ·rw [e j h1 h2] at q; exact wqz h.one q
  ·rw [Array.getElem?_eq_none (by simp [zG]; omega)] at q; cases q
 ·have f := o.th
  have d : ∀ i, i < 35 → i ≠ 29 → i ≠ 30 → (G.extract 0 51)[8 + i]? = (F.extract 0 51)[8 + i]? := fun i hi h1 h2 => c (8 + i) (by omega) (by omega) (by omega)
  exact ⟨f.rlen, fun i hi => (d i (by omega) (by omega) (by omega)).trans (f.regs i hi), (d 16 (by omega) (by omega) (by omega)).trans f.pc, by rw [d 17 (by omega) (by omega) (by omega)]; exact f.clear, (d 18 (by omega) (by omega) (by omega)).trans f.sc, (d 19 (by omega) (by omega) (by omega)).trans f.si, (d 20 (by omega) (by omega) (by omega)).trans f.handler, (d 21 (by omega) (by omega) (by omega)).trans f.vector, (d 22 (by omega) (by omega) (by omega)).trans f.state, (d 23 (by omega) (by omega) (by omega)).trans f.wc, (d 24 (by omega) (by omega) (by omega)).trans f.wi, (d 25 (by omega) (by omega) (by omega)).trans f.wx, (d 26 (by omega) (by omega) (by omega)).trans f.wv, (d 27 (by omega) (by omega) (by omega)).trans f.wd, by rw [d 28 (by omega) (by omega) (by omega)]; exact f.alerts, (kXz zG (by omega)).trans e37, (kXz zG (by omega)).trans e38, by rw [d 31 (by omega) (by omega) (by omega)]; exact f.l0, by rw [d 32 (by omega) (by omega) (by omega)]; exact f.l1, by rw [d 33 (by omega) (by omega) (by omega)]; exact f.l2, by rw [d 34 (by omega) (by omega) (by omega)]; exact f.l3⟩
 ·have f := o.gt
  have d : ∀ i, i < 6 → (G.extract 0 51)[43 + i]? = (F.extract 0 51)[43 + i]? := fun i hi => c (43 + i) (by omega) (by omega) (by omega)
  exact ⟨by rw [d 0 (by omega)]; exact f.grant, by rw [d 1 (by omega)]; exact f.clear, (d 2 (by omega)).trans f.sc, (d 3 (by omega)).trans f.si, (d 4 (by omega)).trans f.pc, (d 5 (by omega)).trans f.arg⟩
 ·rw [← h.wld]
  apply Array.ext_getElem?
  intro i
  by_cases hi : i < 4
  ·rw [Array.getElem?_extract, if_pos (by omega), Array.getElem?_extract, if_pos (by omega), e _ (by omega) (by omega)]
  ·rw [Array.getElem?_eq_none (by simp [zG]; omega), Array.getElem?_eq_none (by simp [hz]; omega)]
theorem Kz.setw (h : Kz Z w B T F x t ke ro ao n cap X A) {ao2 : Option Addr} {n2 cap2 : Nat} {X2 : List Ob} {D : Array Value} (hD : D = #[.int .i64 t, .int .u64 ke, .int .u64 ro, .slice ao2 n2 cap2]) (ho : ObsD (Kx Z B w) (Kx Z B w) w ao2 n2 cap2 X2) (hb : Blk w' B (F.extract 0 51 ++ D ++ F.extract (51 + D.size) F.size) T) (q : Oth B w w') : Kz Z w' B T (F.extract 0 51 ++ D ++ F.extract (51 + D.size) F.size) x t ke ro ao2 n2 cap2 X2 A := by
 have hz := h.size
 have zD : D.size = 4 := by rw [hD]; rfl
 have hs : 51 + D.size ≤ F.size := by omega
 obtain ⟨G, hG⟩ : ∃ G, F.extract 0 51 ++ D ++ F.extract (51 + D.size) F.size = G := ⟨_, rfl⟩
 have zG : G.size = 62 := by rw [← hG, kSz hs]; exact hz
 have e : ∀ i, i < 51 ∨ 55 ≤ i → G[i]? = F[i]? := fun i h1 => by rw [← hG]; exact jSz hs (by omega)
 have e2 : ∀ i, i < 4 → G[51 + i]? = D[i]? := fun i hi => by
  cases q : D[i]? with
  | none => exact absurd (Array.getElem?_eq_none_iff.1 q) (by omega)
  | some v => rw [← hG]; exact jTz hs q
 rw [hG] at hb ⊢
 have g : ∀ b, Kx Z B w b → Kx Z B w' b := fun b hb => ⟨⟨by rw [q.size]; exact hb.1.1, hb.1.2⟩, hb.2⟩
 have e1 : G.extract 0 51 = F.extract 0 51 := by
  apply Array.ext_getElem?
  intro i
  by_cases hi : i < 51
  ·rw [kXz zG hi, kXz hz hi, e i (.inl hi)]
  ·rw [Array.getElem?_eq_none (by simp [zG]; omega), Array.getElem?_eq_none (by simp [hz]; omega)]
 refine ⟨hb, zG, w1z fun j v r => ?_, by rw [e1]; exact (h.ob.laterK fun b hb => q.block b hb.1.2).wide g, ?_, (ho.laterK (fun b hb => q.block b hb.1.2) fun b hb => q.block b hb.1.2).wide g g, fun i hi => by rw [e (55 + i) (by omega)]; exact h.arg i hi, fun b hb => by rw [q.size]; exact h.zlt b hb⟩
 ·by_cases hj : j < 51 ∨ 55 ≤ j
  ·rw [e j hj] at r; exact wqz h.one r
  ·obtain ⟨m, rfl⟩ : ∃ m, j = 51 + m := ⟨j - 51, by omega⟩
   rw [e2 m (by omega)] at r
   exact wqz (T := D) (by rw [hD]; kernel_rfl) r
 ·rw [← hD]
  apply Array.ext_getElem?
  intro i
  by_cases hi : i < 4
  ·rw [Array.getElem?_extract, if_pos (by omega), e2 i hi]
  ·rw [Array.getElem?_eq_none (by simp [zG]; omega), Array.getElem?_eq_none (by omega)]
theorem w4z {S : Array Value} (h : S.size = 2) : (prog.info? 48).map (·.size) = some S.size := by rw [h]; kernel_rfl
theorem ydz (h : Kz Z w B T F x t ke ro ao n cap X A) {a b : Int} {S : Array Value} (hS : S = #[.int .u64 a, .int .u64 b]) (ha : x.th.lo = a) (hb : x.th.hi = b) : w.rangeAt B 37 S.toList := fun j v hv => by
 have hz := h.size
 have f := h.ob.th
 have e0 : F[37]? = some (.int .u64 a) := (kXz hz (by omega)).symm.trans (by rw [← ha]; exact f.lo)
 have e1 : F[38]? = some (.int .u64 b) := (kXz hz (by omega)).symm.trans (by rw [← hb]; exact f.hi)
 subst hS
 rw [h.blk.cell]
 match j, hv with
 | 0, hv => rw [e0]; simpa using hv
 | 1, hv => rw [e1]; simpa using hv
 | j + 2, hv => simp at hv
theorem ugz {key a b : Nat} (h : Kz Z w B T F x t (key : Int) ro ao n cap X A) (ha : x.th.lo = (a : Int)) (hb : x.th.hi = (b : Int)) (hab : a < b) (hb2 : b ≤ 2305843009213693952) : Calls prog 140 #[.pointer (some ⟨B, 0, none⟩)] w fun e w' => e = .returned (.int .u64 (Pm.nameN key a : Nat)) ∧ (∃ F', Kz Z w' B T F' { x with th := { x.th with lo := ((a + 1 : Nat) : Int), hi := (b : Int) } } t (key : Int) ro ao n cap X A) ∧ Kt B w w' := by
 obtain ⟨S, hS⟩ : ∃ S : Array Value, Hid (S = #[.int .u64 (a : Int), .int .u64 (b : Int)]) := ⟨_, rfl⟩
 obtain ⟨S2, hS2⟩ : ∃ S : Array Value, Hid (S = #[.int .u64 ((a + 1 : Nat) : Int), .int .u64 (b : Int)]) := ⟨_, rfl⟩
 have hr := ydz h hS.out ha hb
 have zS : S.size = 2 := by rw [hS.out]; rfl
 have zS2 : S2.size = 2 := by rw [hS2.out]; rfl
 have oS2 : S2.all (·.oneCell') = true := by rw [hS2.out]; kernel_rfl
 have ht := fun w => SrM.take_some hab hb2 w
 rw [← hS.out, ← hS2.out] at ht
 have hnm := fun w => SrM.name_any (key := key) (n := a) (show a < 18446744073709551616 by omega) w
 generalize Pm.nameN key a = nm at hnm ⊢
 have hBl := h.blk.lt
 have hk : Kt B w w := Kt.refl B w
 have h0 := h
 clear ha hb
 have hB := h.blk
 go_enter func140, ntmps140
 have hzz : (#[.int .u64 0, .int .u64 0] : Array Value).size = S2.size := by rw [zS2]; rfl
 have hsF : 37 + S2.size ≤ F.size := by have := h.size; omega
 go_wp2_with (first
  | (with_reducible refine qxz (by kernel_rfl) 48 _ rfl B _ rfl S hr _ underlying48 (by kernel_rfl) (w4z zS) ?_)
  | (go_at_call 180; (with_reducible refine (ht _).mono ?_); rintro e w1 ⟨rfl, hb1⟩; replace h := h.next hb1; replace hk := hk.trans (Kt.of hb1 hBl); have hBl1 := h.blk.lt)
  | ((with_reducible refine qdz rfl 48 rfl _ kBz ?_); intro P W2 hN2 hP hk2; have hle := hN2.out.1)
  | ((with_reducible refine qbz rfl _ _ _ rfl P rfl S2 rfl _ hP (w4z zS2) hzz oS2 ?_); intro W3 hP3 q3; have k3 := q3.below _ _ (Nat.le_of_eq hle) hk2; replace h := h.next k3; replace hk := hk.trans (Kt.of k3 hBl1))
  | (go_at_call 139; (with_reducible refine (ksz _).mono ?_); rintro e w9 ⟨rfl, rfl⟩)
  | (with_reducible refine qhz (by kernel_rfl) 48 _ rfl P rfl S2 hP3 _ underlying48 (by kernel_rfl) (w4z zS2) ?_)
  | ((with_reducible refine qKz rfl 48 _ _ rfl B 37 rfl S2 rfl F T h.blk (w4z zS2) hsF oS2 ?_); intro W4 hB4 q4; have h4 := h.span hS2.out hB4 q4; replace hk := hk.trans (Kt.set q4); have hB4l := h4.blk.lt)
  | (with_reducible refine qaz (by kernel_rfl) _ _ rfl B 52 rfl _ _ h4.blk _ h4.wat.2.1 isAgg22 ?_)
  | (go_at_call 181; (with_reducible refine (hnm _).mono ?_); rintro e w5 ⟨rfl, hb5⟩; replace h4 := h4.next hb5; replace hk := hk.trans (Kt.of hb5 hB4l)))
 go_ret
 exact ⟨rfl, ⟨_, h4⟩, hk⟩
end
theorem Kt.put {B R : Nat} {w w' w2 : World} (h : Kt B w w') (q : Oth R w' w2) (hR : w.heap.size ≤ R) (hB : B < w.heap.size) : Kt B w w2 :=
 ⟨q.below B w (by omega) h.low, fun b hb hne => (q.block b (by omega)).trans (h.oth b hb hne)⟩
variable {Z : Nat → Prop} {ao : Option Addr} {B : Nat} {n cap : Nat} {X : List Ob}
theorem obsK {w w' : World} (h : ObsD (Kx Z B w) (Kx Z B w) w ao n cap X) (k : Below w.heap.size w w') : ObsD (Kx Z B w') (Kx Z B w') w' ao n cap X :=
 have g : ∀ b, Kx Z B w b → Kx Z B w' b := fun b hb => ⟨⟨ltz hb.1.1 k.size, hb.1.2⟩, hb.2⟩
 (h.laterK (fun b hb => k.block b hb.1.1) fun b hb => k.block b hb.1.1).wide g g
variable {w : World} {F : Array Value} {t ke ro : Int} {A : List Int} {T : TypeId} {x : Ob}
theorem giz (h : Kz Z w B T F x t ke ro ao n cap X A) {D : Array Value} {ao2 : Option Addr} {n2 cap2 : Nat} {X2 : List Ob} (hD : D = #[.int .i64 t, .int .u64 ke, .int .u64 ro, .slice ao2 n2 cap2]) (ho : ObsD (Kx Z B w) (Kx Z B w) w ao2 n2 cap2 X2) : Calls prog 95 #[.pointer (some ⟨B, 0, none⟩), .agg D, .int .i64 0] w fun e w' => e = .returned (.int .u64 0) ∧ (∃ F', Kz Z w' B T F' x t ke ro ao2 n2 cap2 X2 A) ∧ Kt B w w' := by
 have zD : D.size = 4 := by rw [hD]; rfl
 have oD : D.all (·.oneCell') = true := by rw [hD]; kernel_rfl
 have hzD : (prog.info? 25).map (·.size) = some D.size := by rw [zD]; exact q0z
 have hsF : 51 + D.size ≤ F.size := by have := h.size; omega
 have hBl := h.blk.lt
 have hk : Kt B w w := Kt.refl B w
 replace hD : Hid _ := hD
 go_enter func95, ntmps95
 go_wp2_with (first
  | (with_reducible refine qcz rfl 25 _ rfl D rfl ?_; intro Q W1 hN1 hQ hk1; replace h := h.next hk1; replace ho := obsK ho hk1; replace hk := hk.trans (Kt.of hk1 hBl))
  | (go_at_call 139; (with_reducible refine (ksz _).mono ?_); rintro e w9 ⟨rfl, rfl⟩)
  | (with_reducible refine qhz (by kernel_rfl) 25 _ rfl Q rfl D hQ _ underlying25 (by kernel_rfl) hzD ?_)
  | ((with_reducible refine qKz rfl 25 _ _ rfl B 51 rfl D rfl F T h.blk hzD hsF oD ?_); intro W4 hB4 q4; have h4 := h.setw hD.out ho hB4 q4; replace hk := hk.trans (Kt.set q4)))
 go_ret
 exact ⟨rfl, ⟨_, h4⟩, hk⟩
theorem gjz {D : Array Value} (zD : D.size = 4) {k : Int} (hk0 : k ≠ 0) : Calls prog 95 #[.pointer (some ⟨B, 0, none⟩), .agg D, .int .i64 k] w fun e w' => e = .panicked (wfz k) ∧ Below w.heap.size w w' := by
 have hk := brz w.heap.size w
 go_enter func95, ntmps95
 go_wp2_with (first
  | (with_reducible refine qcz rfl 25 _ rfl D rfl ?_; intro Q W1 hN1 hQ hk1; replace hk := hk.trans hk1)
  | (go_at_call 139; (with_reducible refine (ysz hk0 _).mono ?_); rintro e w9 ⟨rfl, rfl⟩))
 exact ⟨rfl, rfl, hk⟩
theorem number_v (h : Kz Z w B T F x t ke ro ao n cap X A) {i : Nat} {m : Int} (hi : i < 7) (hA : IntKind.i64.wrap (A.getD i 0) = m) : Calls prog 87 #[.pointer (some ⟨B, 0, none⟩), .int .i64 (i : Int)] w fun e w' => e = .returned (.int .i64 m) ∧ w = w' := by
 have hB := h.blk
 have ha := h.arg i hi
 generalize A.getD i 0 = k at ha hA
 have hi7 := fun W => xDz (b := B) (o := 55) hi W
 go_enter func87, ntmps87
 go_wp2_with (first
  | (with_reducible refine qVz (by kernel_rfl) _ _ _ rfl _ _ rfl rfl _ (hi7 _) ?_)
  | (with_reducible refine qaz (by kernel_rfl) _ _ rfl B _ rfl _ _ hB _ ha isAgg22 ?_))
 go_ret
 exact ⟨rfl, rfl⟩
theorem bLz (h : Kz Z w B T F x t ke ro ao n cap X A) (hl : x.label.length < 1048576) (hc : x.th.clear.length < 1048576) {aL : Option Addr} {nL cL : Nat} {L : Lb} (hL : LabD (LtN w) w aL nL cL L) (kL : nL < 1048576) : Calls prog 92 #[.pointer (some ⟨B, 0, none⟩), .slice aL nL cL] w fun e w' => e = .returned (.bool (CkM.ownsNo L && (!CkM.abvB L && (leqB x.label L && leqB L x.th.clear)))) ∧ Below w.heap.size w w' := by
 have hmx : prog.follows .mixedOrders = true := by kernel_rfl
 have hB := h.blk
 have hk := brz w.heap.size w
 obtain ⟨aT, nT, cT, eT, lT⟩ := h.ob.label
 obtain ⟨aC, nC, cC, eC, lC⟩ := h.ob.th.clear
 have eT' : F[2]? = some (.slice aT nT cT) := h.at (by omega) eT
 have eC' : F[25]? = some (.slice aC nC cC) := h.at (by omega) eC
 have kT : nT < 1048576 := by rw [← lT.1]; exact hl
 have kC : nC < 1048576 := by rw [← lC.1]; exact hc
 have hcr := fun {W : World} (hk : Below w.heap.size w W) => CkM.create_any ((lT.wide fun b hb => hb.1.1).lab' hk) ((lC.wide fun b hb => hb.1.1).lab' hk) (hL.lab' hk) kT kC kL
 generalize (CkM.ownsNo L && (!CkM.abvB L && (leqB x.label L && leqB L x.th.clear))) = rb at hcr ⊢
 go_enter func92, ntmps92
 go_wp2
 refine PgM.region_out (S := fun W => Blk W B F T ∧ Below w.heap.size w W) hmx (⟨hB.next (brz _ _).drew, hk.trans ((brz _ _).drew.mono hk.size)⟩) (fun hS0 => ?_)
 generalize w.drew = v0 at hS0 ⊢
 refine qCz (by kernel_rfl) (fun _ _ _ _ _ h => h) hS0 [(0, none), (1, none), (2, none), (3, none), (4, some (.slice aT nT cT)), (5, none), (6, none), (7, none), (8, none), (9, none), (10, some (.slice aC nC cC)), (11, none)] (l' := #[tt, tt, tt, tt, tt, tt, tt, tt, tt, tt, tt, tt, ff, ff]) (a' := { tmps := #[.pointer (some ⟨B, 0, none⟩), .slice aL nL cL, ud, undef, .bool false, .pointer (some ⟨B, 0, none⟩), .pointer (some ⟨B, 0, none⟩), .pointer (some ⟨B, 0, none⟩), .pointer (some ⟨B, 2, none⟩), .slice aT nT cT, .pointer (some ⟨B, 0, none⟩), .pointer (some ⟨B, 0, none⟩), .pointer (some ⟨B, 0, none⟩), .pointer (some ⟨B, 8, none⟩), .pointer (some ⟨B, 25, none⟩), .slice aC nC cC, .slice aL nL cL, undef], defers := [] }) (obs := [.load 39 B 2 (.slice aT nT cT), .load 39 B 25 (.slice aC nC cC)]) (n := 2) (by kernel_rfl) (by kernel_rfl) ⟨qez (fun W hS => hS.1) eT' isAgg39, qez (fun W hS => hS.1) eC' isAgg39, trivial⟩ ?_
 refine qkz (i := 12) (n := 1) rfl (by kernel_rfl) ?_
 refine quz (f := 143) (vs := [.slice aT nT cT, .slice aC nC cC, .slice aL nL cL]) (d := some 17) (by kernel_rfl) call143 (hcr hS0.2) ?_
 rintro e w01 ⟨rfl, hb1⟩
 have hS01 : Blk w01 B F T ∧ Below w.heap.size w w01 := ⟨hS0.1.next hb1, hS0.2.trans (hb1.mono hS0.2.size)⟩
 refine ⟨_, rfl, hS01, ?_⟩
 refine qCz (by kernel_rfl) (fun _ _ _ _ _ h => h) hS01 [(13, none)] (l' := #[tt, tt, tt, tt, tt, tt, tt, tt, tt, tt, tt, tt, tt, tt]) (a' := { tmps := #[.pointer (some ⟨B, 0, none⟩), .slice aL nL cL, ud, undef, .bool rb, .pointer (some ⟨B, 0, none⟩), .pointer (some ⟨B, 0, none⟩), .pointer (some ⟨B, 0, none⟩), .pointer (some ⟨B, 2, none⟩), .slice aT nT cT, .pointer (some ⟨B, 0, none⟩), .pointer (some ⟨B, 0, none⟩), .pointer (some ⟨B, 0, none⟩), .pointer (some ⟨B, 8, none⟩), .pointer (some ⟨B, 25, none⟩), .slice aC nC cC, .slice aL nL cL, .bool rb], defers := [] }) (obs := []) (n := 0) (by kernel_rfl) (by kernel_rfl) trivial ?_
 refine wpAnyH_done (by kernel_rfl) ?_ _
 go_wp2
 go_ret
 exact ⟨rfl, hS01.2⟩
theorem spawns_v (h : Kz Z w B T F x t ke ro ao n cap X A) (hl : x.label.length < 1048576) (hc : x.th.clear.length < 1048576) {aL aM : Option Addr} {nL cL nM cM : Nat} {L M : Lb} (hL : LabD (LtN w) w aL nL cL L) (hM : LabD (LtN w) w aM nM cM M) (kL : nL < 1048576) (kM : nM < 1048576) : Calls prog 89 #[.pointer (some ⟨B, 0, none⟩), .slice aL nL cL, .slice aM nM cM] w fun e w' => e = .returned (.bool ((!CkM.abvB L && !CkM.abvB M) && (leqB x.label L && (leqB L M && leqB M x.th.clear)))) ∧ Below w.heap.size w w' := by
 have hmx : prog.follows .mixedOrders = true := by kernel_rfl
 have hB := h.blk
 have hk := brz w.heap.size w
 obtain ⟨aT, nT, cT, eT, lT⟩ := h.ob.label
 obtain ⟨aC, nC, cC, eC, lC⟩ := h.ob.th.clear
 have eT' : F[2]? = some (.slice aT nT cT) := h.at (by omega) eT
 have eC' : F[25]? = some (.slice aC nC cC) := h.at (by omega) eC
 have kT : nT < 1048576 := by rw [← lT.1]; exact hl
 have kC : nC < 1048576 := by rw [← lC.1]; exact hc
 have hcr := fun {W : World} (hk : Below w.heap.size w W) => CkM.spawn_any ((lT.wide fun b hb => hb.1.1).lab' hk) ((lC.wide fun b hb => hb.1.1).lab' hk) (hL.lab' hk) (hM.lab' hk) kT kC kL kM
 generalize ((!CkM.abvB L && !CkM.abvB M) && (leqB x.label L && (leqB L M && leqB M x.th.clear))) = rb at hcr ⊢
 go_enter func89, ntmps89
 go_wp2
 refine PgM.region_out (S := fun W => Blk W B F T ∧ Below w.heap.size w W) hmx (⟨hB.next (brz _ _).drew, hk.trans ((brz _ _).drew.mono hk.size)⟩) (fun hS0 => ?_)
 generalize w.drew = v0 at hS0 ⊢
 refine qCz (by kernel_rfl) (fun _ _ _ _ _ h => h) hS0 [(0, none), (1, none), (2, none), (3, none), (4, none), (5, some (.slice aT nT cT)), (6, none), (7, none), (8, none), (9, none), (10, none), (11, none), (12, some (.slice aC nC cC)), (13, none), (14, none)] (l' := #[tt, tt, tt, tt, tt, tt, tt, tt, tt, tt, tt, tt, tt, tt, tt, ff, ff]) (a' := { tmps := #[.pointer (some ⟨B, 0, none⟩), .slice aL nL cL, .slice aM nM cM, ud, ud, undef, .bool false, .pointer (some ⟨B, 0, none⟩), .pointer (some ⟨B, 0, none⟩), .pointer (some ⟨B, 0, none⟩), .pointer (some ⟨B, 0, none⟩), .pointer (some ⟨B, 2, none⟩), .slice aT nT cT, .pointer (some ⟨B, 0, none⟩), .pointer (some ⟨B, 0, none⟩), .pointer (some ⟨B, 0, none⟩), .pointer (some ⟨B, 0, none⟩), .pointer (some ⟨B, 8, none⟩), .pointer (some ⟨B, 25, none⟩), .slice aC nC cC, .slice aL nL cL, .slice aM nM cM, undef], defers := [] }) (obs := [.load 39 B 2 (.slice aT nT cT), .load 39 B 25 (.slice aC nC cC)]) (n := 2) (by kernel_rfl) (by kernel_rfl) ⟨qez (fun W hS => hS.1) eT' isAgg39, qez (fun W hS => hS.1) eC' isAgg39, trivial⟩ ?_
 refine qkz (i := 15) (n := 1) rfl (by kernel_rfl) ?_
 refine quz (f := 137) (vs := [.slice aT nT cT, .slice aC nC cC, .slice aL nL cL, .slice aM nM cM]) (d := some 22) (by kernel_rfl) call137 (hcr hS0.2) ?_
 rintro e w01 ⟨rfl, hb1⟩
 have hS01 : Blk w01 B F T ∧ Below w.heap.size w w01 := ⟨hS0.1.next hb1, hS0.2.trans (hb1.mono hS0.2.size)⟩
 refine ⟨_, rfl, hS01, ?_⟩
 refine qCz (by kernel_rfl) (fun _ _ _ _ _ h => h) hS01 [(16, none)] (l' := #[tt, tt, tt, tt, tt, tt, tt, tt, tt, tt, tt, tt, tt, tt, tt, tt, tt]) (a' := { tmps := #[.pointer (some ⟨B, 0, none⟩), .slice aL nL cL, .slice aM nM cM, ud, ud, undef, .bool rb, .pointer (some ⟨B, 0, none⟩), .pointer (some ⟨B, 0, none⟩), .pointer (some ⟨B, 0, none⟩), .pointer (some ⟨B, 0, none⟩), .pointer (some ⟨B, 2, none⟩), .slice aT nT cT, .pointer (some ⟨B, 0, none⟩), .pointer (some ⟨B, 0, none⟩), .pointer (some ⟨B, 0, none⟩), .pointer (some ⟨B, 0, none⟩), .pointer (some ⟨B, 8, none⟩), .pointer (some ⟨B, 25, none⟩), .slice aC nC cC, .slice aL nL cL, .slice aM nM cM, .bool rb], defers := [] }) (obs := []) (n := 0) (by kernel_rfl) (by kernel_rfl) trivial ?_
 refine wpAnyH_done (by kernel_rfl) ?_ _
 go_wp2
 go_ret
 exact ⟨rfl, hS01.2⟩
theorem res_span {fn : Func} {p : Tmp} (h : fn.results = #[.cell p 48]) {tmps : Array Value} {C : Array Value} (hp : tmps.getD p undef = .pointer (some ⟨B, 0, none⟩)) (hB : Blk w B C 48) (hs : C.size = 2) : (results fn tmps).run prog w = .ok (.agg C) w :=
 results_cell_row h tmps w B 48 C (0, 0) _ hp hB underlying48 rfl (w4z hs)
theorem share_ok {a b c : Nat} (h : Kz Z w B T F x t ke ro ao n cap X A) (ha : x.th.lo = (a : Int)) (hb : x.th.hi = (b : Int)) (hab : a ≤ b) (hb2 : b ≤ 2305843009213693952) (hs : 0 < SrM.share a b) (hc : b - SrM.share a b = c) : Calls prog 90 #[.pointer (some ⟨B, 0, none⟩)] w fun e w' => e = .returned (.agg #[.int .u64 (c : Int), .int .u64 (b : Int)]) ∧ (∃ F', Kz Z w' B T F' { x with th := { x.th with lo := (a : Int), hi := (c : Int) } } t ke ro ao n cap X A) ∧ Kt B w w' := by
 obtain ⟨S, hS⟩ : ∃ S : Array Value, Hid (S = #[.int .u64 (a : Int), .int .u64 (b : Int)]) := ⟨_, rfl⟩
 obtain ⟨S2, hS2⟩ : ∃ S : Array Value, Hid (S = #[.int .u64 (a : Int), .int .u64 (c : Int)]) := ⟨_, rfl⟩
 obtain ⟨S3, hS3⟩ : ∃ S : Array Value, Hid (S = #[.int .u64 (c : Int), .int .u64 (b : Int)]) := ⟨_, rfl⟩
 have zS : S.size = 2 := by rw [hS.out]; rfl
 have zS2 : S2.size = 2 := by rw [hS2.out]; rfl
 have oS2 : S2.all (·.oneCell') = true := by rw [hS2.out]; kernel_rfl
 have zS3 : S3.size = 2 := by rw [hS3.out]; rfl
 have oS3 : S3.all (·.oneCell') = true := by rw [hS3.out]; kernel_rfl
 have ht := fun w => SrM.split_some hab hb2 hs hc w
 rw [← hS.out, ← hS2.out, ← hS3.out] at ht
 rw [← hS3.out]
 have hBl := h.blk.lt
 have hk : Kt B w w := Kt.refl B w
 replace ha : Hid _ := ha
 replace hb : Hid _ := hb
 clear hs hc hab hb2
 have hzz : (#[.int .u64 0, .int .u64 0] : Array Value).size = S2.size := by rw [zS2]; rfl
 have hzz3 : (#[.int .u64 0, .int .u64 0] : Array Value).size = S3.size := by rw [zS3]; rfl
 have hsF : 37 + S2.size ≤ F.size := by have := h.size; omega
 have tk0 : True := trivial
 have tk1 : True := trivial
 have tk2 : True := trivial
 go_enter func90, ntmps90
 go_wp2_with (first
  | (with_reducible refine qxz (by kernel_rfl) 48 _ rfl B _ rfl S (ydz h hS.out ha.out hb.out) _ underlying48 (by kernel_rfl) (w4z zS) ?_)
  | (clear tk0; (with_reducible refine qdz rfl 48 rfl _ kBz ?_); intro R W0 hN0 hR hk0; have hwR : w.heap.size = R := hN0.out.1; replace h := h.more hk0 hR.lt (Nat.le_of_eq hwR); replace hk := hk.trans (Kt.of hk0 hBl); have hBl0 := h.blk.lt)
  | (go_at_call 138; (with_reducible refine (ht _).mono ?_); rintro e w1 ⟨rfl, hb1⟩; replace h := h.next hb1; replace hk := hk.trans (Kt.of hb1 hBl0); have hBl1 := h.blk.lt; replace hR := hR.next hb1)
  | (clear tk1; (with_reducible refine qdz rfl 48 rfl _ kBz ?_); have hx := hBl1; intro P2 W2 hN2 hP hk2; clear hx; have hle := hN2.out.1)
  | (clear tk2; (with_reducible refine qdz rfl 48 rfl _ kBz ?_); have hx := hle; intro P3 W3 hN3 hQ hk3; clear hx; have hle3 := hN3.out.1; have hlt3 : P2 < P3 := (by have := hP.lt; omega); replace hP := hP.next hk3)
  | ((with_reducible refine qbz rfl _ _ _ rfl P2 rfl S2 rfl _ hP (w4z zS2) hzz oS2 ?_); intro W4 hP4 q4; replace hQ := hQ.other q4 (by omega))
  | ((with_reducible refine qbz rfl _ _ _ rfl P3 rfl S3 rfl _ hQ (w4z zS3) hzz3 oS3 ?_); intro W5 hQ5 q5; replace hP4 := hP4.other q5 (by omega); have k5 : Below w1.heap.size w1 W5 := q5.below _ _ (by omega) (q4.below _ _ (by omega) (btz hk2 hk3)); replace h := h.next k5; replace hk := hk.trans (Kt.of k5 hBl1); replace hR := hR.next k5)
  | (go_at_call 139; (with_reducible refine (ksz _).mono ?_); rintro e w9 ⟨rfl, rfl⟩)
  | (with_reducible refine qhz (by kernel_rfl) 48 _ rfl P2 rfl S2 hP4 _ underlying48 (by kernel_rfl) (w4z zS2) ?_)
  | ((with_reducible refine qKz rfl 48 _ _ rfl B 37 rfl S2 rfl F T h.blk (w4z zS2) hsF oS2 ?_); intro W6 hB6 q6; have h6 := h.span hS2.out hB6 q6; replace hk := hk.trans (Kt.set q6); have hB6l := h6.blk.lt; replace hR := hR.other q6 (by omega); replace hQ5 := hQ5.other q6 (by omega))
  | (with_reducible refine qhz (by kernel_rfl) 48 _ rfl P3 rfl S3 hQ5 _ underlying48 (by kernel_rfl) (w4z zS3) ?_)
  | ((with_reducible refine qbz rfl _ _ _ rfl R rfl S3 rfl _ hR (w4z zS3) hzz3 oS3 ?_); intro W7 hR7 q7))
 refine bodyPost_ret (v := .agg S3) (res_span results90 rfl hR7 zS3) rfl ?_
 have hsz := hk.low.size
 exact ⟨rfl, ⟨_, (h6.oth q7 (.inr rfl) (by omega)).less fun b hb => .inl hb⟩, hk.put q7 (by omega) hBl⟩
def useV (X : List Ob) (o : Ob) : Int := pagO o + (o.links.map (qOf X)).sum
end
section
def lnkB (X : List Ob) (d : Ob) : Bool := (d.links.all fun i => (fnd X i).isSome && plcB d.label (fO X i).label) && (!decide (d.kind = 2) || decide (v8z X d ≤ d.quota))
def plaB (X : List Ob) (ro : Int) (o : Ob) : Bool :=
 if o.id = ro then decide ((holL X o.id).length = 0) && (decide (o.kind = 2) && decide (o.quota ≤ 1024))
 else (decide (1 ≤ (holL X o.id).length) && !(decide (1 < (holL X o.id).length) && (!o.fixed || sngO o))) && (!decide (o.kind = 2) || upB X ro o.id)
def rapB (a b c d : Nat) : Bool := decide (a = b) || (decide (c = d) || (decide (b ≤ c) || decide (d ≤ a)))
def rowB (key : Nat) (X : List Ob) (i k : Nat) : Bool := !(SrM.hasK key (oat X i).th.lo.toNat (oat X i).th.hi.toNat (oat X k).id.toNat || (decide ((oat X k).kind = 4) && (decide (k ≠ i) && !rapB (oat X i).th.lo.toNat (oat X i).th.hi.toNat (oat X k).th.lo.toNat (oat X k).th.hi.toNat)))
def spaB (key : Nat) (X : List Ob) : Bool := (List.range X.length).all fun i => !decide ((oat X i).kind = 4) || (List.range X.length).all fun k => rowB key X i k
def fitD (t : Int) (key : Nat) (ro : Int) (X : List Ob) : Bool := (fitW ⟨t, key, ro, X⟩ && (fnd X ro).isSome) && (((List.range X.length).all fun j => lnkB X (oat X j) && plaB X ro (oat X j)) && spaB key X)
theorem all_oat {X : List Ob} {p : Ob → Bool} : ((List.range X.length).all fun j => p (oat X j)) = true ↔ ∀ o ∈ X, p o = true := by
 rw [List.all_eq_true]
 constructor
 ·intro h o ho
  obtain ⟨i, hi, e⟩ := List.getElem_of_mem ho
  have := h i (List.mem_range.2 hi)
  rwa [qMz hi, e] at this
 ·intro h j hj
  exact h _ (wxz (List.mem_range.1 hj))
theorem vMz {x : Ob} (h : q9z x = true) (hk : x.kind ≠ 2) : x.links = [] := by
 have ha : aloO x = x := (wdz x).1 (qqz.1 h).2.2
 rw [← ha]
 unfold aloO comO
 rw [if_neg hk]
 split
 ·rfl
 split
 ·rfl
 split
 ·rfl
 split
 ·rfl
 split <;> rfl
theorem yBz {t ke ro : Int} {X : List Ob} (h : fitW ⟨t, ke, ro, X⟩ = true) : Srt X ∧ (∀ x ∈ X, q9z x = true) ∧ X.length ≤ 1024 := by
 unfold fitW at h
 simp only [Bool.and_eq_true, decide_eq_true_eq, List.all_eq_true] at h
 exact ⟨idsB_iff.1 h.2.2.2.1, h.2.2.2.2, h.2.2.1⟩
end
section
open Go.RowKit Go.Shelf
attribute [local go_sem] Oper.semAt_some
def fewO (x : Ob) : Prop := x.label.length ≤ 20 ∧ x.links.length ≤ 70 ∧ x.data.length ≤ 300 ∧ x.maps.length ≤ 20
end
section
structure Tre (X : List Ob) (ro : Int) : Prop where
 srt : Srt X
 snd : ∀ x ∈ X, q9z x = true
 len : X.length ≤ 1024
 rot : ∃ r, fnd X ro = some r ∧ r.kind = 2 ∧ r.quota ≤ 1024
 hro : holL X ro = []
 hol : ∀ o ∈ X, o.id ≠ ro → holL X o.id ≠ []
 lnk : ∀ d ∈ X, ∀ i ∈ d.links, (fnd X i).isSome = true ∧ plcB d.label (fO X i).label = true
 use : ∀ d ∈ X, d.kind = 2 → v8z X d ≤ d.quota
 upw : ∀ o ∈ X, o.kind = 2 → o.id ≠ ro → upB X ro o.id = true
theorem vnz {t : Int} {key : Nat} {ro : Int} {X : List Ob} (h : fitD t key ro X = true) : Tre X ro := by
 unfold fitD at h
 simp only [Bool.and_eq_true] at h
 obtain ⟨⟨hf, hr⟩, hlp, _⟩ := h
 obtain ⟨hs, hso, hlen⟩ := yBz hf
 rw [all_oat (p := fun o => lnkB X o && plaB X ro o)] at hlp
 obtain ⟨r, hrf⟩ := Option.isSome_iff_exists.1 hr
 have hri := kiz hrf
 have hp := hlp r hri.2
 rw [Bool.and_eq_true] at hp
 have hp2 := hp.2
 unfold plaB at hp2
 rw [if_pos hri.1, hri.1] at hp2
 simp only [Bool.and_eq_true, decide_eq_true_eq] at hp2
 refine ⟨hs, hso, hlen, ⟨r, hrf, hp2.2.1, hp2.2.2⟩, List.eq_nil_of_length_eq_zero hp2.1, ?_, ?_, ?_, ?_⟩
 ·intro o ho hne
  have := hlp o ho
  rw [Bool.and_eq_true] at this
  have h2 := this.2
  unfold plaB at h2
  rw [if_neg hne] at h2
  simp only [Bool.and_eq_true, decide_eq_true_eq] at h2
  intro q
  rw [q] at h2
  simp at h2
 ·intro d hd i hi
  have := hlp d hd
  rw [Bool.and_eq_true] at this
  have h1 := this.1
  unfold lnkB at h1
  simp only [Bool.and_eq_true, List.all_eq_true] at h1
  exact h1.1 i hi
 ·intro d hd k2
  have := hlp d hd
  rw [Bool.and_eq_true] at this
  have h1 := this.1
  unfold lnkB at h1
  simp only [Bool.and_eq_true, Bool.or_eq_true, Bool.not_eq_true', decide_eq_true_eq, decide_eq_false_iff_not] at h1
  rcases h1.2 with q | q
  ·exact absurd k2 q
  ·exact q
 ·intro o ho k2 hne
  have := hlp o ho
  rw [Bool.and_eq_true] at this
  have h2 := this.2
  unfold plaB at h2
  rw [if_neg hne] at h2
  simp only [Bool.and_eq_true, Bool.or_eq_true, Bool.not_eq_true', decide_eq_false_iff_not] at h2
  rcases h2.2 with q | q
  ·exact absurd k2 q
  ·exact q
theorem alo_io {x : Ob} (h : aloO x = x) (hk : ¬ x.kind = 6) : x.inn = [] ∧ x.out = [] := by
 have e : (aloO x).inn = [] ∧ (aloO x).out = [] := by
  unfold aloO
  by_cases h1 : x.kind = 1
  ·rw [if_pos h1]; exact ⟨rfl, rfl⟩
  rw [if_neg h1]
  by_cases h2 : x.kind = 2
  ·rw [if_pos h2]; exact ⟨rfl, rfl⟩
  rw [if_neg h2]
  by_cases h3 : x.kind = 3
  ·rw [if_pos h3]; exact ⟨rfl, rfl⟩
  rw [if_neg h3]
  by_cases h4 : x.kind = 4
  ·rw [if_pos h4]; exact ⟨rfl, rfl⟩
  rw [if_neg h4]
  by_cases h5 : x.kind = 5
  ·rw [if_pos h5]; exact ⟨rfl, rfl⟩
  rw [if_neg h5, if_neg hk]; exact ⟨rfl, rfl⟩
 rw [h] at e; exact e
theorem yfz {x : Ob} (hs : q9z x = true) (hf : x.links.length < 4294967296 ∧ x.data.length < 4294967296 ∧ x.maps.length < 4294967296) : Small x := by
 obtain ⟨hc, ho, hw⟩ := qqz.1 hs
 have ha := (wdz x).1 hw
 have b1 := (qvz.1 (qSz.1 hc).2.2.2.1).1
 have hth : x.th.clear.length < 8796093022208 ∧ x.th.l0.length < 8796093022208 ∧ x.th.l1.length < 8796093022208 ∧ x.th.l2.length < 8796093022208 ∧ x.th.l3.length < 8796093022208 ∧ x.th.alerts.length < 4294967296 := by
  by_cases h4 : x.kind = 4
  ·obtain ⟨_, q1, q2⟩ := (own4 h4).1 ho
   have k1 := (qvz.1 (q5z.1 q1).2.1).1
   have q3 := (q8z.1 q2).1
   have k2 := (qvz.1 (q3 0 (by omega))).1
   have k3 := (qvz.1 (q3 1 (by omega))).1
   have k4 := (qvz.1 (q3 2 (by omega))).1
   have k5 := (qvz.1 (q3 3 (by omega))).1
   simp only [labs] at k2 k3 k4 k5
   have k6 : x.th.alerts.length ≤ 8 := by
    unfold thrB at q2
    simp only [Bool.and_eq_true, decide_eq_true_eq] at q2
    omega
   omega
  ·rw [alo_th ha h4]; decide
 have hgt : x.gt.grant.length < 8796093022208 ∧ x.gt.clear.length < 8796093022208 := by
  by_cases h5 : x.kind = 5
  ·have q := q5z.1 ((own5 h5).1 ho)
   have k1 := (qvz.1 q.1).1
   have k2 := (qvz.1 q.2.1).1
   omega
  ·rw [alo_gt ha h5]; decide
 have hio : x.inn.length < 4294967296 ∧ x.out.length < 4294967296 := by
  by_cases h6 : x.kind = 6
  ·unfold ownB at ho
   rw [if_neg (by rw [h6]; decide), if_neg (by rw [h6]; decide), if_neg (by rw [h6]; decide), if_neg (by rw [h6]; decide), if_neg (by rw [h6]; decide), if_pos h6] at ho
   simp only [Bool.and_eq_true, decide_eq_true_eq] at ho
   omega
  ·rw [(alo_io ha h6).1, (alo_io ha h6).2]; decide
 exact ⟨by omega, hf.1, hf.2.1, hf.2.2, hth.1, hth.2.2.2.2.2, hth.2.1, hth.2.2.1, hth.2.2.2.1, hth.2.2.2.2.1, hgt.1, hgt.2, hio.1, hio.2⟩
end
section
open Go.RowKit Go.Shelf
attribute [local go_sem] Oper.semAt_some
theorem fO_quota (X : List Ob) (i : Int) : (fO X i).quota = qOf X i := by
 unfold fO qOf
 cases fnd X i <;> rfl
theorem pagN_le {o : Ob} (h : Small o) : 0 ≤ pagN o ∧ pagN o ≤ 4294967296 := by
 have := h.c6
 unfold pagN
 omega
theorem ruse_le {X : List Ob} {o : Ob} (hq : ∀ x ∈ X, 0 ≤ x.quota ∧ x.quota ≤ 4096) (hsm : Small o) (l : List Int) (hl : l.length < 4294967296) : 0 ≤ pagN o + (l.map (qOf X)).sum ∧ pagN o + (l.map (qOf X)).sum ≤ 17596481011712 := by
 have h1 := sum_le (l := l) (f := qOf X) (k := 4096) fun i _ => qO_le hq i
 have h2 := pagN_le hsm
 omega
theorem sum_take {l : List Int} {f : Int → Int} {k : Nat} (h : k < l.length) : ((l.take (k + 1)).map f).sum = ((l.take k).map f).sum + f (l.getD k 0) := by
 rw [List.take_add_one, List.getElem?_eq_getElem h, Option.toList_some, List.map_append, List.sum_append, List.getD_eq_getElem?_getD, List.getElem?_eq_getElem h]
 simp
theorem ruses_w {w : World} {t ke ro : Int} {ao : Option Addr} {n cap : Nat} {X : List Ob} {C : Array Value} {o : Ob} (h : Obs w ao n cap X) (hq : ∀ x ∈ X, 0 ≤ x.quota ∧ x.quota ≤ 4096) (ho : ObD (LtN w) w C o) (hsm : Small o) : Calls prog 76 #[.agg #[.int .i64 t, .int .u64 ke, .int .u64 ro, .slice ao n cap], .agg C] w fun e w' => e = .returned (.int .i64 (v8z X o)) ∧ Below w.heap.size w w' := by
 have hmx : prog.follows .mixedOrders = true := by kernel_rfl
 have hz := ho.size
 obtain ⟨al, nl, cl, c5, hLk⟩ := ho.links
 have hln : Hid (o.links.length = nl) := hLk.1
 have hlc := hLk.2.1
 have hlm := hLk.2.2.1.1
 have hl32 : nl < 4294967296 := by rw [← hln.out]; exact hsm.c5
 have hzw : (prog.info? 25).map (·.size) = some (#[.int .i64 t, .int .u64 ke, .int .u64 ro, .slice ao n cap] : Array Value).size := by kernel_rfl
 have hpg := fun (W : World) (hk : Below w.heap.size w W) => uMz (ho.next hk) hsm
 have hfd := fun {W : World} {i : Int} (hk : Below w.heap.size w W) => jNz (t := t) (ke := ke) (ro := ro) (i := i) h hk
 have hul := fun k => ruse_le hq hsm (o.links.take k) (by rw [List.length_take, hln.out]; omega)
 have hst := fun k (hk : k < nl) => sum_take (f := qOf X) (show k < o.links.length by rw [hln.out]; exact hk)
 have hfin : Hid (v8z X o = pagN o + ((o.links.take nl).map (qOf X)).sum) := by show v8z X o = _; rw [← hln.out, List.take_length]; rfl
 rw [hfin.out]
 obtain ⟨G, hG⟩ : ∃ G : Array Value, G = #[.int .i64 t, .int .u64 ke, .int .u64 ro, .slice ao n cap] := ⟨_, rfl⟩
 rw [← hG] at hzw hfd
 rw [← hG]
 clear hG
 generalize pagN o = pg at hpg hul hst ⊢
 go_enter func76, ntmps76
 go_wp2_with (first
  | (with_reducible refine qcz rfl 25 _ rfl G rfl ?_; intro B2 W2 hN2 hB2 hk)
  | (with_reducible refine qcz rfl 55 _ rfl C rfl ?_; intro B3 W3 hN3 hB3 hk3; replace hB2 := hB2.next hk3; replace hk := btz hk hk3)
  | (with_reducible refine qhz (by kernel_rfl) _ _ rfl B3 rfl C hB3 _ underlying55 (by kernel_rfl) (qfz hz) ?_)
  | (go_at_call 127; (with_reducible refine (hpg _ hk).mono ?_); rintro e w1 ⟨rfl, hb1⟩; replace hB2 := hB2.next hb1; replace hB3 := hB3.next hb1; replace hk := btz hk hb1))
 clear hN2 hN3 hk3
 go_loopw [5, 6] (fun v j wr => ∃ k : Nat, k ≤ nl ∧ j = .int .i64 k ∧ v = .int .i64 (pg + ((o.links.take k).map (qOf X)).sum) ∧ Blk wr B2 G 25 ∧ Blk wr B3 C 55 ∧ Below w.heap.size w wr) (fun _ j _ => nl - (intOf j).toNat)
 case atStart => exact ⟨0, Nat.zero_le _, rfl, by simp, hB2, hB3, hk⟩
 case round =>
  clear hB2 hB3 hk
  obtain ⟨k, hkn1, rfl, rfl, hB2, hB3, hk⟩ := hrel
  by_cases hkn : k < nl
  ·obtain ⟨b, off, rfl, hbb, hc⟩ := vWz hLk hkn
   have hkn' : (k : Int) < nl := by omega
   have hw5 := hul (k + 1)
   rw [hst k hkn] at hw5
   have hst1 := hst k hkn
   have hq0 := fO_quota X (o.links.getD k 0)
   generalize ((o.links.take k).map (qOf X)).sum = s0 at hst1 hw5 ⊢
   generalize o.links.getD k 0 = i at hc hst1 hq0 hw5
   go_wp2_with (first
    | (with_reducible refine qaz (by kernel_rfl) _ _ rfl B3 _ rfl _ _ hB3 _ c5 isAgg40 ?_))
   refine PgM.region_out (S := fun W => Blk W B2 G 25 ∧ Blk W B3 C 55 ∧ Below w.heap.size w W) hmx ⟨hB2.next (brz _ _).drew, hB3.next (brz _ _).drew, hk.trans ((brz _ _).drew.mono hk.size)⟩ (fun hS => ?_)
   generalize wr.drew = v6 at hS ⊢
   clear hk hB2 hB3 
   refine qmz (by kernel_rfl) (fun _ _ _ _ _ h => h) hS [(0, some (.agg G)), (1, none), (2, some (.slice (some ⟨b, off, none⟩) nl cl)), (3, none), (4, some (.pointer (some ⟨b, off + k, none⟩))), (5, some (.int .u64 i))] (l' := #[tt, tt, tt, tt, tt, tt, ff, ff, ff, ff, ff, ff, ff]) (a' := { tmps := #[.agg G, .agg C, .pointer (some ⟨B2, 0, none⟩), .pointer (some ⟨B3, 0, none⟩), .int .i64 0, .int .i64 (pg + s0), .int .i64 k, u7, u8, .agg C, .int .i64 pg, .int .i64 k, .pointer (some ⟨B3, 5, none⟩), .slice (some ⟨b, off, none⟩) nl cl, .int .i64 nl, .bool true, u16, u17, u18, .agg G, .pointer (some ⟨B3, 5, none⟩), .slice (some ⟨b, off, none⟩) nl cl, .int .i64 k, .pointer (some ⟨b, off + k, none⟩), .int .u64 i, u25, u26, u27, u28, u29, u30, u31, undef], defers := [] }) (obs := [.load 25 B2 0 (.agg G), .load 40 B3 5 (.slice (some ⟨b, off, none⟩) nl cl), .ia 40 (.slice (some ⟨b, off, none⟩) nl cl) (.int .i64 k) (.pointer (some ⟨b, off + k, none⟩)), .load 22 b (off + k) (.int .u64 i)]) (n := 7) (by kernel_rfl) (by kernel_rfl) ⟨qBz (fun _ h => h.1) underlying25 (by kernel_rfl) hzw, qez (fun _ h => h.2.1) c5 isAgg40, jwz hkn, x5z (fun W h => (World.cell?_of_block (w := w) (a := ⟨b, off + k, none⟩) (h.2.2.block b hbb)).trans hc) isAgg22, trivial⟩ ?_
   refine share 2 #[true, true, true, true, true, true, true, true, true, true, true, false, false] (fun A W => ∃ (P6 : Nat) (C6 : Array Value), A = { tmps := #[.agg G, .agg C, .pointer (some ⟨B2, 0, none⟩), .pointer (some ⟨B3, 0, none⟩), .int .i64 0, .int .i64 (pg + s0), .int .i64 k, .pointer (some ⟨P6, 0, none⟩), u8, .agg C, .int .i64 pg, .int .i64 k, .pointer (some ⟨B3, 5, none⟩), .slice (some ⟨b, off, none⟩) nl cl, .int .i64 nl, .bool true, u16, u17, .tuple #[.agg C6, .bool (fnd X i).isSome], .agg G, .pointer (some ⟨B3, 5, none⟩), .slice (some ⟨b, off, none⟩) nl cl, .int .i64 k, .pointer (some ⟨b, off + k, none⟩), .int .u64 i, .tuple #[.agg C6, .bool (fnd X i).isSome], .agg C6, .bool (fnd X i).isSome, u28, u29, u30, u31, undef], defers := [] } ∧ (Blk W B2 G 25 ∧ Blk W B3 C 55 ∧ Below w.heap.size w W) ∧ Blk W P6 zC 55 ∧ v6.heap.size ≤ P6 ∧ ObD (LtN w) W C6 (fO X i) ∧ Below v6.heap.size v6 W) ?_ (fun rest => ?_)
   ·rintro A W ⟨P6, C6, rfl, hS1, hP0, hgP, o6, kv⟩
    obtain ⟨W6, hr6, hP6, q6⟩ := qPz hP0 (qfz o6.size) (qoz.trans o6.size.symm) o6.one
    refine qkz (i := 11) (n := 1) rfl (by kernel_rfl) ?_
    refine qQz (ty := 55) (B := P6) (off := 0) (v := .agg C6) (d := none) (by kernel_rfl) hr6 ?_
    have hwP : w.heap.size ≤ P6 := Nat.le_trans hS.2.2.size hgP
    have hS6 : Blk W6 B2 G 25 ∧ Blk W6 B3 C 55 ∧ Below w.heap.size w W6 := ⟨hS1.1.other q6 (by have := hS.1.lt; omega), hS1.2.1.other q6 (by have := hS.2.1.lt; omega), q6.below _ _ hwP hS1.2.2⟩
    replace o6 := ob_oth o6 hwP q6
    refine ⟨hS6, ?_⟩
    refine qmz (by kernel_rfl) (fun _ _ _ _ _ h => h) hS6 [(12, none)] (l' := #[tt, tt, tt, tt, tt, tt, tt, tt, tt, tt, tt, tt, tt]) (a' := { tmps := #[.agg G, .agg C, .pointer (some ⟨B2, 0, none⟩), .pointer (some ⟨B3, 0, none⟩), .int .i64 0, .int .i64 (pg + s0), .int .i64 k, .pointer (some ⟨P6, 0, none⟩), .bool (fnd X i).isSome, .agg C, .int .i64 pg, .int .i64 k, .pointer (some ⟨B3, 5, none⟩), .slice (some ⟨b, off, none⟩) nl cl, .int .i64 nl, .bool true, u16, u17, .tuple #[.agg C6, .bool (fnd X i).isSome], .agg G, .pointer (some ⟨B3, 5, none⟩), .slice (some ⟨b, off, none⟩) nl cl, .int .i64 k, .pointer (some ⟨b, off + k, none⟩), .int .u64 i, .tuple #[.agg C6, .bool (fnd X i).isSome], .agg C6, .bool (fnd X i).isSome, u28, u29, u30, u31, undef], defers := [] }) (obs := []) (n := 0) (by kernel_rfl) (by kernel_rfl) trivial ?_
    refine wpAnyH_done (by kernel_rfl) ?_ _
    obtain ⟨hB2, hB3, hk⟩ := hS6
    clear hS hS1 hP0 hgP hr6 q6 kv
    have c3 := o6.quota
    rw [hq0] at c3
    have hwr : IntKind.i64.wrap (pg + s0 + qOf X i) = pg + s0 + qOf X i := by rw [IntKind.wrap_i64]; omega
    generalize qOf X i = qi at c3 hst1 hwr hw5
    clear hq0 o6
    go_wp2_with (first
     | (with_reducible refine qaz (by kernel_rfl) _ _ rfl P6 _ rfl _ _ hP6 _ c3 isAgg3 ?_))
    go_roundw
    case rel => exact ⟨k + 1, by omega, by go_num, by rw [hst1]; first | rfl | (congr 1; omega), hB2, hB3, hk⟩
    case measure => simp [intOf]; omega
   ·refine wBz (i := 6) (j := 10) (n := 6) rfl (by kernel_rfl) ?_ ?_
    ·refine quz (f := 14) (vs := [.agg G, .int .u64 i]) (d := some 25) (by kernel_rfl) call14 (hfd hS.2.2) ?_
     rintro e z1 ⟨C6, rfl, o6, hb101⟩
     have k1 := (brz v6.heap.size v6).trans (hb101.mono (brz v6.heap.size v6).size)
     have hS1 : Blk z1 B2 G 25 ∧ Blk z1 B3 C 55 ∧ Below w.heap.size w z1 := ⟨hS.1.next hb101, hS.2.1.next hb101, hS.2.2.trans (hb101.mono hS.2.2.size)⟩
     refine ⟨_, rfl, hS1, ?_⟩
     refine qXz (by kernel_rfl) (fun _ _ _ _ _ h => h) hS1 [7, 8, 9] (l' := #[tt, tt, tt, tt, tt, tt, tt, tt, tt, tt, ff, ff, ff]) (a' := { tmps := #[.agg G, .agg C, .pointer (some ⟨B2, 0, none⟩), .pointer (some ⟨B3, 0, none⟩), .int .i64 0, .int .i64 (pg + s0), .int .i64 k, u7, u8, .agg C, .int .i64 pg, .int .i64 k, .pointer (some ⟨B3, 5, none⟩), .slice (some ⟨b, off, none⟩) nl cl, .int .i64 nl, .bool true, u16, u17, .tuple #[.agg C6, .bool (fnd X i).isSome], .agg G, .pointer (some ⟨B3, 5, none⟩), .slice (some ⟨b, off, none⟩) nl cl, .int .i64 k, .pointer (some ⟨b, off + k, none⟩), .int .u64 i, .tuple #[.agg C6, .bool (fnd X i).isSome], .agg C6, .bool (fnd X i).isSome, u28, u29, u30, u31, undef], defers := [] }) (n := 3) (by kernel_rfl) (by kernel_rfl) ?_
     refine qkz (i := 10) (n := 2) rfl (by kernel_rfl) ?_
     refine qRz (ty := 55) (z := zC) (d := some 7) (by kernel_rfl) qsz ?_
     intro P6 z2 hN hP6 hb102
     have hgP : v6.heap.size ≤ P6 := by have := hN.out; have := k1.size; omega
     replace o6 := ob_lt o6 hS1.2.2 hb102
     have k2 := btz k1 hb102
     have hS2 : Blk z2 B2 G 25 ∧ Blk z2 B3 C 55 ∧ Below w.heap.size w z2 := ⟨hS1.1.next hb102, hS1.2.1.next hb102, hS1.2.2.trans (hb102.mono hS1.2.2.size)⟩
     refine ⟨hS2, ?_⟩
     exact rest _ _ ⟨P6, C6, rfl, hS2, hP6, hgP, o6, k2⟩
    ·refine qRz (ty := 55) (z := zC) (d := some 7) (by kernel_rfl) qsz ?_
     intro P6 z3 hN hP6 hb103
     have hgP : v6.heap.size ≤ P6 := by have := hN.out; have := (brz v6.heap.size v6).size; omega
     have k3 := (brz v6.heap.size v6).trans (hb103.mono (brz v6.heap.size v6).size)
     have hS3 : Blk z3 B2 G 25 ∧ Blk z3 B3 C 55 ∧ Below w.heap.size w z3 := ⟨hS.1.next hb103, hS.2.1.next hb103, hS.2.2.trans (hb103.mono hS.2.2.size)⟩
     refine ⟨hS3, ?_⟩
     refine qkz (i := 6) (n := 5) rfl (by kernel_rfl) ?_
     refine quz (f := 14) (vs := [.agg G, .int .u64 i]) (d := some 25) (by kernel_rfl) call14 (hfd hS3.2.2) ?_
     rintro e z4 ⟨C6, rfl, o6, hb104⟩
     replace hP6 := hP6.next hb104
     have k4 := btz k3 hb104
     have hS4 : Blk z4 B2 G 25 ∧ Blk z4 B3 C 55 ∧ Below w.heap.size w z4 := ⟨hS3.1.next hb104, hS3.2.1.next hb104, hS3.2.2.trans (hb104.mono hS3.2.2.size)⟩
     refine ⟨_, rfl, hS4, ?_⟩
     refine qXz (by kernel_rfl) (fun _ _ _ _ _ h => h) hS4 [7, 8, 9] (l' := #[tt, tt, tt, tt, tt, tt, tt, tt, tt, tt, tt, ff, ff]) (a' := { tmps := #[.agg G, .agg C, .pointer (some ⟨B2, 0, none⟩), .pointer (some ⟨B3, 0, none⟩), .int .i64 0, .int .i64 (pg + s0), .int .i64 k, .pointer (some ⟨P6, 0, none⟩), u8, .agg C, .int .i64 pg, .int .i64 k, .pointer (some ⟨B3, 5, none⟩), .slice (some ⟨b, off, none⟩) nl cl, .int .i64 nl, .bool true, u16, u17, .tuple #[.agg C6, .bool (fnd X i).isSome], .agg G, .pointer (some ⟨B3, 5, none⟩), .slice (some ⟨b, off, none⟩) nl cl, .int .i64 k, .pointer (some ⟨b, off + k, none⟩), .int .u64 i, .tuple #[.agg C6, .bool (fnd X i).isSome], .agg C6, .bool (fnd X i).isSome, u28, u29, u30, u31, undef], defers := [] }) (n := 2) (by kernel_rfl) (by kernel_rfl) ?_
     exact rest _ _ ⟨P6, C6, rfl, hS4, hP6, hgP, o6, k4⟩
  ·obtain rfl : k = nl := by omega
   generalize hsF : ((o.links.take k).map (qOf X)).sum = sF
   go_wp2_with (first
    | (with_reducible refine qaz (by kernel_rfl) _ _ rfl B3 _ rfl _ _ hB3 _ c5 isAgg40 ?_))
   go_ret
   exact ⟨by rw [hsF]; rfl, hk⟩
end
section
open Go.ChangeShapes Go.WideShapes Go.ChangeAt Go.RowKit
variable {w : World} {L L' : List (Int × Int)} {ao ao' : Option Addr} {n n' cap cap' : Nat}
theorem rleq_f (hL : Lab w.heap.size w ao n cap L) (hL' : Lab w.heap.size w ao' n' cap' L') (f : Fit L) (f' : Fit L') :
  Calls prog 19 #[.slice ao n cap, .slice ao' n' cap'] w fun e w' => e = .returned (.bool (leqB L L')) ∧ Below w.heap.size w w' := by
 have h := kOz hL hL'
 rw [xFz f f'] at h
 exact h
theorem rraise_f {ao : Option Addr} {n cap : Nat} {L : List (Int × Int)} (hL : Lab w.heap.size w ao n cap L) (hk : n < 68719476736) (f : Fit L) :
  Calls prog 21 #[.slice ao n cap] w fun e w' => ∃ ao1 n1 cap1, e = .returned (.slice ao1 n1 cap1) ∧ Lab w'.heap.size w' ao1 n1 cap1 (wsz L) ∧ n1 ≤ n ∧ Below w.heap.size w w' := by
 have h := ymz hL hk
 rw [gIz f] at h
 exact h
theorem rjoin_f (hL : Lab w.heap.size w ao n cap L) (hL' : Lab w.heap.size w ao' n' cap' L') (hk : n < 68719476736) (hk' : n' < 68719476736) (f : Fit L) (f' : Fit L') :
  Calls prog 126 #[.slice ao n cap, .slice ao' n' cap'] w fun e w' => ∃ ao1 n1 cap1, e = .returned (.slice ao1 n1 cap1) ∧ Lab w'.heap.size w' ao1 n1 cap1 (vNz L L') ∧ n1 ≤ 2 * n + n' ∧ Below w.heap.size w w' := by
 have h := uQz hL hL' hk hk'
 rw [rjoin_eq f f'] at h
 exact h
theorem uLz {aD aO : Option Addr} {nD cD nO cO : Nat} {D O : List (Int × Int)} (hD : Lab w.heap.size w aD nD cD D) (hO : Lab w.heap.size w aO nO cO O) (kD : nD < 1048576) (kO : nO < 1048576) (fD : Fit D) (fO : Fit O) :
  Calls prog 75 #[.slice aD nD cD, .slice aO nO cO] w fun e w' => e = .returned (.bool (leqB D (vNz (wsz O) []))) ∧ Below w.heap.size w w' := by
 have hB := brz w.heap.size w
 have H := ((((Labs.nil w).push (Lab.nil _ _)).push hD).push hO)
 clear hD hO
 have fnil := Fit.nil
 have fR : Fit (wsz O) := jqz fO
 have fJ : Fit (vNz (wsz O) []) := bnz fR Fit.nil
 go_enter func75, ntmps75
 go_wp2_with (first | (go_at_call 21; refine (rraise_f (H.get (by repeat (first | exact List.Mem.head _ | apply List.Mem.tail))) (by omega) (by assumption)).mono ?_; rintro e w1 ⟨ao1, m1, cap1, rfl, hl, kn, kb⟩; replace H := (H.next kb).push hl; replace hB := btz hB kb; clear kb hl) | (go_at_call 126; refine (rjoin_f (H.get (by repeat (first | exact List.Mem.head _ | apply List.Mem.tail))) (H.get (by repeat (first | exact List.Mem.head _ | apply List.Mem.tail))) (by omega) (by omega) (by assumption) (by assumption)).mono ?_; rintro e w1 ⟨ao1, m1, cap1, rfl, hl, kn, kb⟩; replace H := (H.next kb).push hl; replace hB := btz hB kb; clear kb hl) | (go_at_call 19; refine (rleq_f (H.get (by repeat (first | exact List.Mem.head _ | apply List.Mem.tail))) (H.get (by repeat (first | exact List.Mem.head _ | apply List.Mem.tail))) (by assumption) (by assumption)).mono ?_; rintro e w1 ⟨rfl, kb⟩; replace H := H.next kb; replace hB := btz hB kb; clear kb))
 go_ret
 exact ⟨rfl, hB⟩
end
section
open Go.RowKit Go.Shelf
attribute [local go_sem] Oper.semAt_some
theorem alw_no {l : List Int} {p : Int → Bool} {k : Nat} (hk : k < l.length) (h : p (l.getD k 0) = false) : l.all p = false := by
 rw [List.all_eq_false]
 exact ⟨_, umz hk, by rw [h]; decide⟩
theorem alw_take {l : List Int} {p : Int → Bool} {k : Nat} (hk : k < l.length) (h : (l.take k).all p = true) (h1 : p (l.getD k 0) = true) : (l.take (k + 1)).all p = true := by
 rw [List.take_add_one, List.getElem?_eq_getElem hk, Option.toList_some, List.all_append, h]
 rw [List.getD_eq_getElem?_getD, List.getElem?_eq_getElem hk, Option.getD_some] at h1
 simp [h1]
def LbF (L : Lb) : Prop := Fit L ∧ L.length < 1048576
theorem fO_lab {X : List Ob} (h : ∀ x ∈ X, LbF x.label) (i : Int) : LbF (fO X i).label := by
 unfold fO
 cases hf : fnd X i with
 | none => exact ⟨Fit.nil, by decide⟩
 | some x => exact h x (kiz hf).2
theorem rlinks_w {w : World} {t ke ro : Int} {ao : Option Addr} {n cap : Nat} {X : List Ob} {C : Array Value} {o : Ob} (h : Obs w ao n cap X) (hq : ∀ x ∈ X, 0 ≤ x.quota ∧ x.quota ≤ 4096) (hlb : ∀ x ∈ X, LbF x.label) (ho : ObD (LtN w) w C o) (hsm : Small o) (hol : LbF o.label) : Calls prog 37 #[.agg #[.int .i64 t, .int .u64 ke, .int .u64 ro, .slice ao n cap], .agg C] w fun e w' => e = .returned (.bool (lnkB X o)) ∧ Below w.heap.size w w' := by
 have hmx : prog.follows .mixedOrders = true := by kernel_rfl
 have hz := ho.size
 obtain ⟨al, nl, cl, c5, hLk⟩ := ho.links
 obtain ⟨aD, nD, cD, c2, hLD⟩ := ho.label
 have hnD : nD < 1048576 := by rw [← hLD.1]; exact hol.2
 have c1 := ho.kind
 have c3 := ho.quota
 have hln : Hid (o.links.length = nl) := hLk.1
 have hlc := hLk.2.1
 have hlm := hLk.2.2.1.1
 have hzw : (prog.info? 25).map (·.size) = some (#[.int .i64 t, .int .u64 ke, .int .u64 ro, .slice ao n cap] : Array Value).size := by kernel_rfl
 have hus := fun (W : World) (hk : Below w.heap.size w W) => ruses_w (t := t) (ke := ke) (ro := ro) (qwz h hk) hq (ho.next hk) hsm
 have hfd := fun {W : World} {i : Int} (hk : Below w.heap.size w W) => jNz (t := t) (ke := ke) (ro := ro) (i := i) h hk
 have hL0 : Lab w.heap.size w aD nD cD o.label := hLD
 obtain ⟨p, hp⟩ : ∃ p : Int → Bool, Hid (p = fun i => (fnd X i).isSome && plcB o.label (fO X i).label) := ⟨_, rfl⟩
 have hR : Hid (lnkB X o = (o.links.all p && (!decide (o.kind = 2) || decide (v8z X o ≤ o.quota)))) := by show lnkB X o = _; unfold lnkB; rw [hp.out]
 have hno := fun (k : Nat) (hk : k < nl) (e : p (o.links.getD k 0) = false) => alw_no (p := p) (show k < o.links.length by rw [hln.out]; exact hk) e
 have hyes := fun (k : Nat) (hk : k < nl) => alw_take (p := p) (show k < o.links.length by rw [hln.out]; exact hk)
 have hfull : o.links.take nl = o.links := by rw [← hln.out]; exact List.take_length
 rw [hR.out]
 generalize v8z X o = us at hus ⊢
 obtain ⟨G, hG⟩ : ∃ G : Array Value, G = #[.int .i64 t, .int .u64 ke, .int .u64 ro, .slice ao n cap] := ⟨_, rfl⟩
 rw [← hG] at hzw hfd hus
 rw [← hG]
 clear hG
 go_enter func37, ntmps37
 go_wp2_with (first
  | (with_reducible refine qcz rfl 25 _ rfl G rfl ?_; intro B2 W2 hN2 hB2 hk)
  | (with_reducible refine qcz rfl 55 _ rfl C rfl ?_; intro B3 W3 hN3 hB3 hk3; replace hB2 := hB2.next hk3; replace hk := btz hk hk3))
 clear hN2 hN3 hk3
 go_loopw [5] (fun j wr => ∃ k : Nat, k ≤ nl ∧ j = .int .i64 k ∧ Hid ((o.links.take k).all p = true) ∧ Blk wr B2 G 25 ∧ Blk wr B3 C 55 ∧ Below w.heap.size w wr) (fun j _ => nl - (intOf j).toNat)
 case atStart => exact ⟨0, Nat.zero_le _, rfl, rfl, hB2, hB3, hk⟩
 case round =>
  clear hB2 hB3 hk
  obtain ⟨k, hkn1, rfl, hall, hB2, hB3, hk⟩ := hrel
  by_cases hkn : k < nl
  ·obtain ⟨b, off, rfl, hbb, hc⟩ := vWz hLk hkn
   have hkn' : (k : Int) < nl := by omega
   replace hno := hno k hkn
   replace hyes := hyes k hkn hall.out
   generalize o.links.getD k 0 = i at hc hno hyes
   go_wp2_with (first
    | (with_reducible refine qaz (by kernel_rfl) _ _ rfl B3 _ rfl _ _ hB3 _ c5 isAgg40 ?_))
   refine PgM.region_out (S := fun W => Blk W B2 G 25 ∧ Blk W B3 C 55 ∧ Below w.heap.size w W) hmx ⟨hB2.next (brz _ _).drew, hB3.next (brz _ _).drew, hk.trans ((brz _ _).drew.mono hk.size)⟩ (fun hS => ?_)
   generalize wr.drew = v6 at hS ⊢
   clear hk hB2 hB3 
   refine qmz (by kernel_rfl) (fun _ _ _ _ _ h => h) hS [(0, some (.agg G)), (1, none), (2, some (.slice (some ⟨b, off, none⟩) nl cl)), (3, none), (4, some (.pointer (some ⟨b, off + k, none⟩))), (5, some (.int .u64 i))] (l' := #[tt, tt, tt, tt, tt, tt, ff, ff, ff, ff, ff, ff, ff]) (a' := { tmps := #[.agg G, .agg C, .pointer (some ⟨B2, 0, none⟩), .pointer (some ⟨B3, 0, none⟩), u4, .int .i64 k, u6, u7, .int .i64 k, .pointer (some ⟨B3, 5, none⟩), .slice (some ⟨b, off, none⟩) nl cl, .int .i64 nl, .bool true, u13, u14, u15, .agg G, .pointer (some ⟨B3, 5, none⟩), .slice (some ⟨b, off, none⟩) nl cl, .int .i64 k, .pointer (some ⟨b, off + k, none⟩), .int .u64 i, u22, u23, u24, u25, u26, u27, u28, u29, u30, u31, u32, u33, u34, undef, undef, undef, undef, undef, undef, undef, undef, undef, undef, undef], defers := [] }) (obs := [.load 25 B2 0 (.agg G), .load 40 B3 5 (.slice (some ⟨b, off, none⟩) nl cl), .ia 40 (.slice (some ⟨b, off, none⟩) nl cl) (.int .i64 k) (.pointer (some ⟨b, off + k, none⟩)), .load 22 b (off + k) (.int .u64 i)]) (n := 7) (by kernel_rfl) (by kernel_rfl) ⟨qBz (fun _ h => h.1) underlying25 (by kernel_rfl) hzw, qez (fun _ h => h.2.1) c5 isAgg40, jwz hkn, x5z (fun W h => (World.cell?_of_block (w := w) (a := ⟨b, off + k, none⟩) (h.2.2.block b hbb)).trans hc) isAgg22, trivial⟩ ?_
   refine share 2 #[true, true, true, true, true, true, true, true, true, true, true, false, false] (fun A W => ∃ (P6 : Nat) (C6 : Array Value), A = { tmps := #[.agg G, .agg C, .pointer (some ⟨B2, 0, none⟩), .pointer (some ⟨B3, 0, none⟩), u4, .int .i64 k, .pointer (some ⟨P6, 0, none⟩), u7, .int .i64 k, .pointer (some ⟨B3, 5, none⟩), .slice (some ⟨b, off, none⟩) nl cl, .int .i64 nl, .bool true, u13, u14, .tuple #[.agg C6, .bool (fnd X i).isSome], .agg G, .pointer (some ⟨B3, 5, none⟩), .slice (some ⟨b, off, none⟩) nl cl, .int .i64 k, .pointer (some ⟨b, off + k, none⟩), .int .u64 i, .tuple #[.agg C6, .bool (fnd X i).isSome], .agg C6, .bool (fnd X i).isSome, u25, u26, u27, u28, u29, u30, u31, u32, u33, u34, undef, undef, undef, undef, undef, undef, undef, undef, undef, undef, undef], defers := [] } ∧ (Blk W B2 G 25 ∧ Blk W B3 C 55 ∧ Below w.heap.size w W) ∧ Blk W P6 zC 55 ∧ v6.heap.size ≤ P6 ∧ ObD (LtN w) W C6 (fO X i) ∧ Below v6.heap.size v6 W) ?_ (fun rest => ?_)
   ·rintro A W ⟨P6, C6, rfl, hS1, hP0, hgP, o6, kv⟩
    obtain ⟨W6, hr6, hP6, q6⟩ := qPz hP0 (qfz o6.size) (qoz.trans o6.size.symm) o6.one
    refine qkz (i := 11) (n := 1) rfl (by kernel_rfl) ?_
    refine qQz (ty := 55) (B := P6) (off := 0) (v := .agg C6) (d := none) (by kernel_rfl) hr6 ?_
    have hwP : w.heap.size ≤ P6 := Nat.le_trans hS.2.2.size hgP
    have hS6 : Blk W6 B2 G 25 ∧ Blk W6 B3 C 55 ∧ Below w.heap.size w W6 := ⟨hS1.1.other q6 (by have := hS.1.lt; omega), hS1.2.1.other q6 (by have := hS.2.1.lt; omega), q6.below _ _ hwP hS1.2.2⟩
    replace o6 := ob_oth o6 hwP q6
    refine ⟨hS6, ?_⟩
    refine qmz (by kernel_rfl) (fun _ _ _ _ _ h => h) hS6 [(12, none)] (l' := #[tt, tt, tt, tt, tt, tt, tt, tt, tt, tt, tt, tt, tt]) (a' := { tmps := #[.agg G, .agg C, .pointer (some ⟨B2, 0, none⟩), .pointer (some ⟨B3, 0, none⟩), u4, .int .i64 k, .pointer (some ⟨P6, 0, none⟩), .bool (fnd X i).isSome, .int .i64 k, .pointer (some ⟨B3, 5, none⟩), .slice (some ⟨b, off, none⟩) nl cl, .int .i64 nl, .bool true, u13, u14, .tuple #[.agg C6, .bool (fnd X i).isSome], .agg G, .pointer (some ⟨B3, 5, none⟩), .slice (some ⟨b, off, none⟩) nl cl, .int .i64 k, .pointer (some ⟨b, off + k, none⟩), .int .u64 i, .tuple #[.agg C6, .bool (fnd X i).isSome], .agg C6, .bool (fnd X i).isSome, u25, u26, u27, u28, u29, u30, u31, u32, u33, u34, undef, undef, undef, undef, undef, undef, undef, undef, undef, undef, undef], defers := [] }) (obs := []) (n := 0) (by kernel_rfl) (by kernel_rfl) trivial ?_
    refine wpAnyH_done (by kernel_rfl) ?_ _
    obtain ⟨hB2, hB3, hk⟩ := hS6
    clear hS hS1 hP0 hgP hr6 q6 kv
    have hpi : Hid (p i = ((fnd X i).isSome && plcB o.label (fO X i).label)) := by show p i = _; rw [hp.out]
    have hlo := fO_lab hlb i
    obtain ⟨aO, nO, cO, cx2, hLO⟩ := o6.label
    have hnO : nO < 1048576 := by rw [← hLO.1]; exact hlo.2
    have hL6 : Lab W6.heap.size W6 aO nO cO (fO X i).label := hLO.lab fun b hb => ltz hb hk.size
    have hpl := uLz (Lab.next hL0 hk) hL6 hnD hnO hol.1 hlo.1
    change Calls prog _ _ W6 fun e w' => e = .returned (.bool (plcB o.label (fO X i).label)) ∧ _ at hpl
    generalize (fnd X i).isSome = bf at hpi ⊢
    generalize plcB o.label (fO X i).label = bp at hpi hpl
    clear hL6 hLO hlo o6
    cases bf with
    | false =>
     have hz0 := hno (by rw [hpi.out]; rfl)
     go_wp2
     go_ret
     exact ⟨by rw [hz0]; rfl, hk⟩
    | true =>
     cases bp with
     | false =>
      have hz0 := hno (by rw [hpi.out]; rfl)
      go_wp2_with (first
       | (with_reducible refine qaz (by kernel_rfl) _ _ rfl B3 _ rfl _ _ hB3 _ c2 isAgg39 ?_)
       | (with_reducible refine qaz (by kernel_rfl) _ _ rfl P6 _ rfl _ _ hP6 _ cx2 isAgg39 ?_)
       | (go_at_call 75; (with_reducible refine hpl.mono ?_); rintro e w7 ⟨rfl, hb7⟩; replace hk := btz hk hb7))
      go_ret
      exact ⟨by rw [hz0]; rfl, hk⟩
     | true =>
      have hy1 := hyes (by rw [hpi.out]; rfl)
      go_wp2_with (first
       | (with_reducible refine qaz (by kernel_rfl) _ _ rfl B3 _ rfl _ _ hB3 _ c2 isAgg39 ?_)
       | (with_reducible refine qaz (by kernel_rfl) _ _ rfl P6 _ rfl _ _ hP6 _ cx2 isAgg39 ?_)
       | (go_at_call 75; (with_reducible refine hpl.mono ?_); rintro e w7 ⟨rfl, hb7⟩; replace hB2 := hB2.next hb7; replace hB3 := hB3.next hb7; replace hk := btz hk hb7))
      go_roundw
      case rel => exact ⟨k + 1, by omega, by go_num, hy1, hB2, hB3, hk⟩
      case measure => simp [intOf]; omega
   ·refine wBz (i := 6) (j := 10) (n := 6) rfl (by kernel_rfl) ?_ ?_
    ·refine quz (f := 14) (vs := [.agg G, .int .u64 i]) (d := some 22) (by kernel_rfl) call14 (hfd hS.2.2) ?_
     rintro e z1 ⟨C6, rfl, o6, hb101⟩
     have k1 := (brz v6.heap.size v6).trans (hb101.mono (brz v6.heap.size v6).size)
     have hS1 : Blk z1 B2 G 25 ∧ Blk z1 B3 C 55 ∧ Below w.heap.size w z1 := ⟨hS.1.next hb101, hS.2.1.next hb101, hS.2.2.trans (hb101.mono hS.2.2.size)⟩
     refine ⟨_, rfl, hS1, ?_⟩
     refine qXz (by kernel_rfl) (fun _ _ _ _ _ h => h) hS1 [7, 8, 9] (l' := #[tt, tt, tt, tt, tt, tt, tt, tt, tt, tt, ff, ff, ff]) (a' := { tmps := #[.agg G, .agg C, .pointer (some ⟨B2, 0, none⟩), .pointer (some ⟨B3, 0, none⟩), u4, .int .i64 k, u6, u7, .int .i64 k, .pointer (some ⟨B3, 5, none⟩), .slice (some ⟨b, off, none⟩) nl cl, .int .i64 nl, .bool true, u13, u14, .tuple #[.agg C6, .bool (fnd X i).isSome], .agg G, .pointer (some ⟨B3, 5, none⟩), .slice (some ⟨b, off, none⟩) nl cl, .int .i64 k, .pointer (some ⟨b, off + k, none⟩), .int .u64 i, .tuple #[.agg C6, .bool (fnd X i).isSome], .agg C6, .bool (fnd X i).isSome, u25, u26, u27, u28, u29, u30, u31, u32, u33, u34, undef, undef, undef, undef, undef, undef, undef, undef, undef, undef, undef], defers := [] }) (n := 3) (by kernel_rfl) (by kernel_rfl) ?_
     refine qkz (i := 10) (n := 2) rfl (by kernel_rfl) ?_
     refine qRz (ty := 55) (z := zC) (d := some 6) (by kernel_rfl) qsz ?_
     intro P6 z2 hN hP6 hb102
     have hgP : v6.heap.size ≤ P6 := by have := hN.out; have := k1.size; omega
     replace o6 := ob_lt o6 hS1.2.2 hb102
     have k2 := btz k1 hb102
     have hS2 : Blk z2 B2 G 25 ∧ Blk z2 B3 C 55 ∧ Below w.heap.size w z2 := ⟨hS1.1.next hb102, hS1.2.1.next hb102, hS1.2.2.trans (hb102.mono hS1.2.2.size)⟩
     refine ⟨hS2, ?_⟩
     exact rest _ _ ⟨P6, C6, rfl, hS2, hP6, hgP, o6, k2⟩
    ·refine qRz (ty := 55) (z := zC) (d := some 6) (by kernel_rfl) qsz ?_
     intro P6 z3 hN hP6 hb103
     have hgP : v6.heap.size ≤ P6 := by have := hN.out; have := (brz v6.heap.size v6).size; omega
     have k3 := (brz v6.heap.size v6).trans (hb103.mono (brz v6.heap.size v6).size)
     have hS3 : Blk z3 B2 G 25 ∧ Blk z3 B3 C 55 ∧ Below w.heap.size w z3 := ⟨hS.1.next hb103, hS.2.1.next hb103, hS.2.2.trans (hb103.mono hS.2.2.size)⟩
     refine ⟨hS3, ?_⟩
     refine qkz (i := 6) (n := 5) rfl (by kernel_rfl) ?_
     refine quz (f := 14) (vs := [.agg G, .int .u64 i]) (d := some 22) (by kernel_rfl) call14 (hfd hS3.2.2) ?_
     rintro e z4 ⟨C6, rfl, o6, hb104⟩
     replace hP6 := hP6.next hb104
     have k4 := btz k3 hb104
     have hS4 : Blk z4 B2 G 25 ∧ Blk z4 B3 C 55 ∧ Below w.heap.size w z4 := ⟨hS3.1.next hb104, hS3.2.1.next hb104, hS3.2.2.trans (hb104.mono hS3.2.2.size)⟩
     refine ⟨_, rfl, hS4, ?_⟩
     refine qXz (by kernel_rfl) (fun _ _ _ _ _ h => h) hS4 [7, 8, 9] (l' := #[tt, tt, tt, tt, tt, tt, tt, tt, tt, tt, tt, ff, ff]) (a' := { tmps := #[.agg G, .agg C, .pointer (some ⟨B2, 0, none⟩), .pointer (some ⟨B3, 0, none⟩), u4, .int .i64 k, .pointer (some ⟨P6, 0, none⟩), u7, .int .i64 k, .pointer (some ⟨B3, 5, none⟩), .slice (some ⟨b, off, none⟩) nl cl, .int .i64 nl, .bool true, u13, u14, .tuple #[.agg C6, .bool (fnd X i).isSome], .agg G, .pointer (some ⟨B3, 5, none⟩), .slice (some ⟨b, off, none⟩) nl cl, .int .i64 k, .pointer (some ⟨b, off + k, none⟩), .int .u64 i, .tuple #[.agg C6, .bool (fnd X i).isSome], .agg C6, .bool (fnd X i).isSome, u25, u26, u27, u28, u29, u30, u31, u32, u33, u34, undef, undef, undef, undef, undef, undef, undef, undef, undef, undef, undef], defers := [] }) (n := 2) (by kernel_rfl) (by kernel_rfl) ?_
     exact rest _ _ ⟨P6, C6, rfl, hS4, hP6, hgP, o6, k4⟩
  ·obtain rfl : k = nl := by omega
   rw [hfull] at hall
   go_wp2_with (first
    | (with_reducible refine qaz (by kernel_rfl) _ _ rfl B3 _ rfl _ _ hB3 _ c5 isAgg40 ?_))
   refine PgM.region_out (S := fun W => Blk W B2 G 25 ∧ Blk W B3 C 55 ∧ Below w.heap.size w W) hmx ⟨hB2.next (brz _ _).drew, hB3.next (brz _ _).drew, hk.trans ((brz _ _).drew.mono hk.size)⟩ (fun hS => ?_)
   generalize wr.drew = v6 at hS ⊢
   clear hB2 hB3 hk
   by_cases k2 : o.kind = 2
   ·have q1 : Hid (¬ ¬ o.kind = 2) := fun q => q k2
    refine qGz (by kernel_rfl) (fun _ _ _ _ _ h => h) hS [(0, none), (1, some (.int .i64 o.kind)), (2, some (.bool false)), (3, none), (4, some (.agg G)), (5, some (.agg C)), (7, none), (8, some (.int .i64 o.quota))] (obs := [.load 3 B3 1 (.int .i64 o.kind), .test .neq 3 (.tmp 36) (.const (.int .i64 2)) (.int .i64 o.kind) (.int .i64 2) (.bool false), .load 25 B2 0 (.agg G), .load 55 B3 0 (.agg C), .load 3 B3 3 (.int .i64 o.quota)]) (n := 4) (by kernel_rfl) (by kernel_rfl) ⟨qez (fun _ h => h.2.1) c1 isAgg3, q2z (fun _ => wjz _ _ _ _ _ _) q1, qBz (fun _ h => h.1) underlying25 (by kernel_rfl) hzw, qBz (fun _ h => h.2.1) underlying55 (by kernel_rfl) (qfz hz), qez (fun _ h => h.2.1) c3 isAgg3, trivial⟩ ?_
    refine qrz (i := 6) (fuel := 3) (f := 76) (vs := [.agg G, .agg C]) (d := some 41) (by kernel_rfl) (by kernel_rfl) (by kernel_rfl) call76 (hus _ hS.2.2) ?_
    rintro e v7 ⟨rfl, hb7⟩
    have hS2 : Blk v7 B2 G 25 ∧ Blk v7 B3 C 55 ∧ Below w.heap.size w v7 := ⟨hS.1.next hb7, hS.2.1.next hb7, hS.2.2.trans (hb7.mono hS.2.2.size)⟩
    refine ⟨_, rfl, hS2, ?_⟩
    by_cases q3 : us ≤ o.quota
    ·replace q3 : Hid (us ≤ o.quota) := q3
     refine qmz (by kernel_rfl) (fun _ _ _ _ _ h => h) hS2 [(9, some (.bool true)), (10, none), (11, none)] (l' := #[tt, tt, tt, tt, tt, tt, tt, tt, tt, tt, tt, tt]) (a' := { tmps := #[.agg G, .agg C, .pointer (some ⟨B2, 0, none⟩), .pointer (some ⟨B3, 0, none⟩), .bool true, .int .i64 k, u6, u7, .int .i64 k, .pointer (some ⟨B3, 5, none⟩), .slice al k cl, .int .i64 k, .bool false, u13, u14, u15, u16, u17, u18, u19, u20, u21, u22, u23, u24, u25, u26, u27, u28, u29, u30, u31, u32, u33, u34, .pointer (some ⟨B3, 1, none⟩), .int .i64 o.kind, .bool false, .bool false, .agg G, .agg C, .int .i64 us, .pointer (some ⟨B3, 3, none⟩), .int .i64 o.quota, .bool true, .bool true], defers := [] }) (obs := [.test .leq 3 (.tmp 41) (.tmp 43) (.int .i64 us) (.int .i64 o.quota) (.bool true)]) (n := 0) (by kernel_rfl) (by kernel_rfl) ⟨qJz (fun _ => wez _ _ _ _ _ _) q3, trivial⟩ ?_
     refine wpAnyH_done (by kernel_rfl) ?_ _
     go_wp2
     go_ret
     exact ⟨by rw [hall.out]; simp [q3.out], hS2.2.2⟩
    ·replace q3 : Hid (¬ us ≤ o.quota) := q3
     refine qmz (by kernel_rfl) (fun _ _ _ _ _ h => h) hS2 [(9, some (.bool false)), (10, none), (11, none)] (l' := #[tt, tt, tt, tt, tt, tt, tt, tt, tt, tt, tt, tt]) (a' := { tmps := #[.agg G, .agg C, .pointer (some ⟨B2, 0, none⟩), .pointer (some ⟨B3, 0, none⟩), .bool false, .int .i64 k, u6, u7, .int .i64 k, .pointer (some ⟨B3, 5, none⟩), .slice al k cl, .int .i64 k, .bool false, u13, u14, u15, u16, u17, u18, u19, u20, u21, u22, u23, u24, u25, u26, u27, u28, u29, u30, u31, u32, u33, u34, .pointer (some ⟨B3, 1, none⟩), .int .i64 o.kind, .bool false, .bool false, .agg G, .agg C, .int .i64 us, .pointer (some ⟨B3, 3, none⟩), .int .i64 o.quota, .bool false, .bool false], defers := [] }) (obs := [.test .leq 3 (.tmp 41) (.tmp 43) (.int .i64 us) (.int .i64 o.quota) (.bool false)]) (n := 0) (by kernel_rfl) (by kernel_rfl) ⟨q2z (fun _ => wez _ _ _ _ _ _) q3, trivial⟩ ?_
     refine wpAnyH_done (by kernel_rfl) ?_ _
     go_wp2
     go_ret
     exact ⟨by rw [hall.out]; simp [q3.out], hS2.2.2⟩
   ·have q1 : Hid (¬ o.kind = 2) := k2
    refine qmz (by kernel_rfl) (fun _ _ _ _ _ h => h) hS [(0, none), (1, some (.int .i64 o.kind)), (2, some (.bool true)), (3, none), (4, none), (5, none), (6, none), (7, none), (8, none), (9, none), (10, none), (11, none)] (l' := #[tt, tt, tt, tt, tt, tt, tt, tt, tt, tt, tt, tt]) (a' := { tmps := #[.agg G, .agg C, .pointer (some ⟨B2, 0, none⟩), .pointer (some ⟨B3, 0, none⟩), .bool true, .int .i64 k, u6, u7, .int .i64 k, .pointer (some ⟨B3, 5, none⟩), .slice al k cl, .int .i64 k, .bool false, u13, u14, u15, u16, u17, u18, u19, u20, u21, u22, u23, u24, u25, u26, u27, u28, u29, u30, u31, u32, u33, u34, .pointer (some ⟨B3, 1, none⟩), .int .i64 o.kind, .bool true, .bool true, undef, undef, undef, undef, undef, undef, .bool true], defers := [] }) (obs := [.load 3 B3 1 (.int .i64 o.kind), .test .neq 3 (.tmp 36) (.const (.int .i64 2)) (.int .i64 o.kind) (.int .i64 2) (.bool true)]) (n := 0) (by kernel_rfl) (by kernel_rfl) ⟨qez (fun _ h => h.2.1) c1 isAgg3, qJz (fun _ => wjz _ _ _ _ _ _) q1, trivial⟩ ?_
    refine wpAnyH_done (by kernel_rfl) ?_ _
    go_wp2
    go_ret
    exact ⟨by rw [hall.out]; simp [k2], hS.2.2⟩
end
end Go.Proofs.YtloghnpfplljgaaGreat
