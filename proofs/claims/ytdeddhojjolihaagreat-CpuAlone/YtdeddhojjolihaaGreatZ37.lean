/-
 PROVED HERE: what the document's Above returns when it is called (a contract over this translation); what the document's up. What is asked stands at each.
-/
import Derived.Test.YtdeddhojjolihaaGreatZ12
import Derived.Test.YtdeddhojjolihaaGreatZ16
import Derived.Test.YtdeddhojjolihaaGreatZ17
import Derived.Test.YtdeddhojjolihaaGreatZ18
import Derived.Test.YtdeddhojjolihaaGreatZ25
import Derived.Test.YtdeddhojjolihaaGreatZ26
import Derived.Test.YtdeddhojjolihaaGreatZ27
import Derived.Test.YtdeddhojjolihaaGreatZ29
import Derived.Test.YtdeddhojjolihaaGreatZ30
import Derived.Test.YtdeddhojjolihaaGreatZ31
import Derived.Test.YtdeddhojjolihaaGreatZ32
import Derived.Test.YtdeddhojjolihaaGreatZ34
import Derived.Test.YtdeddhojjolihaaGreatZ36
namespace Go.Proofs.YtdeddhojjolihaaGreat
set_option maxRecDepth 100000
set_option maxHeartbeats 8000000
set_option linter.unusedVariables false
open Go.Proofs.Tryz
section
open Go.RowKit Go.Shelf
attribute [local go_sem] Oper.semAt_some
theorem k4z {base : Nat} {w : World} {v : Value} {L : List Int} (h : w.ownsRow base 22 1 v L.length (qKz L)) : ∃ al cl, v = .slice al L.length cl ∧ CtD (fun b => base ≤ b ∧ b < w.heap.size) w al L.length cl L := by
 obtain ⟨ao, cap, e, h1, h2, h3, h4⟩ := RowC.of_owns h
 refine ⟨ao, cap, e, rfl, h2, h3, fun hn => ?_⟩
 obtain ⟨b, off, ea, hb, hr⟩ := h4 hn
 refine ⟨b, off, ea, hb, fun i hi => ?_⟩
 refine hr i _ ?_
 unfold qKz
 rw [List.getElem?_map, List.getElem?_eq_getElem hi, List.getD_eq_getElem?_getD, List.getElem?_eq_getElem hi]
 rfl
theorem own_base {W : World} {b b' : Nat} {e : TypeId} {size : Nat} {v : Value} {k : Nat} {xs : List Value} (hb : b' ≤ b) (h : W.ownsRow b e size v k xs) : W.ownsRow b' e size v k xs := by
 refine ⟨h.1, ?_⟩
 rcases h.2 with q | ⟨g, c, cur, q1, q2, q3⟩
 ·exact .inl q
 ·exact .inr ⟨g, c, cur, q1, Nat.le_trans hb q2, q3⟩
variable {X : List Ob}
theorem abv_step {m : Nat} {j h : Int} {r : List Int} (e : holL X j = h :: r) : abvL X (m + 1) j = h :: abvL X m h := by
 conv => lhs; unfold abvL
 rw [e]
theorem abv_stop {m : Nat} {j : Int} (e : holL X j = []) : abvL X m j = [] := by
 cases m with
 | zero => rfl
 | succ m => unfold abvL; rw [e]
theorem rabove_w {w : World} {t ke ro : Int} {ao : Option Addr} {n cap : Nat} {i : Int} (h : Obs w ao n cap X) (hn16 : n ≤ 4096) : Calls prog 100 #[.agg #[.int .i64 t, .int .u64 ke, .int .u64 ro, .slice ao n cap], .int .u64 i] w fun e w' => ∃ v, e = .returned v ∧ w'.ownsRow w.heap.size 22 1 v (rabv X i).length (qKz (rabv X i)) ∧ Below w.heap.size w w' := by
 have hn : Hid (X.length = n) := h.1
 have ga1 := isAgg22
 have ga3 := isAgg23
 have c3 : (#[.int .i64 t, .int .u64 ke, .int .u64 ro, .slice ao n cap] : Array Value)[3]? = some (.slice ao n cap) := rfl
 have hzw : (prog.info? 25).map (·.size) = some (#[.int .i64 t, .int .u64 ke, .int .u64 ro, .slice ao n cap] : Array Value).size := by kernel_rfl
 have hho := fun (W : World) (i : Int) (hk : Below w.heap.size w W) => x1z (t := t) (ke := ke) (ro := ro) (i := i) (quz h hk) hn16
 obtain ⟨G, hG⟩ : ∃ G : Array Value, G = #[.int .i64 t, .int .u64 ke, .int .u64 ro, .slice ao n cap] := ⟨_, rfl⟩
 rw [← hG] at c3 hzw hho
 rw [← hG]
 clear hG
 obtain ⟨A, hA⟩ : ∃ A, Hid (A = abvL X (n + 1) i) := ⟨_, rfl⟩
 obtain ⟨RV, hRV⟩ : ∃ RV, Hid (rabv X i = RV) := ⟨_, rfl⟩
 have hrv : Hid (RV = if A.length ≤ n then A else []) := by show RV = _; rw [← hRV.out]; unfold rabv; rw [hn.out, hA.out]
 rw [hRV.out]
 go_enter func100, ntmps100
 go_wp2_with (first
  | (with_reducible refine qdz rfl 25 _ rfl G rfl ?_; intro B2 W2 hN2 hB2 hk0))
 have hs0 := hk0.size
 clear hN2
 go_loopw [1, 5] (fun vi vo wr => ∃ (j : Int) (pre : List Int), vi = .int .u64 j ∧ pre.length ≤ n + 1 ∧ wr.ownsRow W2.heap.size 22 1 vo pre.length (qKz pre) ∧ Hid (pre ++ abvL X (n + 1 - pre.length) j = A) ∧ Below W2.heap.size W2 wr) (fun _ vo _ => match vo with | .slice _ k _ => n + 1 - k | _ => 0)
 case atStart => exact ⟨i, [], rfl, Nat.zero_le _, World.ownsRow_nil _ _ _ _, hA.out.symm, Below.refl _ _⟩
 case round =>
  obtain ⟨j, pre, rfl, hpl, hown, hpa, hk2⟩ := hrel
  replace hB2 := hB2.next hk2
  have hk := hk0.trans (hk2.mono hs0)
  obtain ⟨al, cl, rfl, hct⟩ := k4z hown
  by_cases hle : pre.length ≤ n
  ·have hle' : ((pre.length : Nat) : Int) ≤ n := by omega
   obtain ⟨m, hm⟩ : ∃ m, Hid (n + 1 - pre.length = m + 1) := ⟨n - pre.length, by show _ = _; omega⟩
   rw [hm.out] at hpa
   have hhj := hho wr j hk
   cases hj : holL X j with
   | nil =>
    rw [hj] at hhj
    have hA2 : Hid (A = pre) := by show A = pre; rw [← hpa.out, abv_stop hj, List.append_nil]
    go_wp2_with (first
     | (with_reducible refine qaz (by kernel_rfl) _ _ rfl B2 _ rfl _ _ hB2 _ c3 ga3 ?_)
     | (with_reducible refine qez (by kernel_rfl) _ _ rfl B2 rfl G hB2 _ underlying25 (by kernel_rfl) hzw ?_)
     | (go_at_call 57; (with_reducible refine hhj.mono ?_); rintro e w1 ⟨v, rfl, hown1, hb1⟩; obtain ⟨al1, cl1, rfl, hct1⟩ := k4z hown1; replace hk := btz hk hb1; have hown2 := xlz hown hb1))
    go_ret
    refine ⟨_, rfl, ?_, hk⟩
    have e : RV = pre := by rw [hrv.out, hA2.out, if_pos hle]
    rw [e]
    exact own_base hs0 hown2
   | cons a r =>
    rw [hj] at hhj
    have hst := abv_step (m := m) hj
    go_wp2_with (first
     | (with_reducible refine qaz (by kernel_rfl) _ _ rfl B2 _ rfl _ _ hB2 _ c3 ga3 ?_)
     | (with_reducible refine qez (by kernel_rfl) _ _ rfl B2 rfl G hB2 _ underlying25 (by kernel_rfl) hzw ?_)
     | (go_at_call 57; (with_reducible refine hhj.mono ?_); rintro e w1 ⟨v, rfl, hown1, hb1⟩; obtain ⟨al1, cl1, rfl, hct1⟩ := k4z hown1; obtain ⟨b1, off1, rfl, hbb1, hc1⟩ := jCz hct1 (i := 0) (by simp); have hB2' := hB2.next hb1; have hk1 := btz hk hb1; have hown2 := xlz hown hb1; have hlr : (0 : Int) < ((a :: r).length : Nat) := (by simp only [List.length_cons]; omega); have hlz : ((((a :: r).length : Nat) : Int) == 0) = false := (by rw [beq_eq_false_iff_ne]; omega); simp only [List.getD_cons_zero] at hc1)
     | (with_reducible refine wjz (by kernel_rfl) _ _ rfl b1 _ rfl _ hc1 ga1 ?_)
     | ((with_reducible refine kVz rfl _ rfl a rfl ?_); intro Bq W8 hBq hbq hk8; have hown8 := xlz hown2 hk8)
     | (at_builtin; refine qOz infoW underlying35 rfl (by omega) rfl _ _ rfl W2.heap.size _ _ _ rfl hown8 _ _ _ _ [.int .u64 a] rfl (v1z hbq) (fun u hu => by rw [List.mem_singleton] at hu; rw [hu]; rfl) (by unfold maxLen; omega) (by omega) (Nat.le_trans hk2.size (Nat.le_trans hb1.size hk8.size)) ?_; intro v' w2 hown' hgrow))
    go_roundw
    case rel =>
     have hk8' : Below W2.heap.size W2 W8 := (btz hk2 hb1).trans (hk8.mono (Nat.le_trans hk2.size hb1.size))
     have hb2 : Below W2.heap.size W2 w2 := hk8'.grown hgrow hk8'.size (uFz hown8)
     refine ⟨a, pre ++ [a], rfl, by simp; omega, ?_, ?_, hb2⟩
     ·have e : qKz (pre ++ [a]) = qKz pre ++ [.int .u64 a] := by simp [qKz]
      rw [e, List.length_append]
      exact hown'
     ·show pre ++ [a] ++ abvL X (n + 1 - (pre ++ [a]).length) a = A
      have e : n + 1 - (pre ++ [a]).length = m := by have := hm.out; simp; omega
      rw [e, ← hpa.out, hst, List.append_assoc]
      rfl
    case measure =>
     obtain ⟨al9, cl9, rfl, _⟩ := RowC.of_owns hown'
     simp only []
     omega
  ·have hle' : ¬ ((pre.length : Nat) : Int) ≤ n := by omega
   have hpn : Hid (pre.length = n + 1) := by show _ = _; omega
   have hA2 : Hid (A = pre) := by show A = pre; rw [← hpa.out, hpn.out, Nat.sub_self]; unfold abvL; rw [List.append_nil]
   go_wp2_with (first
    | (with_reducible refine qaz (by kernel_rfl) _ _ rfl B2 _ rfl _ _ hB2 _ c3 ga3 ?_))
   go_ret
   refine ⟨_, rfl, ?_, hk⟩
   have e : RV = [] := by rw [hrv.out, hA2.out, if_neg hle]
   rw [e]
   exact World.ownsRow_nil _ _ _ _
end
section
open Go.RowKit Go.Shelf
attribute [local go_sem] Oper.semAt_some
def AtW (v W : World) : Prop := W = v
theorem AtW.blk {v W : World} {B : Nat} {C : Array Value} {t : TypeId} (h : AtW v W) (k : Blk v B C t) : Blk W B C t := by
 unfold AtW at h
 rw [h]
 exact k
theorem AtW.cel {v W : World} {p : Addr} {x : Value} (h : AtW v W) (k : v.cell? p = some x) : W.cell? p = some x := by
 unfold AtW at h
 rw [h]
 exact k
theorem w7z {S : World → Prop} {ao : Option Addr} {n cap : Nat} : Obl.holds prog S (.ln 35 3 (.slice ao n cap) (.int .i64 n)) := fun w hS => by
 go_simp
theorem uWz (L : List Int) : L.getLast?.getD 0 = L.getD (L.length - 1) 0 := by
 rw [List.getLast?_eq_getElem?, List.getD_eq_getElem?_getD]
theorem rup_w {w : World} {t ke ro : Int} {ao : Option Addr} {n cap : Nat} {X : List Ob} {i : Int} (h : Obs w ao n cap X) (hn16 : n ≤ 4096) : Calls prog 58 #[.agg #[.int .i64 t, .int .u64 ke, .int .u64 ro, .slice ao n cap], .int .u64 i] w fun e w' => e = .returned (.bool (upB X ro i)) ∧ Below w.heap.size w w' := by
 have hmx : prog.follows .mixedOrders = true := by kernel_rfl
 have g2 : (#[.int .i64 t, .int .u64 ke, .int .u64 ro, .slice ao n cap] : Array Value)[2]? = some (.int .u64 ro) := rfl
 have hzw : (prog.info? 25).map (·.size) = some (#[.int .i64 t, .int .u64 ke, .int .u64 ro, .slice ao n cap] : Array Value).size := by kernel_rfl
 have hab := fun (W : World) (hk : Below w.heap.size w W) => rabove_w (t := t) (ke := ke) (ro := ro) (i := i) (quz h hk) hn16
 have hlen : (rabv X i).length ≤ 4096 := by
  have hl : X.length = n := h.1
  unfold rabv
  split
  ·omega
  ·exact Nat.zero_le _
 have hU : Hid (upB X ro i = ((decide (i = ro) && decide ((rabv X i).length = 0)) || (decide (0 < (rabv X i).length) && decide ((rabv X i).getD ((rabv X i).length - 1) 0 = ro)))) := by
  show upB X ro i = _
  unfold upB
  rw [uWz]
 rw [hU.out]
 generalize rabv X i = L at hab hlen
 obtain ⟨G, hG⟩ : ∃ G : Array Value, G = #[.int .i64 t, .int .u64 ke, .int .u64 ro, .slice ao n cap] := ⟨_, rfl⟩
 rw [← hG] at g2 hzw hab
 rw [← hG]
 clear hG
 go_enter func58, ntmps58
 go_wp2_with (first
  | (with_reducible refine qdz rfl 25 _ rfl G rfl ?_; intro B2 W2 hN2 hB2 hk)
  | (with_reducible refine qez (by kernel_rfl) _ _ rfl B2 rfl G hB2 _ underlying25 (by kernel_rfl) hzw ?_)
  | (go_at_call 100; (with_reducible refine (hab _ hk).mono ?_); rintro e w1 ⟨v, rfl, hown, hb1⟩; replace hB2 := hB2.next hb1; replace hk := btz hk hb1; obtain ⟨al, cl, rfl, hct⟩ := k4z hown))
 clear hN2
 have hkd := (Below.refl w1.heap.size w1).drew
 refine PgM.region_out (S := AtW w1.drew) hmx rfl (fun hS => ?_)
 replace hB2 := hB2.next hkd
 replace hk := btz hk hkd
 have hct2 := hct.laterK fun b hb => hkd.block b hb.2
 clear hct hown
 generalize w1.drew = W5 at hS hB2 hk hct2 ⊢
 clear hkd hb1
 by_cases q2 : L.length = 0
 ·replace q2 : Hid (L.length = 0) := q2
  have q2i : Hid ((L.length : Int) = 0) := by show _ = _; have := q2.out; omega
  have q2p : Hid (¬ (0 : Int) < (L.length : Int)) := by refine (?_ : ¬ (0 : Int) < (L.length : Int)); have := q2.out; omega
  by_cases q1 : i = ro
  ·replace q1 : Hid (i = ro) := q1
   refine qlz (by kernel_rfl) (fun _ _ _ _ _ h => h) hS [(0, none), (1, none), (2, some (.int .u64 ro)), (3, some (.bool true)), (4, none), (5, none), (6, some (.int .i64 L.length)), (7, some (.bool true)), (8, none), (9, none), (10, none), (11, none), (12, none), (13, none), (14, none), (15, none), (16, none), (17, none), (18, none), (19, none), (20, none), (21, none), (22, none), (23, none), (24, none), (25, none)] (l' := #[tt, tt, tt, tt, tt, tt, tt, tt, tt, tt, tt, tt, tt, tt, tt, tt, tt, tt, tt, tt, tt, tt, tt, tt, tt, tt]) (a' := { tmps := #[.agg G, .int .u64 i, .pointer (some ⟨B2, 0, none⟩), undef, .bool true, .slice al L.length cl, .agg G, .int .u64 i, .slice al L.length cl, .int .u64 i, .pointer (some ⟨B2, 2, none⟩), .int .u64 ro, .bool true, .bool true, .slice al L.length cl, .int .i64 L.length, .bool true, .bool true, .bool true, ud, ud, ud, ud, ud, ud, ud, ud, ud, ud, ud, ud, ud, undef, .bool true], defers := [] }) (obs := [.load 22 B2 2 (.int .u64 ro), .test .eql 22 (.tmp 9) (.tmp 11) (.int .u64 i) (.int .u64 ro) (.bool true), .ln 35 3 (.slice al L.length cl) (.int .i64 L.length), .test .eql 3 (.tmp 15) (.const (.int .i64 0)) (.int .i64 L.length) (.int .i64 0) (.bool true)]) (n := 0) (by kernel_rfl) (by kernel_rfl) ⟨qgz (fun _ e => AtW.blk e hB2) g2 isAgg22, q0z (fun _ => qEz _ _ _ _ _ _) q1, w7z, q0z (fun _ => qEz _ _ _ _ _ _) q2i, trivial⟩ ?_
   refine wpAnyH_done (by kernel_rfl) ?_ _
   go_wp2
   go_ret
   exact ⟨by rw [List.eq_nil_of_length_eq_zero q2.out]; simp [q1.out], hk⟩
  ·replace q1 : Hid (¬ i = ro) := q1
   refine qlz (by kernel_rfl) (fun _ _ _ _ _ h => h) hS [(0, none), (1, none), (2, some (.int .u64 ro)), (3, some (.bool false)), (4, none), (5, none), (6, none), (7, none), (8, none), (9, none), (10, none), (11, some (.int .i64 L.length)), (12, some (.bool false)), (13, none), (14, none), (15, none), (16, none), (17, none), (18, none), (19, none), (20, none), (21, none), (22, none), (23, none), (24, none), (25, none)] (l' := #[tt, tt, tt, tt, tt, tt, tt, tt, tt, tt, tt, tt, tt, tt, tt, tt, tt, tt, tt, tt, tt, tt, tt, tt, tt, tt]) (a' := { tmps := #[.agg G, .int .u64 i, .pointer (some ⟨B2, 0, none⟩), undef, .bool false, .slice al L.length cl, .agg G, .int .u64 i, .slice al L.length cl, .int .u64 i, .pointer (some ⟨B2, 2, none⟩), .int .u64 ro, .bool false, .bool false, ud, ud, undef, .bool false, .bool false, .slice al L.length cl, .int .i64 L.length, .bool false, .bool false, ud, ud, ud, ud, ud, ud, ud, ud, undef, .bool false, .bool false], defers := [] }) (obs := [.load 22 B2 2 (.int .u64 ro), .test .eql 22 (.tmp 9) (.tmp 11) (.int .u64 i) (.int .u64 ro) (.bool false), .ln 35 3 (.slice al L.length cl) (.int .i64 L.length), .test .gtr 3 (.tmp 20) (.const (.int .i64 0)) (.int .i64 L.length) (.int .i64 0) (.bool false)]) (n := 0) (by kernel_rfl) (by kernel_rfl) ⟨qgz (fun _ e => AtW.blk e hB2) g2 isAgg22, wKz (fun _ => qEz _ _ _ _ _ _) q1, w7z, wKz (fun _ => qNz _ _ _ _ _ _) q2p, trivial⟩ ?_
   refine wpAnyH_done (by kernel_rfl) ?_ _
   go_wp2
   go_ret
   exact ⟨by rw [List.eq_nil_of_length_eq_zero q2.out]; simp [q1.out], hk⟩
 ·replace q2 : Hid (¬ L.length = 0) := q2
  obtain ⟨m, hm⟩ : ∃ m, Hid (L.length = m + 1) := ⟨L.length - 1, by show _ = _; have := q2.out; omega⟩
  have hm2 : m < L.length := by have := hm.out; omega
  have hms : IntKind.i64.wrap ((L.length : Int) - 1) = (m : Int) := by rw [IntKind.wrap_i64]; have := hm.out; omega
  have q2i : Hid (¬ (L.length : Int) = 0) := by refine (?_ : ¬ (L.length : Int) = 0); have := q2.out; omega
  have q2p : Hid ((0 : Int) < (L.length : Int)) := by refine (?_ : (0 : Int) < (L.length : Int)); have := q2.out; omega
  obtain ⟨b, off, rfl, hbb, hc⟩ := jCz hct2 hm2
  have hlz : L.getD (L.length - 1) 0 = L.getD m 0 := by rw [hm.out]; rfl
  generalize L.getD m 0 = z at hc hlz
  have q2q : 0 < L.length := by omega
  by_cases q1 : i = ro
  ·replace q1 : Hid (i = ro) := q1
   by_cases q3 : z = ro
   ·replace q3 : Hid (z = ro) := q3
    refine qlz (by kernel_rfl) (fun _ _ _ _ _ h => h) hS [(0, none), (1, none), (2, some (.int .u64 ro)), (3, some (.bool true)), (4, none), (5, none), (6, some (.int .i64 L.length)), (7, some (.bool false)), (8, none), (9, none), (10, none), (11, some (.int .i64 L.length)), (12, some (.bool true)), (13, none), (14, none), (15, none), (16, some (.int .i64 L.length)), (17, some (.int .i64 m)), (18, some (.pointer (some ⟨b, off + m, none⟩))), (19, some (.int .u64 z)), (20, none), (21, some (.int .u64 ro)), (22, some (.bool true)), (23, none), (24, none), (25, none)] (l' := #[tt, tt, tt, tt, tt, tt, tt, tt, tt, tt, tt, tt, tt, tt, tt, tt, tt, tt, tt, tt, tt, tt, tt, tt, tt, tt]) (a' := { tmps := #[.agg G, .int .u64 i, .pointer (some ⟨B2, 0, none⟩), undef, .bool true, .slice (some ⟨b, off, none⟩) L.length cl, .agg G, .int .u64 i, .slice (some ⟨b, off, none⟩) L.length cl, .int .u64 i, .pointer (some ⟨B2, 2, none⟩), .int .u64 ro, .bool true, .bool true, .slice (some ⟨b, off, none⟩) L.length cl, .int .i64 L.length, .bool false, .bool false, .bool false, .slice (some ⟨b, off, none⟩) L.length cl, .int .i64 L.length, .bool true, .bool true, .slice (some ⟨b, off, none⟩) L.length cl, .slice (some ⟨b, off, none⟩) L.length cl, .int .i64 L.length, .int .i64 m, .pointer (some ⟨b, off + m, none⟩), .int .u64 z, .pointer (some ⟨B2, 2, none⟩), .int .u64 ro, .bool true, .bool true, .bool true], defers := [] }) (obs := [.load 22 B2 2 (.int .u64 ro), .test .eql 22 (.tmp 9) (.tmp 11) (.int .u64 i) (.int .u64 ro) (.bool true), .ln 35 3 (.slice (some ⟨b, off, none⟩) L.length cl) (.int .i64 L.length), .test .eql 3 (.tmp 15) (.const (.int .i64 0)) (.int .i64 L.length) (.int .i64 0) (.bool false), .ln 35 3 (.slice (some ⟨b, off, none⟩) L.length cl) (.int .i64 L.length), .test .gtr 3 (.tmp 20) (.const (.int .i64 0)) (.int .i64 L.length) (.int .i64 0) (.bool true), .ln 35 3 (.slice (some ⟨b, off, none⟩) L.length cl) (.int .i64 L.length), .test .sub 3 (.tmp 25) (.const (.int .i64 1)) (.int .i64 L.length) (.int .i64 1) (.int .i64 m), .ia 35 (.slice (some ⟨b, off, none⟩) L.length cl) (.int .i64 m) (.pointer (some ⟨b, off + m, none⟩)), .load 22 b (off + m) (.int .u64 z), .load 22 B2 2 (.int .u64 ro), .test .eql 22 (.tmp 28) (.tmp 30) (.int .u64 z) (.int .u64 ro) (.bool true)]) (n := 0) (by kernel_rfl) (by kernel_rfl) ⟨qgz (fun _ e => AtW.blk e hB2) g2 isAgg22, q0z (fun _ => qEz _ _ _ _ _ _) q1, w7z, wKz (fun _ => qEz _ _ _ _ _ _) q2i, w7z, q0z (fun _ => qNz _ _ _ _ _ _) q2p, w7z, kYz hm hms, k8z hm2, xAz (fun _ e => AtW.cel e hc) isAgg22, qgz (fun _ e => AtW.blk e hB2) g2 isAgg22, q0z (fun _ => qEz _ _ _ _ _ _) q3, trivial⟩ ?_
    refine wpAnyH_done (by kernel_rfl) ?_ _
    go_wp2
    go_ret
    exact ⟨by rw [hlz]; simp [q1.out, q2.out, q2q, q3.out], hk⟩
   ·replace q3 : Hid (¬ z = ro) := q3
    refine qlz (by kernel_rfl) (fun _ _ _ _ _ h => h) hS [(0, none), (1, none), (2, some (.int .u64 ro)), (3, some (.bool true)), (4, none), (5, none), (6, some (.int .i64 L.length)), (7, some (.bool false)), (8, none), (9, none), (10, none), (11, some (.int .i64 L.length)), (12, some (.bool true)), (13, none), (14, none), (15, none), (16, some (.int .i64 L.length)), (17, some (.int .i64 m)), (18, some (.pointer (some ⟨b, off + m, none⟩))), (19, some (.int .u64 z)), (20, none), (21, some (.int .u64 ro)), (22, some (.bool false)), (23, none), (24, none), (25, none)] (l' := #[tt, tt, tt, tt, tt, tt, tt, tt, tt, tt, tt, tt, tt, tt, tt, tt, tt, tt, tt, tt, tt, tt, tt, tt, tt, tt]) (a' := { tmps := #[.agg G, .int .u64 i, .pointer (some ⟨B2, 0, none⟩), undef, .bool false, .slice (some ⟨b, off, none⟩) L.length cl, .agg G, .int .u64 i, .slice (some ⟨b, off, none⟩) L.length cl, .int .u64 i, .pointer (some ⟨B2, 2, none⟩), .int .u64 ro, .bool true, .bool true, .slice (some ⟨b, off, none⟩) L.length cl, .int .i64 L.length, .bool false, .bool false, .bool false, .slice (some ⟨b, off, none⟩) L.length cl, .int .i64 L.length, .bool true, .bool true, .slice (some ⟨b, off, none⟩) L.length cl, .slice (some ⟨b, off, none⟩) L.length cl, .int .i64 L.length, .int .i64 m, .pointer (some ⟨b, off + m, none⟩), .int .u64 z, .pointer (some ⟨B2, 2, none⟩), .int .u64 ro, .bool false, .bool false, .bool false], defers := [] }) (obs := [.load 22 B2 2 (.int .u64 ro), .test .eql 22 (.tmp 9) (.tmp 11) (.int .u64 i) (.int .u64 ro) (.bool true), .ln 35 3 (.slice (some ⟨b, off, none⟩) L.length cl) (.int .i64 L.length), .test .eql 3 (.tmp 15) (.const (.int .i64 0)) (.int .i64 L.length) (.int .i64 0) (.bool false), .ln 35 3 (.slice (some ⟨b, off, none⟩) L.length cl) (.int .i64 L.length), .test .gtr 3 (.tmp 20) (.const (.int .i64 0)) (.int .i64 L.length) (.int .i64 0) (.bool true), .ln 35 3 (.slice (some ⟨b, off, none⟩) L.length cl) (.int .i64 L.length), .test .sub 3 (.tmp 25) (.const (.int .i64 1)) (.int .i64 L.length) (.int .i64 1) (.int .i64 m), .ia 35 (.slice (some ⟨b, off, none⟩) L.length cl) (.int .i64 m) (.pointer (some ⟨b, off + m, none⟩)), .load 22 b (off + m) (.int .u64 z), .load 22 B2 2 (.int .u64 ro), .test .eql 22 (.tmp 28) (.tmp 30) (.int .u64 z) (.int .u64 ro) (.bool false)]) (n := 0) (by kernel_rfl) (by kernel_rfl) ⟨qgz (fun _ e => AtW.blk e hB2) g2 isAgg22, q0z (fun _ => qEz _ _ _ _ _ _) q1, w7z, wKz (fun _ => qEz _ _ _ _ _ _) q2i, w7z, q0z (fun _ => qNz _ _ _ _ _ _) q2p, w7z, kYz hm hms, k8z hm2, xAz (fun _ e => AtW.cel e hc) isAgg22, qgz (fun _ e => AtW.blk e hB2) g2 isAgg22, wKz (fun _ => qEz _ _ _ _ _ _) q3, trivial⟩ ?_
    refine wpAnyH_done (by kernel_rfl) ?_ _
    go_wp2
    go_ret
    exact ⟨by rw [hlz]; simp [q1.out, q2.out, q2q, q3.out], hk⟩
  ·replace q1 : Hid (¬ i = ro) := q1
   by_cases q3 : z = ro
   ·replace q3 : Hid (z = ro) := q3
    refine qlz (by kernel_rfl) (fun _ _ _ _ _ h => h) hS [(0, none), (1, none), (2, some (.int .u64 ro)), (3, some (.bool false)), (4, none), (5, none), (6, none), (7, none), (8, none), (9, none), (10, none), (11, some (.int .i64 L.length)), (12, some (.bool true)), (13, none), (14, none), (15, none), (16, some (.int .i64 L.length)), (17, some (.int .i64 m)), (18, some (.pointer (some ⟨b, off + m, none⟩))), (19, some (.int .u64 z)), (20, none), (21, some (.int .u64 ro)), (22, some (.bool true)), (23, none), (24, none), (25, none)] (l' := #[tt, tt, tt, tt, tt, tt, tt, tt, tt, tt, tt, tt, tt, tt, tt, tt, tt, tt, tt, tt, tt, tt, tt, tt, tt, tt]) (a' := { tmps := #[.agg G, .int .u64 i, .pointer (some ⟨B2, 0, none⟩), undef, .bool true, .slice (some ⟨b, off, none⟩) L.length cl, .agg G, .int .u64 i, .slice (some ⟨b, off, none⟩) L.length cl, .int .u64 i, .pointer (some ⟨B2, 2, none⟩), .int .u64 ro, .bool false, .bool false, ud, ud, undef, .bool false, .bool false, .slice (some ⟨b, off, none⟩) L.length cl, .int .i64 L.length, .bool true, .bool true, .slice (some ⟨b, off, none⟩) L.length cl, .slice (some ⟨b, off, none⟩) L.length cl, .int .i64 L.length, .int .i64 m, .pointer (some ⟨b, off + m, none⟩), .int .u64 z, .pointer (some ⟨B2, 2, none⟩), .int .u64 ro, .bool true, .bool true, .bool true], defers := [] }) (obs := [.load 22 B2 2 (.int .u64 ro), .test .eql 22 (.tmp 9) (.tmp 11) (.int .u64 i) (.int .u64 ro) (.bool false), .ln 35 3 (.slice (some ⟨b, off, none⟩) L.length cl) (.int .i64 L.length), .test .gtr 3 (.tmp 20) (.const (.int .i64 0)) (.int .i64 L.length) (.int .i64 0) (.bool true), .ln 35 3 (.slice (some ⟨b, off, none⟩) L.length cl) (.int .i64 L.length), .test .sub 3 (.tmp 25) (.const (.int .i64 1)) (.int .i64 L.length) (.int .i64 1) (.int .i64 m), .ia 35 (.slice (some ⟨b, off, none⟩) L.length cl) (.int .i64 m) (.pointer (some ⟨b, off + m, none⟩)), .load 22 b (off + m) (.int .u64 z), .load 22 B2 2 (.int .u64 ro), .test .eql 22 (.tmp 28) (.tmp 30) (.int .u64 z) (.int .u64 ro) (.bool true)]) (n := 0) (by kernel_rfl) (by kernel_rfl) ⟨qgz (fun _ e => AtW.blk e hB2) g2 isAgg22, wKz (fun _ => qEz _ _ _ _ _ _) q1, w7z, q0z (fun _ => qNz _ _ _ _ _ _) q2p, w7z, kYz hm hms, k8z hm2, xAz (fun _ e => AtW.cel e hc) isAgg22, qgz (fun _ e => AtW.blk e hB2) g2 isAgg22, q0z (fun _ => qEz _ _ _ _ _ _) q3, trivial⟩ ?_
    refine wpAnyH_done (by kernel_rfl) ?_ _
    go_wp2
    go_ret
    exact ⟨by rw [hlz]; simp [q1.out, q2.out, q2q, q3.out], hk⟩
   ·replace q3 : Hid (¬ z = ro) := q3
    refine qlz (by kernel_rfl) (fun _ _ _ _ _ h => h) hS [(0, none), (1, none), (2, some (.int .u64 ro)), (3, some (.bool false)), (4, none), (5, none), (6, none), (7, none), (8, none), (9, none), (10, none), (11, some (.int .i64 L.length)), (12, some (.bool true)), (13, none), (14, none), (15, none), (16, some (.int .i64 L.length)), (17, some (.int .i64 m)), (18, some (.pointer (some ⟨b, off + m, none⟩))), (19, some (.int .u64 z)), (20, none), (21, some (.int .u64 ro)), (22, some (.bool false)), (23, none), (24, none), (25, none)] (l' := #[tt, tt, tt, tt, tt, tt, tt, tt, tt, tt, tt, tt, tt, tt, tt, tt, tt, tt, tt, tt, tt, tt, tt, tt, tt, tt]) (a' := { tmps := #[.agg G, .int .u64 i, .pointer (some ⟨B2, 0, none⟩), undef, .bool false, .slice (some ⟨b, off, none⟩) L.length cl, .agg G, .int .u64 i, .slice (some ⟨b, off, none⟩) L.length cl, .int .u64 i, .pointer (some ⟨B2, 2, none⟩), .int .u64 ro, .bool false, .bool false, ud, ud, undef, .bool false, .bool false, .slice (some ⟨b, off, none⟩) L.length cl, .int .i64 L.length, .bool true, .bool true, .slice (some ⟨b, off, none⟩) L.length cl, .slice (some ⟨b, off, none⟩) L.length cl, .int .i64 L.length, .int .i64 m, .pointer (some ⟨b, off + m, none⟩), .int .u64 z, .pointer (some ⟨B2, 2, none⟩), .int .u64 ro, .bool false, .bool false, .bool false], defers := [] }) (obs := [.load 22 B2 2 (.int .u64 ro), .test .eql 22 (.tmp 9) (.tmp 11) (.int .u64 i) (.int .u64 ro) (.bool false), .ln 35 3 (.slice (some ⟨b, off, none⟩) L.length cl) (.int .i64 L.length), .test .gtr 3 (.tmp 20) (.const (.int .i64 0)) (.int .i64 L.length) (.int .i64 0) (.bool true), .ln 35 3 (.slice (some ⟨b, off, none⟩) L.length cl) (.int .i64 L.length), .test .sub 3 (.tmp 25) (.const (.int .i64 1)) (.int .i64 L.length) (.int .i64 1) (.int .i64 m), .ia 35 (.slice (some ⟨b, off, none⟩) L.length cl) (.int .i64 m) (.pointer (some ⟨b, off + m, none⟩)), .load 22 b (off + m) (.int .u64 z), .load 22 B2 2 (.int .u64 ro), .test .eql 22 (.tmp 28) (.tmp 30) (.int .u64 z) (.int .u64 ro) (.bool false)]) (n := 0) (by kernel_rfl) (by kernel_rfl) ⟨qgz (fun _ e => AtW.blk e hB2) g2 isAgg22, wKz (fun _ => qEz _ _ _ _ _ _) q1, w7z, q0z (fun _ => qNz _ _ _ _ _ _) q2p, w7z, kYz hm hms, k8z hm2, xAz (fun _ e => AtW.cel e hc) isAgg22, qgz (fun _ e => AtW.blk e hB2) g2 isAgg22, wKz (fun _ => qEz _ _ _ _ _ _) q3, trivial⟩ ?_
    refine wpAnyH_done (by kernel_rfl) ?_ _
    go_wp2
    go_ret
    exact ⟨by rw [hlz]; simp [q1.out, q2.out, q2q, q3.out], hk⟩
end
section
open Go.RowKit Go.Shelf
attribute [local go_sem] Oper.semAt_some
theorem uqz {w : World} {t ke ro : Int} {ao : Option Addr} {n cap : Nat} {X : List Ob} {C : Array Value} {o : Ob} (h : Obs w ao n cap X) (hn16 : n ≤ 4096) (ho : ObD (LtN w) w C o) : Calls prog 30 #[.agg #[.int .i64 t, .int .u64 ke, .int .u64 ro, .slice ao n cap], .agg C] w fun e w' => e = .returned (.bool (plaB X ro o)) ∧ Below w.heap.size w w' := by
 have g2 : (#[.int .i64 t, .int .u64 ke, .int .u64 ro, .slice ao n cap] : Array Value)[2]? = some (.int .u64 ro) := rfl
 have hzw : (prog.info? 25).map (·.size) = some (#[.int .i64 t, .int .u64 ke, .int .u64 ro, .slice ao n cap] : Array Value).size := by kernel_rfl
 have hho := fun (W : World) (hk : Below w.heap.size w W) => x1z (t := t) (ke := ke) (ro := ro) (i := o.id) (quz h hk) hn16
 have hup := fun (W : World) (hk : Below w.heap.size w W) => rup_w (t := t) (ke := ke) (ro := ro) (i := o.id) (quz h hk) hn16
 have c0 := ho.id
 have c1 := ho.kind
 have c3 := ho.quota
 have c4 := ho.fixed
 have hP : Hid (plaB X ro o = if o.id = ro then decide ((holL X o.id).length = 0) && (decide (o.kind = 2) && decide (o.quota ≤ 1024)) else (decide (1 ≤ (holL X o.id).length) && !(decide (1 < (holL X o.id).length) && (!o.fixed || (decide (o.kind = 2) || decide (o.kind = 4))))) && (!decide (o.kind = 2) || upB X ro o.id)) := rfl
 rw [hP.out]
 clear hP
 obtain ⟨G, hG⟩ : ∃ G : Array Value, G = #[.int .i64 t, .int .u64 ke, .int .u64 ro, .slice ao n cap] := ⟨_, rfl⟩
 rw [← hG] at g2 hzw hho hup
 rw [← hG]
 clear hG ho
 obtain ⟨m, hm⟩ : ∃ m, Hid ((holL X o.id).length = m) := ⟨_, rfl⟩
 rw [hm.out]
 generalize holL X o.id = L at hho hm
 generalize upB X ro o.id = ub at hup ⊢
 generalize o.id = i at c0 hho hup ⊢
 generalize o.kind = kd at c1 ⊢
 generalize o.quota = qt at c3 ⊢
 generalize o.fixed = fx at c4 ⊢
 by_cases hi : i = ro
 ·subst hi
  rw [if_pos rfl]
  go_enter func30, ntmps30
  go_wp2_with (first
   | (with_reducible refine qdz rfl 25 _ rfl G rfl ?_; intro B2 W2 hN2 hB2 hk)
   | (with_reducible refine qdz rfl 50 _ rfl C rfl ?_; intro B3 W3 hN3 hB3 hk3; replace hB2 := hB2.next hk3; replace hk := btz hk hk3)
   | (with_reducible refine qez (by with_unfolding_all rfl) _ _ rfl B2 rfl G hB2 _ underlying25 (by kernel_rfl) hzw ?_)
   | (with_reducible refine qaz (by with_unfolding_all rfl) _ _ rfl B3 _ rfl _ _ hB3 _ c0 isAgg22 ?_)
   | (with_reducible refine qaz (by with_unfolding_all rfl) _ _ rfl B3 _ rfl _ _ hB3 _ c1 isAgg3 ?_)
   | (with_reducible refine qaz (by with_unfolding_all rfl) _ _ rfl B3 _ rfl _ _ hB3 _ c3 isAgg3 ?_)
   | (with_reducible refine qaz (by with_unfolding_all rfl) _ _ rfl B3 _ rfl _ _ hB3 _ c4 isAgg4 ?_)
   | (with_reducible refine qaz (by with_unfolding_all rfl) _ _ rfl B2 _ rfl _ _ hB2 _ g2 isAgg22 ?_)
   | (go_at_call 57; (with_reducible refine (hho _ hk).mono ?_); rintro e w1 ⟨v, rfl, hown, hb1⟩; replace hB2 := hB2.next hb1; replace hB3 := hB3.next hb1; replace hk := btz hk hb1; obtain ⟨al, cl, he, hct⟩ := k4z hown; rw [hm.out] at he; subst he; clear hct hown)
   | (go_at_call 58; (with_reducible refine (hup _ hk).mono ?_); rintro e w2 ⟨rfl, hb2⟩; replace hk := btz hk hb2)
   | ((with_reducible refine qiz (by with_unfolding_all rfl) .eql 3 _ _ _ rfl (.int .i64 (m : Int)) _ rfl rfl (qEz _ _ _ _ _ _) ?_ ?_) <;> intro hq1)
   | ((with_reducible refine qiz (by with_unfolding_all rfl) .lss 3 _ _ _ rfl (.int .i64 (m : Int)) _ rfl rfl (wxz _ _ _ _ _ _) ?_ ?_) <;> intro hq4)
   | ((with_reducible refine qiz (by with_unfolding_all rfl) .gtr 3 _ _ _ rfl (.int .i64 (m : Int)) _ rfl rfl (qNz _ _ _ _ _ _) ?_ ?_) <;> intro hq5)
   | ((with_reducible refine qiz (by with_unfolding_all rfl) .eql 3 _ _ _ rfl (.int .i64 kd) (.int .i64 2) rfl rfl (qEz _ _ _ _ _ _) ?_ ?_) <;> intro hq2)
   | ((with_reducible refine qiz (by with_unfolding_all rfl) .eql 3 _ _ _ rfl (.int .i64 kd) (.int .i64 4) rfl rfl (qEz _ _ _ _ _ _) ?_ ?_) <;> intro hq6)
   | ((with_reducible refine qiz (by with_unfolding_all rfl) .neq 3 _ _ _ rfl (.int .i64 kd) (.int .i64 2) rfl rfl (wiz _ _ _ _ _ _) ?_ ?_) <;> intro hq7)
   | ((with_reducible refine qiz (by with_unfolding_all rfl) .leq 3 _ _ _ rfl _ _ rfl rfl (wIz _ _ _ _ _ _) ?_ ?_) <;> intro hq3))
  all_goals
   go_ret
   refine ⟨congrArg (fun z => Ending.returned (.bool z)) ?_, hk⟩
   clear hho hup hzw
   simp only [Hid] at *
   first
    | (refine Eq.symm ?_; simp only [Bool.and_eq_true, decide_eq_true_eq, decide_eq_false_iff_not, Bool.and_eq_false_iff]; omega)
    | (refine Eq.symm ?_; rw [Bool.eq_false_iff]; simp only [ne_eq, Bool.and_eq_true, Bool.or_eq_true, Bool.not_eq_true', decide_eq_true_eq, decide_eq_false_iff_not, Bool.and_eq_false_iff, Bool.or_eq_false_iff, reduceCtorEq, or_true, true_or, and_true, true_and, or_false, false_or, and_false, false_and, Bool.not_true, Bool.not_false]; omega)
 ·have hib : (i == ro) = false := by simpa using hi
  rw [if_neg hi]
  cases fx <;> cases ub
  all_goals
   go_enter func30, ntmps30
   go_wp2_with (first
    | (with_reducible refine qdz rfl 25 _ rfl G rfl ?_; intro B2 W2 hN2 hB2 hk)
    | (with_reducible refine qdz rfl 50 _ rfl C rfl ?_; intro B3 W3 hN3 hB3 hk3; replace hB2 := hB2.next hk3; replace hk := btz hk hk3)
    | (with_reducible refine qez (by with_unfolding_all rfl) _ _ rfl B2 rfl G hB2 _ underlying25 (by kernel_rfl) hzw ?_)
    | (with_reducible refine qaz (by with_unfolding_all rfl) _ _ rfl B3 _ rfl _ _ hB3 _ c0 isAgg22 ?_)
    | (with_reducible refine qaz (by with_unfolding_all rfl) _ _ rfl B3 _ rfl _ _ hB3 _ c1 isAgg3 ?_)
    | (with_reducible refine qaz (by with_unfolding_all rfl) _ _ rfl B3 _ rfl _ _ hB3 _ c3 isAgg3 ?_)
    | (with_reducible refine qaz (by with_unfolding_all rfl) _ _ rfl B3 _ rfl _ _ hB3 _ c4 isAgg4 ?_)
    | (with_reducible refine qaz (by with_unfolding_all rfl) _ _ rfl B2 _ rfl _ _ hB2 _ g2 isAgg22 ?_)
    | (go_at_call 57; (with_reducible refine (hho _ hk).mono ?_); rintro e w1 ⟨v, rfl, hown, hb1⟩; replace hB2 := hB2.next hb1; replace hB3 := hB3.next hb1; replace hk := btz hk hb1; obtain ⟨al, cl, he, hct⟩ := k4z hown; rw [hm.out] at he; subst he; clear hct hown)
    | (go_at_call 58; (with_reducible refine (hup _ hk).mono ?_); rintro e w2 ⟨rfl, hb2⟩; replace hk := btz hk hb2)
    | ((with_reducible refine qiz (by with_unfolding_all rfl) .eql 3 _ _ _ rfl (.int .i64 (m : Int)) _ rfl rfl (qEz _ _ _ _ _ _) ?_ ?_) <;> intro hq1)
    | ((with_reducible refine qiz (by with_unfolding_all rfl) .lss 3 _ _ _ rfl (.int .i64 (m : Int)) _ rfl rfl (wxz _ _ _ _ _ _) ?_ ?_) <;> intro hq4)
    | ((with_reducible refine qiz (by with_unfolding_all rfl) .gtr 3 _ _ _ rfl (.int .i64 (m : Int)) _ rfl rfl (qNz _ _ _ _ _ _) ?_ ?_) <;> intro hq5)
    | ((with_reducible refine qiz (by with_unfolding_all rfl) .eql 3 _ _ _ rfl (.int .i64 kd) (.int .i64 2) rfl rfl (qEz _ _ _ _ _ _) ?_ ?_) <;> intro hq2)
    | ((with_reducible refine qiz (by with_unfolding_all rfl) .eql 3 _ _ _ rfl (.int .i64 kd) (.int .i64 4) rfl rfl (qEz _ _ _ _ _ _) ?_ ?_) <;> intro hq6)
    | ((with_reducible refine qiz (by with_unfolding_all rfl) .neq 3 _ _ _ rfl (.int .i64 kd) (.int .i64 2) rfl rfl (wiz _ _ _ _ _ _) ?_ ?_) <;> intro hq7)
    | ((with_reducible refine qiz (by with_unfolding_all rfl) .leq 3 _ _ _ rfl _ _ rfl rfl (wIz _ _ _ _ _ _) ?_ ?_) <;> intro hq3))
   all_goals
    go_ret
    refine ⟨congrArg (fun z => Ending.returned (.bool z)) ?_, hk⟩
    clear hho hup hzw
    simp only [Hid] at *
    first
     | (refine Eq.symm ?_; simp only [Bool.and_eq_true, Bool.or_eq_true, Bool.not_eq_true', decide_eq_true_eq, decide_eq_false_iff_not, Bool.and_eq_false_iff, Bool.or_eq_false_iff, reduceCtorEq, or_true, and_true, true_and, or_false, and_false, false_and, Bool.not_true, Bool.not_false]; omega)
     | (refine Eq.symm ?_; rw [Bool.eq_false_iff]; simp only [ne_eq, Bool.and_eq_true, Bool.or_eq_true, Bool.not_eq_true', decide_eq_true_eq, decide_eq_false_iff_not, Bool.and_eq_false_iff, Bool.or_eq_false_iff, reduceCtorEq, true_and, or_false, false_and, Bool.not_true, Bool.not_false]; omega)
end
section
open Go.RowKit Go.Shelf
attribute [local go_sem] Oper.semAt_some
theorem krz {x : Ob} (h : qQz x = true) : LbF x.label := by
 have hk := qDz.1 (q9z.1 (qqz.1 h).1).2.2.2.1
 exact ⟨fit_iff hk.2.1, by have := hk.1; omega⟩
theorem rfit_v0 {w : World} {t ke ro : Int} {ao : Option Addr} {n cap : Nat} {X : List Ob} (h : Obs w ao n cap X) : Calls prog 28 #[.agg #[.int .i64 t, .int .u64 ke, .int .u64 ro, .slice ao n cap]] w fun e w' => e = .returned (.bool (fitW ⟨t, ke, ro, X⟩)) ∧ Below w.heap.size w w' :=
 (rfit_w (t := t) (ke := ke) (ro := ro) h).on (fun w' hq hb => ⟨by rw [hq.out], hb⟩) (fun w' hq hb => ⟨by rw [Bool.eq_false_iff.2 hq.out], hb⟩)
theorem rtfit_w {w : World} {t ro : Int} {key : Nat} {ao : Option Addr} {n cap : Nat} {X : List Ob} (h : Obs w ao n cap X) (hsm : fitW ⟨t, key, ro, X⟩ = true → wfz X) (hw : ∀ x ∈ X, WdO x) : Calls prog 11 #[.agg #[.int .i64 t, .int .u64 (key : Int), .int .u64 ro, .slice ao n cap]] w fun e w' => e = .returned (.bool (fitD t key ro X)) ∧ Below w.heap.size w w' := by
 have hmx : prog.follows .mixedOrders = true := by kernel_rfl
 have hn : Hid (X.length = n) := h.1
 have hnc := h.2.1
 have hcm := h.2.2.1.1
 have c2 : (#[.int .i64 t, .int .u64 (key : Int), .int .u64 ro, .slice ao n cap] : Array Value)[2]? = some (.int .u64 ro) := rfl
 have c3 : (#[.int .i64 t, .int .u64 (key : Int), .int .u64 ro, .slice ao n cap] : Array Value)[3]? = some (.slice ao n cap) := rfl
 have hzw : (prog.info? 25).map (·.size) = some (#[.int .i64 t, .int .u64 (key : Int), .int .u64 ro, .slice ao n cap] : Array Value).size := by kernel_rfl
 have hfd := fun {W : World} (hk : Below w.heap.size w W) => kbz (t := t) (ke := (key : Int)) (ro := ro) (i := ro) h hk
 have hft := fun (W : World) (hk : Below w.heap.size w W) => rfit_v0 (t := t) (ke := (key : Int)) (ro := ro) (quz h hk)
 have hsp := fun (W : World) (hk : Below w.heap.size w W) => rspans_w (t := t) (key := key) (ro := ro) (quz h hk) hw
 have hR : Hid (fitD t key ro X = ((fitW ⟨t, key, ro, X⟩ && (fnd X ro).isSome) && (((List.range n).all fun j => lnkB X (oat X j) && plaB X ro (oat X j)) && spaB key X))) := by show fitD t key ro X = _; unfold fitD; rw [hn.out]
 rw [hR.out]
 clear hR
 cases hf : fitW ⟨t, key, ro, X⟩
 rw [hf] at hft
 obtain ⟨G, hG⟩ : ∃ G : Array Value, G = #[.int .i64 t, .int .u64 (key : Int), .int .u64 ro, .slice ao n cap] := ⟨_, rfl⟩
 rw [← hG] at c2 c3 hzw hfd hft hsp
 rw [← hG]
 clear hG
 rw [Bool.false_and, Bool.false_and]
 generalize (fnd X ro).isSome = bf at hfd
 rotate_left
 replace hsm := hsm hf
 obtain ⟨hs, hso, hlen⟩ := vIz hf
 have hn16 : n ≤ 4096 := by rw [← hn.out]; omega
 have hq : ∀ x ∈ X, 0 ≤ x.quota ∧ x.quota ≤ 4096 := fun x hx => (sound_q (hso x hx)).1
 have hlb : ∀ x ∈ X, LbF x.label := fun x hx => krz (hso x hx)
 have hli := fun {W : World} {C : Array Value} {j : Nat} (hk : Below w.heap.size w W) (hj : j < n) (hC : ObD (LtN W) W C (oat X j)) => rlinks_w (t := t) (ke := (key : Int)) (ro := ro) (quz h hk) hq hlb hC (hsm _ (q4z (by rw [hn.out]; exact hj))) (hlb _ (q4z (by rw [hn.out]; exact hj)))
 have hpl := fun {W : World} {C : Array Value} {j : Nat} (hk : Below w.heap.size w W) (hC : ObD (LtN W) W C (oat X j)) => uqz (t := t) (ke := (key : Int)) (ro := ro) (quz h hk) hn16 hC
 obtain ⟨p, hp⟩ : ∃ p : Nat → Bool, Hid (p = fun j => lnkB X (oat X j) && plaB X ro (oat X j)) := ⟨_, rfl⟩
 rw [hf] at hft
 obtain ⟨G, hG⟩ : ∃ G : Array Value, G = #[.int .i64 t, .int .u64 (key : Int), .int .u64 ro, .slice ao n cap] := ⟨_, rfl⟩
 rw [← hG] at c2 c3 hzw hfd hft hsp hli hpl
 rw [← hG, ← hp.out]
 clear hG hf hs hso hlen hq hlb
 have hal0 : Hid (∀ (k : Nat), k ≤ n → (∀ j, j < k → p j = true) → k = n → (List.range n).all p = true) := by
  refine (?_ : ∀ (k : Nat), k ≤ n → (∀ j, j < k → p j = true) → k = n → (List.range n).all p = true)
  intro k _ hj e
  rw [List.all_eq_true]
  intro j q
  exact hj j (by rw [e]; exact List.mem_range.1 q)
 have hno0 : Hid (∀ (k : Nat), k < n → p k = false → (List.range n).all p = false) := by
  refine (?_ : ∀ (k : Nat), k < n → p k = false → (List.range n).all p = false)
  intro k q e
  rw [List.all_eq_false]
  exact ⟨k, List.mem_range.2 q, by rw [e]; decide⟩
 generalize (List.range n).all p = pa at hal0 hno0 ⊢
 generalize spaB key X = sp at hsp ⊢
 rw [Bool.true_and]
 cases hb : (fnd X ro).isSome
 rw [hb] at hfd
 rw [Bool.false_and]
 rotate_left
 rw [hb] at hfd
 rw [Bool.true_and]
 rotate_left
 all_goals go_enter func11, ntmps11
 all_goals go_wp2_with (first
  | go_skip
  | (with_reducible refine qdz rfl 25 _ rfl G rfl ?_; intro B W2 hN2 hB hk)
  | (with_reducible refine qez (by kernel_rfl) 25 _ rfl B rfl G hB _ underlying25 (by kernel_rfl) hzw ?_)
  | (with_reducible refine qaz (by kernel_rfl) _ _ rfl B _ rfl _ _ hB _ c2 isAgg22 ?_)
  | (go_at_call 12; (with_reducible refine (hfd hk).mono ?_); rintro e w3 ⟨C3, rfl, o3, hb3⟩; replace hB := hB.next hb3; replace hk := btz hk hb3)
  | ((with_reducible refine qcz rfl _ rfl zC qsz ?_); intro R W4 hN4 hR4 hk4)
  | ((with_reducible refine qbz rfl _ _ _ rfl R rfl C3 rfl zC hR4 (qhz o3.size) (qmz.trans o3.size.symm) o3.one ?_); intro W5 hR5 o5; have k5 := o5.below w3.heap.size w3 (by have := hN4.out.1; omega) hk4; replace hB := hB.next k5; replace hk := btz hk k5)
  | (go_at_call 28; (with_reducible refine (hft _ hk).mono ?_); rintro e w6 ⟨rfl, hb6⟩; replace hB := hB.next hb6; replace hk := btz hk hb6))
 ·go_ret
  exact ⟨rfl, hk⟩
 ·go_ret
  exact ⟨rfl, hk⟩
 ·clear hN2 hN4 hR4 hk4 o5 k5 hR5
  go_loopw [5] (fun j wr => ∃ k : Nat, k ≤ n ∧ j = .int .i64 k ∧ Hid (∀ j, j < k → p j = true) ∧ Blk wr B G 25 ∧ Below w.heap.size w wr) (fun j _ => n - (intOf j).toNat)
  case atStart => exact ⟨0, Nat.zero_le _, rfl, fun i hi => absurd hi (by omega), hB, hk⟩
  case round =>
   clear hB hk
   obtain ⟨k, hkn1, rfl, hal, hB, hk⟩ := hrel
   by_cases hkn : k < n
   ·obtain ⟨b, off, C, rfl, hbb, hC, hr⟩ := wQz h hkn
    have hkn' : (k : Int) < n := by omega
    have hz := hC.size
    have hpk : Hid (p k = (lnkB X (oat X k) && plaB X ro (oat X k))) := by show p k = _; rw [hp.out]
    have hnx : Hid (p k = true → ∀ j, j < k + 1 → p j = true) := by
     refine (?_ : p k = true → ∀ j, j < k + 1 → p j = true)
     intro e j hj
     rcases Nat.lt_or_ge j k with q | q
     ·exact hal.out j q
     ·obtain rfl : j = k := by omega
      exact e
    replace hli := fun {W : World} {C : Array Value} (hk : Below w.heap.size w W) (hC : ObD (LtN W) W C (oat X k)) => hli hk hkn hC
    replace hpl := fun {W : World} {C : Array Value} (hk : Below w.heap.size w W) (hC : ObD (LtN W) W C (oat X k)) => hpl hk hC
    generalize lnkB X (oat X k) = bl at hli hpk
    generalize plaB X ro (oat X k) = bp at hpl hpk
    go_wp2_with (first
     | (with_reducible refine qaz (by kernel_rfl) _ _ rfl B _ rfl _ _ hB _ c3 isAgg23 ?_))
    refine PgM.region_out (S := fun W => Blk W B G 25 ∧ Below w.heap.size w W) hmx ⟨hB.next (Below.refl _ _).drew, hk.trans ((Below.refl _ _).drew.mono hk.size)⟩ (fun hS => ?_)
    generalize wr.drew = v6 at hS ⊢
    clear hB hk
    refine qlz (by kernel_rfl) (fun _ _ _ _ _ h => h) hS [(0, some (.agg G)), (1, none), (2, some (.slice (some ⟨b, off, none⟩) n cap)), (3, none), (4, some (.pointer (some ⟨b, off + k * 51, none⟩))), (5, some (.agg C))] (l' := #[tt, tt, tt, tt, tt, tt, ff, ff, ff, ff, ff, ff, ff, ff, ff, ff, ff, ff]) (a' := { tmps := #[.agg G, .pointer (some ⟨B, 0, none⟩), u2, .pointer (some ⟨R, 0, none⟩), .bool true, .int .i64 k, .tuple #[.agg C3, .bool true], .agg G, .pointer (some ⟨B, 2, none⟩), .int .u64 ro, .tuple #[.agg C3, .bool true], .agg C3, .bool true, .agg G, .bool true, .bool false, .bool false, .bool true, .bool false, .bool false, .int .i64 k, .pointer (some ⟨B, 3, none⟩), .slice (some ⟨b, off, none⟩) n cap, .int .i64 n, .bool true, u25, u26, .agg G, .pointer (some ⟨B, 3, none⟩), .slice (some ⟨b, off, none⟩) n cap, .int .i64 k, .pointer (some ⟨b, off + k * 51, none⟩), .agg C, u33, u34, u35, u36, u37, u38, u39, u40, u41, u42, u43, u44, undef, undef], defers := [] }) (obs := [.load 25 B 0 (.agg G), .load 23 B 3 (.slice (some ⟨b, off, none⟩) n cap), .ia 23 (.slice (some ⟨b, off, none⟩) n cap) (.int .i64 k) (.pointer (some ⟨b, off + k * 51, none⟩)), .load 50 b (off + k * 51) (.agg C)]) (n := 12) (by kernel_rfl) (by kernel_rfl) ⟨qTz (fun _ h => h.1) underlying25 (by kernel_rfl) hzw, qgz (fun _ h => h.1) c3 isAgg23, xUz hkn, wRz (fun _ h => qyz hr (h.2.block b hbb)) underlying50 (by kernel_rfl) (qhz hz), trivial⟩ ?_
    cases bl with
    | false =>
     refine qzz (i := 6) (fuel := 11) (f := 29) (vs := [.agg G, .agg C]) (d := some 33) (by kernel_rfl) (by kernel_rfl) (by kernel_rfl) call29 (hli hS.2 (hC.next hS.2)) ?_
     rintro e v7 ⟨rfl, hb7⟩
     have hS7 : Blk v7 B G 25 ∧ Below w.heap.size w v7 := ⟨hS.1.next hb7, hS.2.trans (hb7.mono hS.2.size)⟩
     refine ⟨_, rfl, hS7, ?_⟩
     refine qlz (by kernel_rfl) (fun _ _ _ _ _ h => h) hS7 [(7, none), (8, none), (9, none), (10, none), (11, none), (12, none), (13, none), (14, none), (15, none), (16, none), (17, none)] (l' := #[tt, tt, tt, tt, tt, tt, tt, tt, tt, tt, tt, tt, tt, tt, tt, tt, tt, tt]) (a' := { tmps := #[.agg G, .pointer (some ⟨B, 0, none⟩), u2, .pointer (some ⟨R, 0, none⟩), .bool true, .int .i64 k, .tuple #[.agg C3, .bool true], .agg G, .pointer (some ⟨B, 2, none⟩), .int .u64 ro, .tuple #[.agg C3, .bool true], .agg C3, .bool true, .agg G, .bool true, .bool false, .bool false, .bool true, .bool false, .bool false, .int .i64 k, .pointer (some ⟨B, 3, none⟩), .slice (some ⟨b, off, none⟩) n cap, .int .i64 n, .bool true, u25, u26, .agg G, .pointer (some ⟨B, 3, none⟩), .slice (some ⟨b, off, none⟩) n cap, .int .i64 k, .pointer (some ⟨b, off + k * 51, none⟩), .agg C, .bool false, .bool true, .bool true, undef, undef, undef, undef, undef, undef, undef, undef, .bool true, undef, undef], defers := [] }) (obs := []) (n := 0) (by kernel_rfl) (by kernel_rfl) trivial ?_
     refine wpAnyH_done (by kernel_rfl) ?_ _
     have hz0 := hno0.out k hkn (by rw [hpk.out]; rfl)
     go_wp2
     go_ret
     exact ⟨by rw [hz0]; rfl, hS7.2⟩
    | true =>
     refine qzz (i := 6) (fuel := 11) (f := 29) (vs := [.agg G, .agg C]) (d := some 33) (by kernel_rfl) (by kernel_rfl) (by kernel_rfl) call29 (hli hS.2 (hC.next hS.2)) ?_
     rintro e v7 ⟨rfl, hb7⟩
     have hS7 : Blk v7 B G 25 ∧ Below w.heap.size w v7 := ⟨hS.1.next hb7, hS.2.trans (hb7.mono hS.2.size)⟩
     refine ⟨_, rfl, hS7, ?_⟩
     refine qlz (by kernel_rfl) (fun _ _ _ _ _ h => h) hS7 [(7, none), (8, none), (9, some (.agg G)), (10, none), (11, some (.slice (some ⟨b, off, none⟩) n cap)), (12, none), (13, some (.pointer (some ⟨b, off + k * 51, none⟩))), (14, some (.agg C))] (l' := #[tt, tt, tt, tt, tt, tt, tt, tt, tt, tt, tt, tt, tt, tt, tt, ff, ff, ff]) (a' := { tmps := #[.agg G, .pointer (some ⟨B, 0, none⟩), u2, .pointer (some ⟨R, 0, none⟩), .bool true, .int .i64 k, .tuple #[.agg C3, .bool true], .agg G, .pointer (some ⟨B, 2, none⟩), .int .u64 ro, .tuple #[.agg C3, .bool true], .agg C3, .bool true, .agg G, .bool true, .bool false, .bool false, .bool true, .bool false, .bool false, .int .i64 k, .pointer (some ⟨B, 3, none⟩), .slice (some ⟨b, off, none⟩) n cap, .int .i64 n, .bool true, u25, u26, .agg G, .pointer (some ⟨B, 3, none⟩), .slice (some ⟨b, off, none⟩) n cap, .int .i64 k, .pointer (some ⟨b, off + k * 51, none⟩), .agg C, .bool true, .bool false, .bool false, .agg G, .pointer (some ⟨B, 3, none⟩), .slice (some ⟨b, off, none⟩) n cap, .int .i64 k, .pointer (some ⟨b, off + k * 51, none⟩), .agg C, u42, u43, u44, undef, undef], defers := [] }) (obs := [.load 25 B 0 (.agg G), .load 23 B 3 (.slice (some ⟨b, off, none⟩) n cap), .ia 23 (.slice (some ⟨b, off, none⟩) n cap) (.int .i64 k) (.pointer (some ⟨b, off + k * 51, none⟩)), .load 50 b (off + k * 51) (.agg C)]) (n := 3) (by kernel_rfl) (by kernel_rfl) ⟨qTz (fun _ h => h.1) underlying25 (by kernel_rfl) hzw, qgz (fun _ h => h.1) c3 isAgg23, xUz hkn, wRz (fun _ h => qyz hr (h.2.block b hbb)) underlying50 (by kernel_rfl) (qhz hz), trivial⟩ ?_
     cases bp with
     | false =>
      refine qzz (i := 15) (fuel := 2) (f := 30) (vs := [.agg G, .agg C]) (d := some 42) (by kernel_rfl) (by kernel_rfl) (by kernel_rfl) call30 (hpl hS7.2 (hC.next hS7.2)) ?_
      rintro e v8 ⟨rfl, hb8⟩
      have hS8 : Blk v8 B G 25 ∧ Below w.heap.size w v8 := ⟨hS7.1.next hb8, hS7.2.trans (hb8.mono hS7.2.size)⟩
      refine ⟨_, rfl, hS8, ?_⟩
      refine qlz (by kernel_rfl) (fun _ _ _ _ _ h => h) hS8 [(16, none), (17, none)] (l' := #[tt, tt, tt, tt, tt, tt, tt, tt, tt, tt, tt, tt, tt, tt, tt, tt, tt, tt]) (a' := { tmps := #[.agg G, .pointer (some ⟨B, 0, none⟩), u2, .pointer (some ⟨R, 0, none⟩), .bool true, .int .i64 k, .tuple #[.agg C3, .bool true], .agg G, .pointer (some ⟨B, 2, none⟩), .int .u64 ro, .tuple #[.agg C3, .bool true], .agg C3, .bool true, .agg G, .bool true, .bool false, .bool false, .bool true, .bool false, .bool false, .int .i64 k, .pointer (some ⟨B, 3, none⟩), .slice (some ⟨b, off, none⟩) n cap, .int .i64 n, .bool true, u25, u26, .agg G, .pointer (some ⟨B, 3, none⟩), .slice (some ⟨b, off, none⟩) n cap, .int .i64 k, .pointer (some ⟨b, off + k * 51, none⟩), .agg C, .bool true, .bool false, .bool false, .agg G, .pointer (some ⟨B, 3, none⟩), .slice (some ⟨b, off, none⟩) n cap, .int .i64 k, .pointer (some ⟨b, off + k * 51, none⟩), .agg C, .bool false, .bool true, .bool true, undef, undef], defers := [] }) (obs := []) (n := 0) (by kernel_rfl) (by kernel_rfl) trivial ?_
      refine wpAnyH_done (by kernel_rfl) ?_ _
      have hz0 := hno0.out k hkn (by rw [hpk.out]; rfl)
      go_wp2
      go_ret
      exact ⟨by rw [hz0]; rfl, hS8.2⟩
     | true =>
      refine qzz (i := 15) (fuel := 2) (f := 30) (vs := [.agg G, .agg C]) (d := some 42) (by kernel_rfl) (by kernel_rfl) (by kernel_rfl) call30 (hpl hS7.2 (hC.next hS7.2)) ?_
      rintro e v8 ⟨rfl, hb8⟩
      have hS8 : Blk v8 B G 25 ∧ Below w.heap.size w v8 := ⟨hS7.1.next hb8, hS7.2.trans (hb8.mono hS7.2.size)⟩
      refine ⟨_, rfl, hS8, ?_⟩
      refine qlz (by kernel_rfl) (fun _ _ _ _ _ h => h) hS8 [(16, none), (17, none)] (l' := #[tt, tt, tt, tt, tt, tt, tt, tt, tt, tt, tt, tt, tt, tt, tt, tt, tt, tt]) (a' := { tmps := #[.agg G, .pointer (some ⟨B, 0, none⟩), u2, .pointer (some ⟨R, 0, none⟩), .bool true, .int .i64 k, .tuple #[.agg C3, .bool true], .agg G, .pointer (some ⟨B, 2, none⟩), .int .u64 ro, .tuple #[.agg C3, .bool true], .agg C3, .bool true, .agg G, .bool true, .bool false, .bool false, .bool true, .bool false, .bool false, .int .i64 k, .pointer (some ⟨B, 3, none⟩), .slice (some ⟨b, off, none⟩) n cap, .int .i64 n, .bool true, u25, u26, .agg G, .pointer (some ⟨B, 3, none⟩), .slice (some ⟨b, off, none⟩) n cap, .int .i64 k, .pointer (some ⟨b, off + k * 51, none⟩), .agg C, .bool true, .bool false, .bool false, .agg G, .pointer (some ⟨B, 3, none⟩), .slice (some ⟨b, off, none⟩) n cap, .int .i64 k, .pointer (some ⟨b, off + k * 51, none⟩), .agg C, .bool true, .bool false, .bool false, undef, undef], defers := [] }) (obs := []) (n := 0) (by kernel_rfl) (by kernel_rfl) trivial ?_
      refine wpAnyH_done (by kernel_rfl) ?_ _
      have hy := hnx.out (by rw [hpk.out]; rfl)
      go_wp2
      go_roundw
      case rel => exact ⟨k + 1, by omega, by go_num, hy, hS8.1, hS8.2⟩
      case measure => simp [intOf]; omega
   ·obtain rfl : k = n := by omega
    have hpa := hal0.out k (Nat.le_refl _) hal.out rfl
    go_wp2_with (first
     | (with_reducible refine qaz (by kernel_rfl) _ _ rfl B _ rfl _ _ hB _ c3 isAgg23 ?_)
     | (with_reducible refine qez (by kernel_rfl) 25 _ rfl B rfl G hB _ underlying25 (by kernel_rfl) hzw ?_)
     | (go_at_call 31; (with_reducible refine (hsp _ hk).mono ?_); rintro e w8 ⟨rfl, hb8⟩; replace hk := btz hk hb8))
    go_ret
    exact ⟨by rw [hpa]; rfl, hk⟩
end
section
open Go.RowKit Go.Shelf
attribute [local go_sem] Oper.semAt_some
theorem Obs.next {w w' : World} {ao : Option Addr} {n cap : Nat} {l : List Ob} (h : Obs w ao n cap l) (k : Below w.heap.size w w') : Obs w' ao n cap l := quz h k
theorem laidW {W2 w3 W4 V4 : World} {P : Nat} {ao : Option Addr} {n cap : Nat} {X : List Ob} (hb3 : Below W2.heap.size W2 w3) (oW : Obs w3 ao n cap X) (hN4 : Hid (w3.heap.size = P ∧ W4.heap.size = P + 1)) (hk4 : Below w3.heap.size w3 W4) (q4 : Oth P W4 V4) : Below W2.heap.size W2 V4 ∧ Obs V4 ao n cap X := by
 have h1 := hN4.out
 have h2 := hb3.size
 have hb : Below w3.heap.size w3 V4 := q4.below _ _ (by omega) hk4
 exact ⟨hb3.trans (hb.mono h2), quz oW hb⟩
theorem kCz (a b c : Int) (ao : Option Addr) (n cap : Nat) : (prog.info? 25).map (·.size) = some (#[.int .i64 a, .int .u64 b, .int .u64 c, .slice ao n cap] : Array Value).size := by kernel_rfl
theorem zW4 (a b c : Int) (ao : Option Addr) (n cap : Nat) : zW.size = (#[.int .i64 a, .int .u64 b, .int .u64 c, .slice ao n cap] : Array Value).size := rfl
theorem oneW4 (a b c : Int) (ao : Option Addr) (n cap : Nat) : (#[.int .i64 a, .int .u64 b, .int .u64 c, .slice ao n cap] : Array Value).all (·.oneCell') = true := by kernel_rfl
end
end Go.Proofs.YtdeddhojjolihaaGreat
