/-
 PROVED HERE: a world without a link, and what is gone by that, are the document's (SweepDoes), over the landed code. No condition.
-/
import Derived.Test.YtcmcakandbpjfaaRows
import Derived.WalkKit
import Derived.ProofKit
import Derived.OpenShut
import Derived.Below
import Derived.ShutString
import Derived.Deep.QuietTactic
import Derived.Test.YtcmcakandbpjfaaY7
import Derived.Test.YtcmcakandbpjfaaY8
import Derived.Test.YtcmcakandbpjfaaY15
import Derived.Test.YtcmcakandbpjfaaY20
namespace Go.Proofs.Ytcmcakandbpjfaa
set_option maxRecDepth 100000
set_option maxHeartbeats 8000000
namespace sweepDoes
open Go.ChangeShapes Go.WideShapes Go.ChangeAt Go.RowKit
open Go.ChangeMaps (open_string shut_string)
set_option linter.unusedVariables false

theorem own : ownKnob Try.prog.godebug = none := by kernel_rfl

theorem walk (t0 : Int) (ke0 : Nat) (ro0 : Int) (ao0 : Option Addr) (n0 cap0 : Nat) (X0 : List Ob) (a1 : Int) (a2 : Int) (w : World) (l0 : Obs w ao0 n0 cap0 X0 ∧ ∀ x ∈ X0, WdO x) (w1 : (Lit.int .u64 a1).wf = true) (w2 : (Lit.int .u64 a2).wf = true) :
  Calls Try.prog 3 #[.agg #[.int .i64 t0, .int .u64 (ke0 : Int), .int .u64 ro0, .slice ao0 n0 cap0], .int .u64 a1, .int .u64 a2] w fun e w' => e = .returned (.bool true) ∧ Below w.heap.size w w' := by
 have hmx : Try.prog.follows .mixedOrders = true := by kernel_rfl
 obtain ⟨l0, hw0⟩ := l0
 have hn : Hid (X0.length = n0) := l0.1
 have hX : Ws w #[.int .i64 t0, .int .u64 (ke0 : Int), .int .u64 ro0, .slice ao0 n0 cap0] t0 ke0 ro0 X0 := ⟨_, _, _, rfl, l0⟩
 have hzw := hX.size
 have few0 := fun (W : World) (hk : Below w.heap.size w W) => few15_any (t := t0) (key := ke0) (ro := ro0) (obs_next l0 hk) hw0
 obtain ⟨G, hG⟩ : ∃ G : Array Value, G = #[.int .i64 t0, .int .u64 (ke0 : Int), .int .u64 ro0, .slice ao0 n0 cap0] := ⟨_, rfl⟩
 rw [← hG] at hX hzw
 simp only [← hG] at few0
 rw [← hG]
 clear hG
 by_cases hfw : few15P t0 ke0 ro0 X0
 ·have hf := hfw.2
  have hl2 : X0.length < 1024 := by have := hfw.1.1; omega
  by_cases hin : a2 ∈ (fO X0 a1).links
  ·go_enter Try.func3, Try.ntmps3
   try simp only [List.append]
   have tk7 : True := trivial
   have tk10 : True := trivial
   go_wp2_with (first
    | go_skip
    | (with_reducible refine wpList_box rfl 25 _ rfl G rfl ?_; intro B W1 hN1 hB hk; replace hX := hX.next hk)
    | (with_reducible refine wpList_loadb (by first | kernel_rfl | with_unfolding_all rfl) 25 _ rfl B rfl G hB _ Try.underlying25 (by kernel_rfl) hzw ?_)
    | (go_at_call 7; (with_reducible refine ((few0 _ hk).yes hfw).mono ?_); rintro e w3 ⟨rfl, hb8⟩; replace hB := hB.next hb8; replace hX := hX.next hb8; replace hk := hk.trans (hb8.mono hk.size); clear hb8)
    | (go_at_call 9; (with_reducible refine (unref_k hX hf hl2 hin).mono ?_); rintro e w5 ⟨V, al, m, cl, L, rfl, hGn, hV, hcL, hb8⟩; have hzV := hV.size; have hoV := hV.old; have h1V := hV.one; have hlm : Hid (L.length = m) := hcL.1; replace hB := hB.next hb8; replace hX := hX.next hb8; replace hk := hk.trans (hb8.mono hk.size); clear hb8)
    | (clear tk7; (with_reducible refine wpList_alloc rfl 25 rfl zW zero43 ?_); intro P7 A7 hN7 hP7a hkA7; have hle7 := hN7.out.1)
    | ((with_reducible refine wpList_store_blk rfl _ _ _ rfl P7 rfl V rfl zW hP7a hzV hoV h1V ?_); intro S7 hP7 o7; have k7 := o7.below _ _ (Nat.le_of_eq hle7) hkA7; clear hP7a hkA7 o7 hN7; replace hcL := ct_up hcL k7; replace hB := hB.next k7; replace hX := hX.next k7; replace hV := hV.next k7; replace hk := hk.trans (k7.mono hk.size); clear k7)
    | (go_at_call 10; (with_reducible refine (runref_g hX hf hl2 hin hGn.out hlm.out).mono ?_); rintro e w7 ⟨V2, al2, cl2, rfl, hV2, hcM, hb8⟩; have hz2 := hV2.size; have ho2 := hV2.old; have h12 := hV2.one; replace hcL := ct_up hcL hb8; replace hB := hB.next hb8; replace hX := hX.next hb8; replace hV := hV.next hb8; replace hP7 := hP7.next hb8; replace hk := hk.trans (hb8.mono hk.size); clear hb8)
    | (clear tk10; (with_reducible refine wpList_alloc rfl 25 rfl zW zero43 ?_); intro P10 A10 hN10 hP10a hkA10; have hle10 := hN10.out.1)
    | ((with_reducible refine wpList_store_blk rfl _ _ _ rfl P10 rfl V2 rfl zW hP10a hz2 ho2 h12 ?_); intro S10 hP10 o10; have k10 := o10.below _ _ (Nat.le_of_eq hle10) hkA10; clear hP10a hkA10 o10 hN10; replace hcL := ct_up hcL k10; replace hcM := ct_up hcM k10; replace hB := hB.next k10; replace hX := hX.next k10; replace hV := hV.next k10; replace hP7 := hP7.next k10; replace hV2 := hV2.next k10; replace hk := hk.trans (k10.mono hk.size); clear k10))
   refine PgM.region_out (S := fun W => Below S10.heap.size S10 W) hmx ((Below.refl _ _).drew) (fun hS => ?_)
   generalize S10.drew = y0 at hS ⊢
   have qe : Hid ((0 : Int) = 0) := rfl
   refine wpAnyH_sym (by kernel_rfl) (fun _ _ _ _ _ h => h) hS [(0, some (.agg V)), (1, some (.agg V2))] (l' := #[true, true, false, false, false, false, false, false, false, false, false, false, false, false, false, false, false, false, false, false, false, false, false, false, false, false, false, false]) (a' := { tmps := #[.agg G, .int .u64 a1, .int .u64 a2, .pointer (some ⟨B, 0, none⟩), ud, undef, .bool false, .pointer (some ⟨P7, 0, none⟩), .slice al m cl, .int .i64 0, .pointer (some ⟨P10, 0, none⟩), .slice al2 m cl2, .int .i64 0, .agg G, .bool true, .bool false, undef, .tuple #[.agg V, .slice al m cl, .int .i64 0], .agg G, .int .u64 a1, .int .u64 a2, .tuple #[.agg V, .slice al m cl, .int .i64 0], .agg V, .slice al m cl, .int .i64 0, .tuple #[.agg V2, .slice al2 m cl2, .int .i64 0], .agg G, .int .u64 a1, .int .u64 a2, .tuple #[.agg V2, .slice al2 m cl2, .int .i64 0], .agg V2, .slice al2 m cl2, .int .i64 0, .agg V, .agg V2, ud, ud, ud, ud, ud, ud, ud, ud, ud, ud, ud, ud, ud, ud, ud, ud, ud, ud, ud, ud, ud, ud, ud, ud, undef], defers := [] }) (obs := [.load 25 P7 0 (.agg V), .load 25 P10 0 (.agg V2)]) (n := 26) (by kernel_rfl) (by kernel_rfl) ⟨ob_loadb (fun _ h => hP7.next h) Try.underlying25 (by kernel_rfl) hzV, ob_loadb (fun _ h => hP10.next h) Try.underlying25 (by kernel_rfl) hz2, trivial⟩ ?_
   refine wpAnyH_callL (i := 2) (fuel := 25) (f := 11) (vs := [.agg V, .agg V2]) (d := some 35) (by kernel_rfl) (by kernel_rfl) (by kernel_rfl) Try.call11 (rsame_s (hV.next hS) (hV2.next hS)) ?_
   rintro e y1 ⟨rfl, hby1⟩
   have hSy1 : Below S10.heap.size S10 y1 := hS.trans (hby1.mono hS.size)
   refine ⟨_, rfl, hSy1, ?_⟩
   refine wpAnyH_sym (by kernel_rfl) (fun _ _ _ _ _ h => h) hSy1 [(3, none), (4, none), (5, none)] (l' := #[true, true, true, true, true, true, false, false, false, false, false, false, false, false, false, false, false, false, false, false, false, false, false, false, false, false, false, false]) (a' := { tmps := #[.agg G, .int .u64 a1, .int .u64 a2, .pointer (some ⟨B, 0, none⟩), ud, undef, .bool false, .pointer (some ⟨P7, 0, none⟩), .slice al m cl, .int .i64 0, .pointer (some ⟨P10, 0, none⟩), .slice al2 m cl2, .int .i64 0, .agg G, .bool true, .bool false, undef, .tuple #[.agg V, .slice al m cl, .int .i64 0], .agg G, .int .u64 a1, .int .u64 a2, .tuple #[.agg V, .slice al m cl, .int .i64 0], .agg V, .slice al m cl, .int .i64 0, .tuple #[.agg V2, .slice al2 m cl2, .int .i64 0], .agg G, .int .u64 a1, .int .u64 a2, .tuple #[.agg V2, .slice al2 m cl2, .int .i64 0], .agg V2, .slice al2 m cl2, .int .i64 0, .agg V, .agg V2, .bool true, .bool true, .slice al m cl, .slice al2 m cl2, ud, ud, ud, ud, ud, ud, ud, ud, ud, ud, ud, ud, ud, ud, ud, ud, ud, ud, ud, ud, undef], defers := [] }) (obs := []) (n := 22) (by kernel_rfl) (by kernel_rfl) trivial ?_
   refine wpAnyH_callL (i := 6) (fuel := 21) (f := 12) (vs := [.slice al m cl, .slice al2 m cl2]) (d := some 39) (by kernel_rfl) (by kernel_rfl) (by kernel_rfl) Try.call12 (rsameW_yes (ct_up hcL hSy1) (ct_up hcM hSy1)) ?_
   rintro e y2 ⟨rfl, hby2⟩
   have hSy2 : Below S10.heap.size S10 y2 := hSy1.trans (hby2.mono hSy1.size)
   refine ⟨_, rfl, hSy2, ?_⟩
   refine wpAnyH_sym (by kernel_rfl) (fun _ _ _ _ _ h => h) hSy2 [(7, none), (8, none), (9, none), (10, none), (11, some (.bool true)), (12, none), (13, none), (14, some (.agg G)), (15, none), (16, none), (18, some (.agg G)), (19, none), (20, none)] (l' := #[true, true, true, true, true, true, true, true, true, true, true, true, true, true, true, true, true, false, true, true, true, false, false, false, false, false, false, false]) (a' := { tmps := #[.agg G, .int .u64 a1, .int .u64 a2, .pointer (some ⟨B, 0, none⟩), ud, undef, .bool false, .pointer (some ⟨P7, 0, none⟩), .slice al m cl, .int .i64 0, .pointer (some ⟨P10, 0, none⟩), .slice al2 m cl2, .int .i64 0, .agg G, .bool true, .bool false, undef, .tuple #[.agg V, .slice al m cl, .int .i64 0], .agg G, .int .u64 a1, .int .u64 a2, .tuple #[.agg V, .slice al m cl, .int .i64 0], .agg V, .slice al m cl, .int .i64 0, .tuple #[.agg V2, .slice al2 m cl2, .int .i64 0], .agg G, .int .u64 a1, .int .u64 a2, .tuple #[.agg V2, .slice al2 m cl2, .int .i64 0], .agg V2, .slice al2 m cl2, .int .i64 0, .agg V, .agg V2, .bool true, .bool true, .slice al m cl, .slice al2 m cl2, .bool true, .bool true, .bool true, .int .i64 0, .int .i64 0, .bool true, .bool true, .bool true, .agg G, .int .u64 a1, .int .u64 a2, undef, .agg G, .int .u64 a1, .int .u64 a2, ud, ud, ud, ud, ud, undef], defers := [] }) (obs := [.test .eql 3 (.tmp 42) (.tmp 43) (.int .i64 0) (.int .i64 0) (.bool true), .load 25 B 0 (.agg G), .load 25 B 0 (.agg G)]) (n := 8) (by kernel_rfl) (by kernel_rfl) ⟨ob_yes (fun _ => eqg_int _ _ _ _ _ _) qe, ob_loadb (fun _ h => hB.next h) Try.underlying25 (by kernel_rfl) hzw, ob_loadb (fun _ h => hB.next h) Try.underlying25 (by kernel_rfl) hzw, trivial⟩ ?_
   refine wpAnyH_callL (i := 17) (fuel := 7) (f := 13) (vs := [.agg G, .int .u64 a1, .int .u64 a2]) (d := some 50) (by kernel_rfl) (by kernel_rfl) (by kernel_rfl) Try.call13 (lost_g (hX.next hSy2) hf hl2 hin hGn.out hlm.out) ?_
   rintro e y3 ⟨ah, ch, rfl, hc1, hby3⟩
   have hSy3 : Below S10.heap.size S10 y3 := hSy2.trans (hby3.mono hSy2.size)
   refine ⟨_, rfl, hSy3, ?_⟩
   refine wpAnyH_callL (i := 21) (fuel := 6) (f := 14) (vs := [.agg G, .int .u64 a1, .int .u64 a2]) (d := some 54) (by kernel_rfl) (by kernel_rfl) (by kernel_rfl) Try.call14 (rlost_g (hX.next hSy3) hf hl2 hin hGn.out hlm.out) ?_
   rintro e y4 ⟨ai, ci, rfl, hc2, hby4⟩
   have hSy4 : Below S10.heap.size S10 y4 := hSy3.trans (hby4.mono hSy3.size)
   replace hc1 := ct_up hc1 hby4
   refine ⟨_, rfl, hSy4, ?_⟩
   refine wpAnyH_callL (i := 22) (fuel := 5) (f := 12) (vs := [.slice ah m ch, .slice ai m ci]) (d := some 55) (by kernel_rfl) (by kernel_rfl) (by kernel_rfl) Try.call12 (rsameW_yes hc1 hc2) ?_
   rintro e y5 ⟨rfl, hby5⟩
   have hSy5 : Below S10.heap.size S10 y5 := hSy4.trans (hby5.mono hSy4.size)
   refine ⟨_, rfl, hSy5, ?_⟩
   refine wpAnyH_sym (by kernel_rfl) (fun _ _ _ _ _ h => h) hSy5 [(23, none), (24, none)] (l' := #[true, true, true, true, true, true, true, true, true, true, true, true, true, true, true, true, true, true, true, true, true, true, true, true, true, false, false, false]) (a' := { tmps := #[.agg G, .int .u64 a1, .int .u64 a2, .pointer (some ⟨B, 0, none⟩), ud, undef, .bool false, .pointer (some ⟨P7, 0, none⟩), .slice al m cl, .int .i64 0, .pointer (some ⟨P10, 0, none⟩), .slice al2 m cl2, .int .i64 0, .agg G, .bool true, .bool false, undef, .tuple #[.agg V, .slice al m cl, .int .i64 0], .agg G, .int .u64 a1, .int .u64 a2, .tuple #[.agg V, .slice al m cl, .int .i64 0], .agg V, .slice al m cl, .int .i64 0, .tuple #[.agg V2, .slice al2 m cl2, .int .i64 0], .agg G, .int .u64 a1, .int .u64 a2, .tuple #[.agg V2, .slice al2 m cl2, .int .i64 0], .agg V2, .slice al2 m cl2, .int .i64 0, .agg V, .agg V2, .bool true, .bool true, .slice al m cl, .slice al2 m cl2, .bool true, .bool true, .bool true, .int .i64 0, .int .i64 0, .bool true, .bool true, .bool true, .agg G, .int .u64 a1, .int .u64 a2, .slice ah m ch, .agg G, .int .u64 a1, .int .u64 a2, .slice ai m ci, .bool true, .bool true, .bool true, ud, undef], defers := [] }) (obs := []) (n := 3) (by kernel_rfl) (by kernel_rfl) trivial ?_
   refine wpAnyH_callL (i := 25) (fuel := 2) (f := 8) (vs := []) (d := some 58) (by kernel_rfl) (by kernel_rfl) (by kernel_rfl) Try.call8 (awake15_any _) ?_
   rintro e y6 ⟨rfl, hby6⟩
   have hSy6 : Below S10.heap.size S10 y6 := hSy5.trans (hby6.mono hSy5.size)
   refine ⟨_, rfl, hSy6, ?_⟩
   refine wpAnyH_sym (by kernel_rfl) (fun _ _ _ _ _ h => h) hSy6 [(26, none), (27, none)] (l' := #[true, true, true, true, true, true, true, true, true, true, true, true, true, true, true, true, true, true, true, true, true, true, true, true, true, true, true, true]) (a' := { tmps := #[.agg G, .int .u64 a1, .int .u64 a2, .pointer (some ⟨B, 0, none⟩), ud, undef, .bool true, .pointer (some ⟨P7, 0, none⟩), .slice al m cl, .int .i64 0, .pointer (some ⟨P10, 0, none⟩), .slice al2 m cl2, .int .i64 0, .agg G, .bool true, .bool false, undef, .tuple #[.agg V, .slice al m cl, .int .i64 0], .agg G, .int .u64 a1, .int .u64 a2, .tuple #[.agg V, .slice al m cl, .int .i64 0], .agg V, .slice al m cl, .int .i64 0, .tuple #[.agg V2, .slice al2 m cl2, .int .i64 0], .agg G, .int .u64 a1, .int .u64 a2, .tuple #[.agg V2, .slice al2 m cl2, .int .i64 0], .agg V2, .slice al2 m cl2, .int .i64 0, .agg V, .agg V2, .bool true, .bool true, .slice al m cl, .slice al2 m cl2, .bool true, .bool true, .bool true, .int .i64 0, .int .i64 0, .bool true, .bool true, .bool true, .agg G, .int .u64 a1, .int .u64 a2, .slice ah m ch, .agg G, .int .u64 a1, .int .u64 a2, .slice ai m ci, .bool true, .bool true, .bool true, .bool true, .bool true], defers := [] }) (obs := []) (n := 0) (by kernel_rfl) (by kernel_rfl) trivial ?_
   refine wpAnyH_done (by kernel_rfl) ?_ _
   replace hk := hk.trans (hSy6.mono hk.size)
   go_wp2
   go_ret
   exact ⟨rfl, hk⟩
  ·go_enter Try.func3, Try.ntmps3
   try simp only [List.append]
   have tk7 : True := trivial
   have tk10 : True := trivial
   go_wp2_with (first
    | go_skip
    | (with_reducible refine wpList_box rfl 25 _ rfl G rfl ?_; intro B W1 hN1 hB hk; replace hX := hX.next hk)
    | (with_reducible refine wpList_loadb (by first | kernel_rfl | with_unfolding_all rfl) 25 _ rfl B rfl G hB _ Try.underlying25 (by kernel_rfl) hzw ?_)
    | (go_at_call 7; (with_reducible refine ((few0 _ hk).yes hfw).mono ?_); rintro e w3 ⟨rfl, hb8⟩; replace hB := hB.next hb8; replace hX := hX.next hb8; replace hk := hk.trans (hb8.mono hk.size); clear hb8)
    | (go_at_call 9; (with_reducible refine (unref_n hX hf hl2 hin).mono ?_); rintro e w5 ⟨V, rfl, hV, hb8⟩; have hzV := hV.size; have hoV := hV.old; have h1V := hV.one; replace hB := hB.next hb8; replace hX := hX.next hb8; replace hk := hk.trans (hb8.mono hk.size); clear hb8)
    | (clear tk7; (with_reducible refine wpList_alloc rfl 25 rfl zW zero43 ?_); intro P7 A7 hN7 hP7a hkA7; have hle7 := hN7.out.1)
    | ((with_reducible refine wpList_store_blk rfl _ _ _ rfl P7 rfl V rfl zW hP7a hzV hoV h1V ?_); intro S7 hP7 o7; have k7 := o7.below _ _ (Nat.le_of_eq hle7) hkA7; clear hP7a hkA7 o7 hN7; replace hB := hB.next k7; replace hX := hX.next k7; replace hV := hV.next k7; replace hk := hk.trans (k7.mono hk.size); clear k7)
    | (go_at_call 10; (with_reducible refine (runref_n hX hf hl2 hin).mono ?_); rintro e w7 ⟨rfl, hb8⟩; have hV2 := hX.next hb8; have hz2 := hV2.size; have ho2 := hV2.old; have h12 := hV2.one; replace hB := hB.next hb8; replace hX := hX.next hb8; replace hV := hV.next hb8; replace hP7 := hP7.next hb8; replace hk := hk.trans (hb8.mono hk.size); clear hb8)
    | (clear tk10; (with_reducible refine wpList_alloc rfl 25 rfl zW zero43 ?_); intro P10 A10 hN10 hP10a hkA10; have hle10 := hN10.out.1)
    | ((with_reducible refine wpList_store_blk rfl _ _ _ rfl P10 rfl G rfl zW hP10a hz2 ho2 h12 ?_); intro S10 hP10 o10; have k10 := o10.below _ _ (Nat.le_of_eq hle10) hkA10; clear hP10a hkA10 o10 hN10; replace hB := hB.next k10; replace hX := hX.next k10; replace hV := hV.next k10; replace hP7 := hP7.next k10; replace hV2 := hV2.next k10; replace hk := hk.trans (k10.mono hk.size); clear k10))
   refine PgM.region_out (S := fun W => Below S10.heap.size S10 W) hmx ((Below.refl _ _).drew) (fun hS => ?_)
   generalize S10.drew = y0 at hS ⊢
   have qe : Hid ((1 : Int) = 1) := rfl
   refine wpAnyH_sym (by kernel_rfl) (fun _ _ _ _ _ h => h) hS [(0, some (.agg V)), (1, some (.agg G))] (l' := #[true, true, false, false, false, false, false, false, false, false, false, false, false, false, false, false, false, false, false, false, false, false, false, false, false, false, false, false]) (a' := { tmps := #[.agg G, .int .u64 a1, .int .u64 a2, .pointer (some ⟨B, 0, none⟩), ud, undef, .bool false, .pointer (some ⟨P7, 0, none⟩), .slice none 0 0, .int .i64 1, .pointer (some ⟨P10, 0, none⟩), .slice none 0 0, .int .i64 1, .agg G, .bool true, .bool false, undef, .tuple #[.agg V, .slice none 0 0, .int .i64 1], .agg G, .int .u64 a1, .int .u64 a2, .tuple #[.agg V, .slice none 0 0, .int .i64 1], .agg V, .slice none 0 0, .int .i64 1, .tuple #[.agg G, .slice none 0 0, .int .i64 1], .agg G, .int .u64 a1, .int .u64 a2, .tuple #[.agg G, .slice none 0 0, .int .i64 1], .agg G, .slice none 0 0, .int .i64 1, .agg V, .agg G, ud, ud, ud, ud, ud, ud, ud, ud, ud, ud, ud, ud, ud, ud, ud, ud, ud, ud, ud, ud, ud, ud, ud, ud, undef], defers := [] }) (obs := [.load 25 P7 0 (.agg V), .load 25 P10 0 (.agg G)]) (n := 26) (by kernel_rfl) (by kernel_rfl) ⟨ob_loadb (fun _ h => hP7.next h) Try.underlying25 (by kernel_rfl) hzV, ob_loadb (fun _ h => hP10.next h) Try.underlying25 (by kernel_rfl) hz2, trivial⟩ ?_
   refine wpAnyH_callL (i := 2) (fuel := 25) (f := 11) (vs := [.agg V, .agg G]) (d := some 35) (by kernel_rfl) (by kernel_rfl) (by kernel_rfl) Try.call11 (rsame_s (hV.next hS) (hV2.next hS)) ?_
   rintro e y1 ⟨rfl, hby1⟩
   have hSy1 : Below S10.heap.size S10 y1 := hS.trans (hby1.mono hS.size)
   refine ⟨_, rfl, hSy1, ?_⟩
   refine wpAnyH_sym (by kernel_rfl) (fun _ _ _ _ _ h => h) hSy1 [(3, none), (4, none), (5, none)] (l' := #[true, true, true, true, true, true, false, false, false, false, false, false, false, false, false, false, false, false, false, false, false, false, false, false, false, false, false, false]) (a' := { tmps := #[.agg G, .int .u64 a1, .int .u64 a2, .pointer (some ⟨B, 0, none⟩), ud, undef, .bool false, .pointer (some ⟨P7, 0, none⟩), .slice none 0 0, .int .i64 1, .pointer (some ⟨P10, 0, none⟩), .slice none 0 0, .int .i64 1, .agg G, .bool true, .bool false, undef, .tuple #[.agg V, .slice none 0 0, .int .i64 1], .agg G, .int .u64 a1, .int .u64 a2, .tuple #[.agg V, .slice none 0 0, .int .i64 1], .agg V, .slice none 0 0, .int .i64 1, .tuple #[.agg G, .slice none 0 0, .int .i64 1], .agg G, .int .u64 a1, .int .u64 a2, .tuple #[.agg G, .slice none 0 0, .int .i64 1], .agg G, .slice none 0 0, .int .i64 1, .agg V, .agg G, .bool true, .bool true, .slice none 0 0, .slice none 0 0, ud, ud, ud, ud, ud, ud, ud, ud, ud, ud, ud, ud, ud, ud, ud, ud, ud, ud, ud, ud, undef], defers := [] }) (obs := []) (n := 22) (by kernel_rfl) (by kernel_rfl) trivial ?_
   refine wpAnyH_callL (i := 6) (fuel := 21) (f := 12) (vs := [.slice none 0 0, .slice none 0 0]) (d := some 39) (by kernel_rfl) (by kernel_rfl) (by kernel_rfl) Try.call12 (rsameW_yes (ct_nil _) (ct_nil _)) ?_
   rintro e y2 ⟨rfl, hby2⟩
   have hSy2 : Below S10.heap.size S10 y2 := hSy1.trans (hby2.mono hSy1.size)
   refine ⟨_, rfl, hSy2, ?_⟩
   refine wpAnyH_sym (by kernel_rfl) (fun _ _ _ _ _ h => h) hSy2 [(7, none), (8, none), (9, none), (10, none), (11, some (.bool true)), (12, none), (13, none), (14, some (.agg G)), (15, none), (16, none), (18, some (.agg G)), (19, none), (20, none)] (l' := #[true, true, true, true, true, true, true, true, true, true, true, true, true, true, true, true, true, false, true, true, true, false, false, false, false, false, false, false]) (a' := { tmps := #[.agg G, .int .u64 a1, .int .u64 a2, .pointer (some ⟨B, 0, none⟩), ud, undef, .bool false, .pointer (some ⟨P7, 0, none⟩), .slice none 0 0, .int .i64 1, .pointer (some ⟨P10, 0, none⟩), .slice none 0 0, .int .i64 1, .agg G, .bool true, .bool false, undef, .tuple #[.agg V, .slice none 0 0, .int .i64 1], .agg G, .int .u64 a1, .int .u64 a2, .tuple #[.agg V, .slice none 0 0, .int .i64 1], .agg V, .slice none 0 0, .int .i64 1, .tuple #[.agg G, .slice none 0 0, .int .i64 1], .agg G, .int .u64 a1, .int .u64 a2, .tuple #[.agg G, .slice none 0 0, .int .i64 1], .agg G, .slice none 0 0, .int .i64 1, .agg V, .agg G, .bool true, .bool true, .slice none 0 0, .slice none 0 0, .bool true, .bool true, .bool true, .int .i64 1, .int .i64 1, .bool true, .bool true, .bool true, .agg G, .int .u64 a1, .int .u64 a2, undef, .agg G, .int .u64 a1, .int .u64 a2, ud, ud, ud, ud, ud, undef], defers := [] }) (obs := [.test .eql 3 (.tmp 42) (.tmp 43) (.int .i64 1) (.int .i64 1) (.bool true), .load 25 B 0 (.agg G), .load 25 B 0 (.agg G)]) (n := 8) (by kernel_rfl) (by kernel_rfl) ⟨ob_yes (fun _ => eqg_int _ _ _ _ _ _) qe, ob_loadb (fun _ h => hB.next h) Try.underlying25 (by kernel_rfl) hzw, ob_loadb (fun _ h => hB.next h) Try.underlying25 (by kernel_rfl) hzw, trivial⟩ ?_
   refine wpAnyH_callL (i := 17) (fuel := 7) (f := 13) (vs := [.agg G, .int .u64 a1, .int .u64 a2]) (d := some 50) (by kernel_rfl) (by kernel_rfl) (by kernel_rfl) Try.call13 (lost_n (hX.next hSy2) hf hl2 hin) ?_
   rintro e y3 ⟨ah, ch, rfl, hc1, hby3⟩
   have hSy3 : Below S10.heap.size S10 y3 := hSy2.trans (hby3.mono hSy2.size)
   refine ⟨_, rfl, hSy3, ?_⟩
   refine wpAnyH_callL (i := 21) (fuel := 6) (f := 14) (vs := [.agg G, .int .u64 a1, .int .u64 a2]) (d := some 54) (by kernel_rfl) (by kernel_rfl) (by kernel_rfl) Try.call14 (rlost_n (hX.next hSy3) hf hl2 hin) ?_
   rintro e y4 ⟨ai, ci, rfl, hc2, hby4⟩
   have hSy4 : Below S10.heap.size S10 y4 := hSy3.trans (hby4.mono hSy3.size)
   replace hc1 := ct_up hc1 hby4
   refine ⟨_, rfl, hSy4, ?_⟩
   refine wpAnyH_callL (i := 22) (fuel := 5) (f := 12) (vs := [.slice ah 0 ch, .slice ai 0 ci]) (d := some 55) (by kernel_rfl) (by kernel_rfl) (by kernel_rfl) Try.call12 (rsameW_yes hc1 hc2) ?_
   rintro e y5 ⟨rfl, hby5⟩
   have hSy5 : Below S10.heap.size S10 y5 := hSy4.trans (hby5.mono hSy4.size)
   refine ⟨_, rfl, hSy5, ?_⟩
   refine wpAnyH_sym (by kernel_rfl) (fun _ _ _ _ _ h => h) hSy5 [(23, none), (24, none)] (l' := #[true, true, true, true, true, true, true, true, true, true, true, true, true, true, true, true, true, true, true, true, true, true, true, true, true, false, false, false]) (a' := { tmps := #[.agg G, .int .u64 a1, .int .u64 a2, .pointer (some ⟨B, 0, none⟩), ud, undef, .bool false, .pointer (some ⟨P7, 0, none⟩), .slice none 0 0, .int .i64 1, .pointer (some ⟨P10, 0, none⟩), .slice none 0 0, .int .i64 1, .agg G, .bool true, .bool false, undef, .tuple #[.agg V, .slice none 0 0, .int .i64 1], .agg G, .int .u64 a1, .int .u64 a2, .tuple #[.agg V, .slice none 0 0, .int .i64 1], .agg V, .slice none 0 0, .int .i64 1, .tuple #[.agg G, .slice none 0 0, .int .i64 1], .agg G, .int .u64 a1, .int .u64 a2, .tuple #[.agg G, .slice none 0 0, .int .i64 1], .agg G, .slice none 0 0, .int .i64 1, .agg V, .agg G, .bool true, .bool true, .slice none 0 0, .slice none 0 0, .bool true, .bool true, .bool true, .int .i64 1, .int .i64 1, .bool true, .bool true, .bool true, .agg G, .int .u64 a1, .int .u64 a2, .slice ah 0 ch, .agg G, .int .u64 a1, .int .u64 a2, .slice ai 0 ci, .bool true, .bool true, .bool true, ud, undef], defers := [] }) (obs := []) (n := 3) (by kernel_rfl) (by kernel_rfl) trivial ?_
   refine wpAnyH_callL (i := 25) (fuel := 2) (f := 8) (vs := []) (d := some 58) (by kernel_rfl) (by kernel_rfl) (by kernel_rfl) Try.call8 (awake15_any _) ?_
   rintro e y6 ⟨rfl, hby6⟩
   have hSy6 : Below S10.heap.size S10 y6 := hSy5.trans (hby6.mono hSy5.size)
   refine ⟨_, rfl, hSy6, ?_⟩
   refine wpAnyH_sym (by kernel_rfl) (fun _ _ _ _ _ h => h) hSy6 [(26, none), (27, none)] (l' := #[true, true, true, true, true, true, true, true, true, true, true, true, true, true, true, true, true, true, true, true, true, true, true, true, true, true, true, true]) (a' := { tmps := #[.agg G, .int .u64 a1, .int .u64 a2, .pointer (some ⟨B, 0, none⟩), ud, undef, .bool true, .pointer (some ⟨P7, 0, none⟩), .slice none 0 0, .int .i64 1, .pointer (some ⟨P10, 0, none⟩), .slice none 0 0, .int .i64 1, .agg G, .bool true, .bool false, undef, .tuple #[.agg V, .slice none 0 0, .int .i64 1], .agg G, .int .u64 a1, .int .u64 a2, .tuple #[.agg V, .slice none 0 0, .int .i64 1], .agg V, .slice none 0 0, .int .i64 1, .tuple #[.agg G, .slice none 0 0, .int .i64 1], .agg G, .int .u64 a1, .int .u64 a2, .tuple #[.agg G, .slice none 0 0, .int .i64 1], .agg G, .slice none 0 0, .int .i64 1, .agg V, .agg G, .bool true, .bool true, .slice none 0 0, .slice none 0 0, .bool true, .bool true, .bool true, .int .i64 1, .int .i64 1, .bool true, .bool true, .bool true, .agg G, .int .u64 a1, .int .u64 a2, .slice ah 0 ch, .agg G, .int .u64 a1, .int .u64 a2, .slice ai 0 ci, .bool true, .bool true, .bool true, .bool true, .bool true], defers := [] }) (obs := []) (n := 0) (by kernel_rfl) (by kernel_rfl) trivial ?_
   refine wpAnyH_done (by kernel_rfl) ?_ _
   replace hk := hk.trans (hSy6.mono hk.size)
   go_wp2
   go_ret
   exact ⟨rfl, hk⟩
 ·go_enter Try.func3, Try.ntmps3
  try simp only [List.append]
  go_wp2_with (first
   | go_skip
   | (with_reducible refine wpList_box rfl 25 _ rfl G rfl ?_; intro B W1 hN1 hB hk; replace hX := hX.next hk)
   | (with_reducible refine wpList_loadb (by first | kernel_rfl | with_unfolding_all rfl) 25 _ rfl B rfl G hB _ Try.underlying25 (by kernel_rfl) hzw ?_)
   | (go_at_call 7; (with_reducible refine ((few0 _ hk).no hfw).mono ?_); rintro e w3 ⟨rfl, hb8⟩; replace hB := hB.next hb8; replace hX := hX.next hb8; replace hk := hk.trans (hb8.mono hk.size); clear hb8)
   | (go_at_call 8; (with_reducible refine (awake15_any _).mono ?_); rintro e w4 ⟨rfl, hb8⟩; replace hk := hk.trans (hb8.mono hk.size)))
  all_goals go_ret
  all_goals exact ⟨rfl, hk⟩

theorem lifted (os : Os) (started : os.Started) (H : Type) (enc : TypeId × Value → H) :
  ReturnsInHanded {} Try.checked os 3 .any (Rows.sweepDoesSpec.pre6 enc Try.prog Try.f3 Rows.sweepDoesRow.domain false) (Rows.sweepDoesSpec.post enc Try.prog Try.f3 false true false false) := by
 refine returnsInHanded_of_change (C := Try.checked) own started (by kernel_rfl) Try.func3
  (ChangeSpec.witness6 (enc := enc) (C := Try.checked) false ⟨#[], #[.agg #[.int .i64 0, .int .u64 0, .int .u64 0, .slice none 0 0], .int .u64 0, .int .u64 0], []⟩ 8 (by kernel_rfl) (by kernel_rfl) (by kernel_rfl) (by kernel_rfl)) ?_
 intro W base args ds gs before hval0 hW hcnd _
 have hval : ∀ (j : Nat) t v, Try.f3.params[j]? = some t → args[j]? = some v → Value.okWide Try.prog W .any base t v := hval0
 have hW' := hW
 obtain ⟨p, q, hA0, hV, rfl, hfz, hnd⟩ := hW
 have hA : DataW.TrodAll enc Try.prog W 0 (fun _ => true) true Try.f3.params.toList args.toList ds p := hA0
 rw [Try.params3] at hA hval
 obtain ⟨v0, vs0, d0, ds0, p0, q0, hargs, rfl, rfl, h0, r0⟩ := trodAll_cons hA
 obtain ⟨v1, vs1, d1, ds1, p1, q1, rfl, rfl, rfl, h1, r1⟩ := trodAll_cons r0
 obtain ⟨v2, vs2, d2, ds2, p2, q2, rfl, rfl, rfl, h2, r2⟩ := trodAll_cons r1
 obtain ⟨rfl, rfl, rfl⟩ := trodAll_nil r2
 obtain rfl : args = #[v0, v1, v2] := by cases args; simp_all
 obtain ⟨rfl, rfl⟩ := trodVars_none hV
 obtain ⟨t0, ke0, ro0, ao0, n0, cap0, X0, rfl, l0⟩ := worldW_of_trod (hval 0 25 v0 rfl rfl) h0
 have k0 := h0
 have lt0 : ∀ x ∈ p0, x.block < W.heap.size := by obtain ⟨m, hm⟩ := k0; exact DataW.trod_lt m _ _ _ hm
 obtain ⟨a1, rfl, rfl, rfl, w1⟩ := open_int Try.underlying22 (hval 1 22 v1 rfl rfl) h1
 obtain ⟨a2, rfl, rfl, rfl, w2⟩ := open_int Try.underlying22 (hval 2 22 v2 rfl rfl) h2
 clear hA0 hval0
 refine (walk t0 ke0 ro0 ao0 n0 cap0 X0 a1 a2 W l0 w1 w2).mono fun e W' ⟨he, bel⟩ => ?_
 subst he
 exact ⟨_, rfl, _, _, _, [], _, [], hW', trodAll_mk1 (shut_bool Try.underlying4 _), (trodAll_cons_mk (Below.trod laidOut (by kernel_rfl) (of_decide_eq_true (by kernel_rfl)) k0 bel lt0) (trodAll_cons_mk (shut_int Try.underlying22 w1) (trodAll_cons_mk (shut_int Try.underlying22 w2) trodAll_mk0))), rfl, bel.frame _, fun h => by cases h⟩

theorem over : Rows.sweepDoesRow.holds Try.pinned (OpenSpec.ofChange Rows.sweepDoesSpec) :=
 OpenClaim.holds_of_wide 3 Try.f3 rfl rfl rfl rfl rfl rfl rfl ⟨rfl, rfl, rfl, rfl, rfl⟩ rfl rfl rfl rfl rfl (by kernel_rfl) Try.func3 (by kernel_rfl)
  (of_decide_eq_true (by kernel_rfl)) (by unfold Func.isWrapper; first | (rw [if_pos (by decide +kernel)]; kernel_rfl) | (rw [if_neg (by decide +kernel)]; exact ⟨rfl, rfl⟩))
  (fun os started H enc _ => lifted os started H enc)

end sweepDoes
theorem sweepDoes_holds : Rows.SweepDoesSaid :=
 sweepDoes.over
#print axioms sweepDoes_holds
end Go.Proofs.Ytcmcakandbpjfaa
