/-
  PROVED HERE: TreeTells, over the landed code. No condition.
-/
import Derived.Test.YtnhjfjhbmekamaaGreatRows
import Derived.WalkKit
import Derived.ProofKit
import Derived.OpenShut
import Derived.Below
import Derived.Deep.QuietTactic
import Derived.Test.YtnhjfjhbmekamaaGreatZ19
import Derived.Test.YtnhjfjhbmekamaaGreatZ41
namespace Go.Proofs.YtnhjfjhbmekamaaGreat
set_option maxRecDepth 100000
set_option maxHeartbeats 8000000
namespace treeTells
open Go.ChangeShapes Go.WideShapes Go.ChangeAt Go.RowKit
set_option linter.unusedVariables false
theorem own : ownKnob Tryz.prog.godebug = none := by kernel_rfl
theorem walk (t0 : Int) (ke0 : Nat) (ro0 : Int) (ao0 : Option Addr) (n0 cap0 : Nat) (X0 : List Ob) (C1 : Array Value) (x1 : Ob) (a2 : Int) (w : World) (l0 : Obs w ao0 n0 cap0 X0 ∧ ∀ x ∈ X0, WdO x) (l1 : ObD (LtN w) w C1 x1) (w2 : (Lit.int .u64 a2).wf = true) :
  Calls Tryz.prog 3 #[.agg #[.int .i64 t0, .int .u64 (ke0 : Int), .int .u64 ro0, .slice ao0 n0 cap0], .agg C1, .int .u64 a2] w fun e w' => e = .returned (.bool true) ∧ Below w.heap.size w w' := by
 have hmx : Tryz.prog.follows .mixedOrders = true := by kernel_rfl
 obtain ⟨l0, hw0⟩ := l0
 have hn : Hid (X0.length = n0) := l0.1
 have hz1 := l1.size
 obtain ⟨a5, n5, k5, c5, l5⟩ := l1.links
 obtain ⟨a6, n6, k6, c6, l6⟩ := l1.data
 have hzw : (Tryz.prog.info? 25).map (·.size) = some (#[.int .i64 t0, .int .u64 (ke0 : Int), .int .u64 ro0, .slice ao0 n0 cap0] : Array Value).size := by kernel_rfl
 have few0 := fun (W : World) (hk : Below w.heap.size w W) => few14_any (t := t0) (ke := (ke0 : Int)) (ro := ro0) (obs_next l0 hk)
 have rft0 := fun (W : World) (hk : Below w.heap.size w W) => rfit_v0 (t := t0) (ke := (ke0 : Int)) (ro := ro0) (obs_next l0 hk)
 have snd0 := fun (W : World) (hk : Below w.heap.size w W) => rsound_any (l1.next hk)
 by_cases hfw : few14P X0
 ·have hsm : fitW ⟨t0, ke0, ro0, X0⟩ = true → Smalls X0 := fun q => few_smalls hfw q
  have hn16 : n0 ≤ 16 := by rw [← hn.out]; exact hfw.1
  obtain ⟨Cf, hF⟩ := l0.fam
  have tf0 := fun (W : World) (hk : Below w.heap.size w W) => tfit_v (t := t0) (key := ke0) (ro := ro0) (hF.next hk) hsm hw0
  have rf0 := fun (W : World) (hk : Below w.heap.size w W) => rtfit_w (t := t0) (key := ke0) (ro := ro0) (obs_next l0 hk) hsm hw0
  simp only [fit_eq] at tf0
  cases hbW : fitW ⟨t0, ke0, ro0, X0⟩ with
  | false =>
   have hbF : fitD t0 ke0 ro0 X0 = false := by unfold fitD; rw [hbW]; rfl
   simp only [hbF] at tf0 rf0
   simp only [hbW] at rft0
   obtain ⟨G, hG⟩ : ∃ G : Array Value, G = #[.int .i64 t0, .int .u64 (ke0 : Int), .int .u64 ro0, .slice ao0 n0 cap0] := ⟨_, rfl⟩
   simp only [← hG] at few0 rft0 tf0 rf0
   rw [← hG] at hzw
   rw [← hG]
   clear hG
   go_enter Tryz.func3, Tryz.ntmps3
   try simp only [List.append]
   go_wp2_with (first
    | go_skip
    | (with_reducible refine wpList_box rfl 25 _ rfl G rfl ?_; intro B W1 hN1 hB hk)
    | (with_reducible refine wpList_box rfl 43 _ rfl C1 rfl ?_; intro Bo W2 hN2 hBo hb8; replace hB := hB.next hb8; replace hk := hk.trans (hb8.mono hk.size); clear hb8)
    | (with_reducible refine wpList_loadb (by kernel_rfl) 25 _ rfl B rfl G hB _ Tryz.underlying25 (by kernel_rfl) hzw ?_)
    | (with_reducible refine wpList_loadb (by kernel_rfl) 43 _ rfl Bo rfl C1 hBo _ Tryz.underlying43 (by kernel_rfl) (size40C hz1) ?_)
    | (with_reducible refine wpList_load1 (by kernel_rfl) _ _ rfl Bo _ rfl _ _ hBo _ c5 Tryz.isAgg28 ?_)
    | (with_reducible refine wpList_load1 (by kernel_rfl) _ _ rfl Bo _ rfl _ _ hBo _ c6 Tryz.isAgg28 ?_)
    | (go_at_call 8; (with_reducible refine ((few0 _ hk).yes hfw).mono ?_); rintro e w3 ⟨rfl, hb8⟩; replace hB := hB.next hb8; replace hBo := hBo.next hb8; replace hk := hk.trans (hb8.mono hk.size); clear hb8)
    | ((with_reducible refine wpList_test (by kernel_rfl) .gtr 3 _ _ _ rfl (.int .i64 (n5 : Int)) _ rfl rfl (tgt_int _ _ _ _ _ _) ?_ ?_) <;> intro e5)
    | ((with_reducible refine wpList_test (by kernel_rfl) .gtr 3 _ _ _ rfl (.int .i64 (n6 : Int)) _ rfl rfl (tgt_int _ _ _ _ _ _) ?_ ?_) <;> intro e6)
    | (go_at_call 9; (with_reducible refine (awake14_any _).mono ?_); rintro e w4 ⟨rfl, hb8⟩; replace hk := hk.trans (hb8.mono hk.size)))
   all_goals (try (go_ret; exact ⟨rfl, hk⟩))
   have qn : Hid (¬ ¬ false = false) := fun q => q rfl
   refine PgM.region_out (S := fun W => Below w3.heap.size w3 W) hmx ((Below.refl _ _).drew) (fun hS => ?_)
   generalize w3.drew = x0 at hS ⊢
   refine wpAnyH_sym (by kernel_rfl) (fun _ _ _ _ _ h => h) hS [(0, some (.agg G)), (2, some (.agg G))] (l' := #[true, false, true, false, false]) (a' := { tmps := #[.agg G, .agg C1, .int .u64 a2, .pointer (some ⟨B, 0, none⟩), .pointer (some ⟨Bo, 0, none⟩), undef, .bool false, .agg G, .bool true, .bool false, .bool false, .pointer (some ⟨Bo, 5, none⟩), .slice a5 n5 k5, .int .i64 n5, .bool false, .bool false, .bool false, .pointer (some ⟨Bo, 6, none⟩), .slice a6 n6 k6, .int .i64 n6, .bool false, .bool false, undef, .agg G, undef, .agg G, undef, undef, undef, undef, undef, undef, undef, undef, undef, undef, undef, undef, undef, undef, undef, undef, undef, undef, undef, undef, undef, undef, undef, undef, undef, undef, undef, undef, undef, undef, undef, undef, undef, undef, undef, undef, undef, undef, undef, undef, undef, undef, undef, undef, undef, undef, undef, undef, undef, undef, undef, undef, undef], defers := [] }) (obs := [.load 25 B 0 (.agg G), .load 25 B 0 (.agg G)]) (n := 3) (by kernel_rfl) (by kernel_rfl) ⟨ob_loadb (fun _ h => hB.next h) Tryz.underlying25 (by kernel_rfl) hzw, ob_loadb (fun _ h => hB.next h) Tryz.underlying25 (by kernel_rfl) hzw, trivial⟩ ?_
   refine wpAnyH_callL (i := 1) (fuel := 2) (f := 10) (vs := [.agg G]) (d := some 24) (by kernel_rfl) (by kernel_rfl) (by kernel_rfl) Tryz.call10 (tf0 _ (hk.trans (hS.mono hk.size))) ?_
   rintro e x1 ⟨rfl, hbx1⟩
   have hSx1 := hS.trans (hbx1.mono hS.size)
   refine ⟨_, rfl, hSx1, ?_⟩
   refine wpAnyH_callL (i := 3) (fuel := 1) (f := 11) (vs := [.agg G]) (d := some 26) (by kernel_rfl) (by kernel_rfl) (by kernel_rfl) Tryz.call11 (rf0 _ (hk.trans (hSx1.mono hk.size))) ?_
   rintro e x2 ⟨rfl, hbx2⟩
   have hSx2 := hSx1.trans (hbx2.mono hSx1.size)
   refine ⟨_, rfl, hSx2, ?_⟩
   refine wpAnyH_sym (by kernel_rfl) (fun _ _ _ _ _ h => h) hSx2 [(4, some (.bool false))] (l' := #[true, true, true, true, true]) (a' := { tmps := #[.agg G, .agg C1, .int .u64 a2, .pointer (some ⟨B, 0, none⟩), .pointer (some ⟨Bo, 0, none⟩), undef, .bool false, .agg G, .bool true, .bool false, .bool false, .pointer (some ⟨Bo, 5, none⟩), .slice a5 n5 k5, .int .i64 n5, .bool false, .bool false, .bool false, .pointer (some ⟨Bo, 6, none⟩), .slice a6 n6 k6, .int .i64 n6, .bool false, .bool false, undef, .agg G, .bool false, .agg G, .bool false, .bool false, undef, undef, undef, undef, undef, undef, undef, undef, undef, undef, undef, undef, undef, undef, undef, undef, undef, undef, undef, undef, undef, undef, undef, undef, undef, undef, undef, undef, undef, undef, undef, undef, undef, undef, undef, undef, undef, undef, undef, undef, undef, undef, undef, undef, undef, undef, undef, undef, undef, undef, undef], defers := [] }) (obs := [.test .neq 4 (.tmp 24) (.tmp 26) (.bool false) (.bool false) (.bool false)]) (n := 0) (by kernel_rfl) (by kernel_rfl) ⟨ob_no (fun _ => neg_bool _ _ _ _) qn, trivial⟩ ?_
   refine wpAnyH_done (by kernel_rfl) ?_ _
   replace hB := hB.next hSx2
   replace hBo := hBo.next hSx2
   replace hk := hk.trans (hSx2.mono hk.size)
   go_wp2_with (first
    | go_skip
    | (with_reducible refine wpList_loadb (by kernel_rfl) 25 _ rfl B rfl G hB _ Tryz.underlying25 (by kernel_rfl) hzw ?_)
    | (with_reducible refine wpList_loadb (by kernel_rfl) 43 _ rfl Bo rfl C1 hBo _ Tryz.underlying43 (by kernel_rfl) (size40C hz1) ?_)
    | (go_at_call 12; (with_reducible refine (rft0 _ hk).mono ?_); rintro e w6 ⟨rfl, hb8⟩; replace hB := hB.next hb8; replace hBo := hBo.next hb8; replace hk := hk.trans (hb8.mono hk.size); clear hb8)
    | (go_at_call 9; (with_reducible refine (awake14_any _).mono ?_); rintro e w4 ⟨rfl, hb8⟩; replace hk := hk.trans (hb8.mono hk.size)))
   go_ret
   exact ⟨rfl, hk⟩
  | true =>
   by_cases hso : soundB x1 = true
   ·have hs1 := sound_small0 hso
    have hq1 := (sound_q hso).1
    have hpe := pag_eq hso
    have hsX := hsm hbW
    obtain ⟨hsr, hsn, _⟩ := fit_mem hbW
    have hq : ∀ x ∈ X0, 0 ≤ x.quota ∧ x.quota ≤ 4096 := fun x hx => (sound_q (hsn x hx)).1
    have us0 := fun {W : World} {C : Array Value} (hk : Below w.heap.size w W) (hC : ObD (LtN W) W C x1) => uses_w (t := t0) (ke := (ke0 : Int)) (ro := ro0) (hF.next hk) hsr (by omega) hq hC hs1
    have ru0 := fun {W : World} {C : Array Value} (hk : Below w.heap.size w W) (hC : ObD (LtN W) W C x1) => ruses_w (t := t0) (ke := (ke0 : Int)) (ro := ro0) (obs_next l0 hk) hq hC hs1
    have rm0 := fun {W : World} {C : Array Value} (hk : Below w.heap.size w W) (hC : ObD (LtN W) W C x1) => room_w (t := t0) (ke := (ke0 : Int)) (ro := ro0) (hF.next hk) hsr (by omega) hq hC hs1 hq1
    have rr0 := fun {W : World} {C : Array Value} (hk : Below w.heap.size w W) (hC : ObD (LtN W) W C x1) => rroom_w (t := t0) (ke := (ke0 : Int)) (ro := ro0) (obs_next l0 hk) hq hC hs1 hq1
    have ho0 := fun {W : World} (hk : Below w.heap.size w W) => holders_w (t := t0) (ke := (ke0 : Int)) (ro := ro0) (i := a2) (obs_next l0 hk) (by omega)
    have rh0 := fun {W : World} (hk : Below w.heap.size w W) => rholders_any (t := t0) (ke := (ke0 : Int)) (ro := ro0) (i := a2) (obs_next l0 hk) (by omega)
    have ta0 := fun {W : World} (hk : Below w.heap.size w W) => tabove_v (t := t0) (ke := (ke0 : Int)) (ro := ro0) (i := a2) (hF.next hk) hsr (by omega) (fun x hx => (hsX x hx).c5)
    have ra0 := fun {W : World} (hk : Below w.heap.size w W) => rabove_w (t := t0) (ke := (ke0 : Int)) (ro := ro0) (i := a2) (obs_next l0 hk) (by omega)
    obtain ⟨us, hus⟩ : ∃ us, usesN X0 x1 = us := ⟨_, rfl⟩
    obtain ⟨rm, hrm⟩ : ∃ rm, roomN X0 x1 = rm := ⟨_, rfl⟩
    have hus2 : pagO x1 + (x1.links.map (qOf X0)).sum = us := by rw [hpe, ← hus]; rfl
    have hrm2 : x1.quota - (pagO x1 + (x1.links.map (qOf X0)).sum) = rm := by rw [hpe, ← hrm]; rfl
    simp only [hrm2] at rm0
    simp only [hus2] at us0
    simp only [hus] at ru0
    simp only [hrm] at rr0
    simp only [hbW] at rft0
    clear hus hrm hus2 hrm2
    cases hbF : fitD t0 ke0 ro0 X0 with
    | false =>
     simp only [hbF] at tf0 rf0
     obtain ⟨G, hG⟩ : ∃ G : Array Value, G = #[.int .i64 t0, .int .u64 (ke0 : Int), .int .u64 ro0, .slice ao0 n0 cap0] := ⟨_, rfl⟩
     simp only [← hG] at few0 rft0 tf0 rf0 us0 ru0 rm0 rr0 ho0 rh0 ta0 ra0
     rw [← hG] at hzw
     rw [← hG]
     clear hG
     go_enter Tryz.func3, Tryz.ntmps3
     try simp only [List.append]
     go_wp2_with (first
      | go_skip
      | (with_reducible refine wpList_box rfl 25 _ rfl G rfl ?_; intro B W1 hN1 hB hk)
      | (with_reducible refine wpList_box rfl 43 _ rfl C1 rfl ?_; intro Bo W2 hN2 hBo hb8; replace hB := hB.next hb8; replace hk := hk.trans (hb8.mono hk.size); clear hb8)
      | (with_reducible refine wpList_loadb (by kernel_rfl) 25 _ rfl B rfl G hB _ Tryz.underlying25 (by kernel_rfl) hzw ?_)
      | (with_reducible refine wpList_loadb (by kernel_rfl) 43 _ rfl Bo rfl C1 hBo _ Tryz.underlying43 (by kernel_rfl) (size40C hz1) ?_)
      | (with_reducible refine wpList_load1 (by kernel_rfl) _ _ rfl Bo _ rfl _ _ hBo _ c5 Tryz.isAgg28 ?_)
      | (with_reducible refine wpList_load1 (by kernel_rfl) _ _ rfl Bo _ rfl _ _ hBo _ c6 Tryz.isAgg28 ?_)
      | (go_at_call 8; (with_reducible refine ((few0 _ hk).yes hfw).mono ?_); rintro e w3 ⟨rfl, hb8⟩; replace hB := hB.next hb8; replace hBo := hBo.next hb8; replace hk := hk.trans (hb8.mono hk.size); clear hb8)
      | ((with_reducible refine wpList_test (by kernel_rfl) .gtr 3 _ _ _ rfl (.int .i64 (n5 : Int)) _ rfl rfl (tgt_int _ _ _ _ _ _) ?_ ?_) <;> intro e5)
      | ((with_reducible refine wpList_test (by kernel_rfl) .gtr 3 _ _ _ rfl (.int .i64 (n6 : Int)) _ rfl rfl (tgt_int _ _ _ _ _ _) ?_ ?_) <;> intro e6)
      | (go_at_call 9; (with_reducible refine (awake14_any _).mono ?_); rintro e w4 ⟨rfl, hb8⟩; replace hk := hk.trans (hb8.mono hk.size)))
     all_goals (try (go_ret; exact ⟨rfl, hk⟩))
     have qn : Hid (¬ ¬ false = false) := fun q => q rfl
     refine PgM.region_out (S := fun W => Below w3.heap.size w3 W) hmx ((Below.refl _ _).drew) (fun hS => ?_)
     generalize w3.drew = x0 at hS ⊢
     refine wpAnyH_sym (by kernel_rfl) (fun _ _ _ _ _ h => h) hS [(0, some (.agg G)), (2, some (.agg G))] (l' := #[true, false, true, false, false]) (a' := { tmps := #[.agg G, .agg C1, .int .u64 a2, .pointer (some ⟨B, 0, none⟩), .pointer (some ⟨Bo, 0, none⟩), undef, .bool false, .agg G, .bool true, .bool false, .bool false, .pointer (some ⟨Bo, 5, none⟩), .slice a5 n5 k5, .int .i64 n5, .bool false, .bool false, .bool false, .pointer (some ⟨Bo, 6, none⟩), .slice a6 n6 k6, .int .i64 n6, .bool false, .bool false, undef, .agg G, undef, .agg G, undef, undef, undef, undef, undef, undef, undef, undef, undef, undef, undef, undef, undef, undef, undef, undef, undef, undef, undef, undef, undef, undef, undef, undef, undef, undef, undef, undef, undef, undef, undef, undef, undef, undef, undef, undef, undef, undef, undef, undef, undef, undef, undef, undef, undef, undef, undef, undef, undef, undef, undef, undef, undef], defers := [] }) (obs := [.load 25 B 0 (.agg G), .load 25 B 0 (.agg G)]) (n := 3) (by kernel_rfl) (by kernel_rfl) ⟨ob_loadb (fun _ h => hB.next h) Tryz.underlying25 (by kernel_rfl) hzw, ob_loadb (fun _ h => hB.next h) Tryz.underlying25 (by kernel_rfl) hzw, trivial⟩ ?_
     refine wpAnyH_callL (i := 1) (fuel := 2) (f := 10) (vs := [.agg G]) (d := some 24) (by kernel_rfl) (by kernel_rfl) (by kernel_rfl) Tryz.call10 (tf0 _ (hk.trans (hS.mono hk.size))) ?_
     rintro e x1 ⟨rfl, hbx1⟩
     have hSx1 := hS.trans (hbx1.mono hS.size)
     refine ⟨_, rfl, hSx1, ?_⟩
     refine wpAnyH_callL (i := 3) (fuel := 1) (f := 11) (vs := [.agg G]) (d := some 26) (by kernel_rfl) (by kernel_rfl) (by kernel_rfl) Tryz.call11 (rf0 _ (hk.trans (hSx1.mono hk.size))) ?_
     rintro e x2 ⟨rfl, hbx2⟩
     have hSx2 := hSx1.trans (hbx2.mono hSx1.size)
     refine ⟨_, rfl, hSx2, ?_⟩
     refine wpAnyH_sym (by kernel_rfl) (fun _ _ _ _ _ h => h) hSx2 [(4, some (.bool false))] (l' := #[true, true, true, true, true]) (a' := { tmps := #[.agg G, .agg C1, .int .u64 a2, .pointer (some ⟨B, 0, none⟩), .pointer (some ⟨Bo, 0, none⟩), undef, .bool false, .agg G, .bool true, .bool false, .bool false, .pointer (some ⟨Bo, 5, none⟩), .slice a5 n5 k5, .int .i64 n5, .bool false, .bool false, .bool false, .pointer (some ⟨Bo, 6, none⟩), .slice a6 n6 k6, .int .i64 n6, .bool false, .bool false, undef, .agg G, .bool false, .agg G, .bool false, .bool false, undef, undef, undef, undef, undef, undef, undef, undef, undef, undef, undef, undef, undef, undef, undef, undef, undef, undef, undef, undef, undef, undef, undef, undef, undef, undef, undef, undef, undef, undef, undef, undef, undef, undef, undef, undef, undef, undef, undef, undef, undef, undef, undef, undef, undef, undef, undef, undef, undef, undef, undef], defers := [] }) (obs := [.test .neq 4 (.tmp 24) (.tmp 26) (.bool false) (.bool false) (.bool false)]) (n := 0) (by kernel_rfl) (by kernel_rfl) ⟨ob_no (fun _ => neg_bool _ _ _ _) qn, trivial⟩ ?_
     refine wpAnyH_done (by kernel_rfl) ?_ _
     replace hB := hB.next hSx2
     replace hBo := hBo.next hSx2
     replace hk := hk.trans (hSx2.mono hk.size)
     go_wp2_with (first
      | go_skip
      | (with_reducible refine wpList_loadb (by kernel_rfl) 25 _ rfl B rfl G hB _ Tryz.underlying25 (by kernel_rfl) hzw ?_)
      | (with_reducible refine wpList_loadb (by kernel_rfl) 43 _ rfl Bo rfl C1 hBo _ Tryz.underlying43 (by kernel_rfl) (size40C hz1) ?_)
      | (go_at_call 12; (with_reducible refine (rft0 _ hk).mono ?_); rintro e w6 ⟨rfl, hb8⟩; replace hB := hB.next hb8; replace hBo := hBo.next hb8; replace hk := hk.trans (hb8.mono hk.size); clear hb8)
      | (go_at_call 13; (with_reducible refine ((snd0 _ hk).yes hso).mono ?_); rintro e w7 ⟨rfl, hb8⟩; replace hB := hB.next hb8; replace hBo := hBo.next hb8; replace hk := hk.trans (hb8.mono hk.size); clear hb8))
     have qu : Hid (us = us) := rfl
     have qm : Hid (rm = rm) := rfl
     refine PgM.region_out (S := fun W => Below w7.heap.size w7 W) hmx ((Below.refl _ _).drew) (fun hS => ?_)
     generalize w7.drew = y0 at hS ⊢
     refine wpAnyH_sym (by kernel_rfl) (fun _ _ _ _ _ h => h) hS [(0, some (.agg G)), (1, some (.agg C1)), (3, some (.agg G)), (4, some (.agg C1))] (l' := #[true, true, false, true, true, false, false, false, false, false, false, false, false, false, false, false, false, false, false, false, false, false, false, false, false, false, false, false, false, false, false, false, false, false, false, false, false, false, false, false, false, false, false]) (a' := { tmps := #[.agg G, .agg C1, .int .u64 a2, .pointer (some ⟨B, 0, none⟩), .pointer (some ⟨Bo, 0, none⟩), undef, .bool false, .agg G, .bool true, .bool false, .bool false, .pointer (some ⟨Bo, 5, none⟩), .slice a5 n5 k5, .int .i64 n5, .bool false, .bool false, .bool false, .pointer (some ⟨Bo, 6, none⟩), .slice a6 n6 k6, .int .i64 n6, .bool false, .bool false, undef, .agg G, .bool false, .agg G, .bool false, .bool false, .agg G, .bool true, .bool false, .bool false, .agg C1, .bool true, .bool false, .bool false, undef, .agg G, .agg C1, undef, .agg G, .agg C1, undef, undef, undef, undef, undef, undef, undef, undef, undef, undef, undef, undef, undef, undef, undef, undef, undef, undef, undef, undef, undef, undef, undef, undef, undef, undef, undef, undef, undef, undef, undef, undef, undef, undef, undef, undef, undef], defers := [] }) (obs := [.load 25 B 0 (.agg G), .load 43 Bo 0 (.agg C1), .load 25 B 0 (.agg G), .load 43 Bo 0 (.agg C1)]) (n := 39) (by kernel_rfl) (by kernel_rfl) ⟨ob_loadb (fun _ h => hB.next h) Tryz.underlying25 (by kernel_rfl) hzw, ob_loadb (fun _ h => hBo.next h) Tryz.underlying43 (by kernel_rfl) (size40C hz1), ob_loadb (fun _ h => hB.next h) Tryz.underlying25 (by kernel_rfl) hzw, ob_loadb (fun _ h => hBo.next h) Tryz.underlying43 (by kernel_rfl) (size40C hz1), trivial⟩ ?_
     refine wpAnyH_callL (i := 2) (fuel := 38) (f := 14) (vs := [.agg G, .agg C1]) (d := some 39) (by kernel_rfl) (by kernel_rfl) (by kernel_rfl) Tryz.call14 (us0 (hk.trans (hS.mono hk.size)) (l1.next (hk.trans (hS.mono hk.size)))) ?_
     rintro e y1 ⟨rfl, hby1⟩
     have hSy1 := hS.trans (hby1.mono hS.size)
     refine ⟨_, rfl, hSy1, ?_⟩
     refine wpAnyH_callL (i := 5) (fuel := 37) (f := 15) (vs := [.agg G, .agg C1]) (d := some 42) (by kernel_rfl) (by kernel_rfl) (by kernel_rfl) Tryz.call15 (ru0 (hk.trans (hSy1.mono hk.size)) (l1.next (hk.trans (hSy1.mono hk.size)))) ?_
     rintro e y2 ⟨rfl, hby2⟩
     have hSy2 := hSy1.trans (hby2.mono hSy1.size)
     refine ⟨_, rfl, hSy2, ?_⟩
     refine wpAnyH_sym (by kernel_rfl) (fun _ _ _ _ _ h => h) hSy2 [(6, some (.bool true)), (7, none), (8, some (.agg G)), (9, some (.agg C1)), (11, some (.agg G)), (12, some (.agg C1))] (l' := #[true, true, true, true, true, true, true, true, true, true, false, true, true, false, false, false, false, false, false, false, false, false, false, false, false, false, false, false, false, false, false, false, false, false, false, false, false, false, false, false, false, false, false]) (a' := { tmps := #[.agg G, .agg C1, .int .u64 a2, .pointer (some ⟨B, 0, none⟩), .pointer (some ⟨Bo, 0, none⟩), undef, .bool false, .agg G, .bool true, .bool false, .bool false, .pointer (some ⟨Bo, 5, none⟩), .slice a5 n5 k5, .int .i64 n5, .bool false, .bool false, .bool false, .pointer (some ⟨Bo, 6, none⟩), .slice a6 n6 k6, .int .i64 n6, .bool false, .bool false, undef, .agg G, .bool false, .agg G, .bool false, .bool false, .agg G, .bool true, .bool false, .bool false, .agg C1, .bool true, .bool false, .bool false, undef, .agg G, .agg C1, .int .i64 us, .agg G, .agg C1, .int .i64 us, .bool true, .bool true, .agg G, .agg C1, undef, .agg G, .agg C1, undef, undef, undef, undef, undef, undef, undef, undef, undef, undef, undef, undef, undef, undef, undef, undef, undef, undef, undef, undef, undef, undef, undef, undef, undef, undef, undef, undef, undef], defers := [] }) (obs := [.test .eql 3 (.tmp 39) (.tmp 42) (.int .i64 us) (.int .i64 us) (.bool true), .load 25 B 0 (.agg G), .load 43 Bo 0 (.agg C1), .load 25 B 0 (.agg G), .load 43 Bo 0 (.agg C1)]) (n := 31) (by kernel_rfl) (by kernel_rfl) ⟨ob_yes (fun _ => eqg_int _ _ _ _ _ _) qu, ob_loadb (fun _ h => hB.next h) Tryz.underlying25 (by kernel_rfl) hzw, ob_loadb (fun _ h => hBo.next h) Tryz.underlying43 (by kernel_rfl) (size40C hz1), ob_loadb (fun _ h => hB.next h) Tryz.underlying25 (by kernel_rfl) hzw, ob_loadb (fun _ h => hBo.next h) Tryz.underlying43 (by kernel_rfl) (size40C hz1), trivial⟩ ?_
     refine wpAnyH_callL (i := 10) (fuel := 30) (f := 16) (vs := [.agg G, .agg C1]) (d := some 47) (by kernel_rfl) (by kernel_rfl) (by kernel_rfl) Tryz.call16 (rm0 (hk.trans (hSy2.mono hk.size)) (l1.next (hk.trans (hSy2.mono hk.size)))) ?_
     rintro e y3 ⟨rfl, hby3⟩
     have hSy3 := hSy2.trans (hby3.mono hSy2.size)
     refine ⟨_, rfl, hSy3, ?_⟩
     refine wpAnyH_callL (i := 13) (fuel := 29) (f := 17) (vs := [.agg G, .agg C1]) (d := some 50) (by kernel_rfl) (by kernel_rfl) (by kernel_rfl) Tryz.call17 (rr0 (hk.trans (hSy3.mono hk.size)) (l1.next (hk.trans (hSy3.mono hk.size)))) ?_
     rintro e y4 ⟨rfl, hby4⟩
     have hSy4 := hSy3.trans (hby4.mono hSy3.size)
     refine ⟨_, rfl, hSy4, ?_⟩
     refine wpAnyH_sym (by kernel_rfl) (fun _ _ _ _ _ h => h) hSy4 [(14, some (.bool true)), (15, none), (16, none), (17, some (.agg G)), (18, none), (20, some (.agg G)), (21, none)] (l' := #[true, true, true, true, true, true, true, true, true, true, true, true, true, true, true, true, true, true, true, false, true, true, false, false, false, false, false, false, false, false, false, false, false, false, false, false, false, false, false, false, false, false, false]) (a' := { tmps := #[.agg G, .agg C1, .int .u64 a2, .pointer (some ⟨B, 0, none⟩), .pointer (some ⟨Bo, 0, none⟩), undef, .bool false, .agg G, .bool true, .bool false, .bool false, .pointer (some ⟨Bo, 5, none⟩), .slice a5 n5 k5, .int .i64 n5, .bool false, .bool false, .bool false, .pointer (some ⟨Bo, 6, none⟩), .slice a6 n6 k6, .int .i64 n6, .bool false, .bool false, undef, .agg G, .bool false, .agg G, .bool false, .bool false, .agg G, .bool true, .bool false, .bool false, .agg C1, .bool true, .bool false, .bool false, undef, .agg G, .agg C1, .int .i64 us, .agg G, .agg C1, .int .i64 us, .bool true, .bool true, .agg G, .agg C1, .int .i64 rm, .agg G, .agg C1, .int .i64 rm, .bool true, .bool true, .bool true, .agg G, .int .u64 a2, undef, .agg G, .int .u64 a2, undef, undef, undef, undef, undef, undef, undef, undef, undef, undef, undef, undef, undef, undef, undef, undef, undef, undef, undef, undef], defers := [] }) (obs := [.test .eql 3 (.tmp 47) (.tmp 50) (.int .i64 rm) (.int .i64 rm) (.bool true), .load 25 B 0 (.agg G), .load 25 B 0 (.agg G)]) (n := 22) (by kernel_rfl) (by kernel_rfl) ⟨ob_yes (fun _ => eqg_int _ _ _ _ _ _) qm, ob_loadb (fun _ h => hB.next h) Tryz.underlying25 (by kernel_rfl) hzw, ob_loadb (fun _ h => hB.next h) Tryz.underlying25 (by kernel_rfl) hzw, trivial⟩ ?_
     refine wpAnyH_callL (i := 19) (fuel := 21) (f := 19) (vs := [.agg G, .int .u64 a2]) (d := some 56) (by kernel_rfl) (by kernel_rfl) (by kernel_rfl) Tryz.call19 (ho0 (hk.trans (hSy4.mono hk.size))) ?_
     rintro e y5 ⟨v, rfl, hw1, hby5⟩
     have hSy5 := hSy4.trans (hby5.mono hSy4.size)
     refine ⟨_, rfl, hSy5, ?_⟩
     obtain ⟨ah, ch, rfl, hc1⟩ := own_ct hw1
     replace hc1 := hc1.wide (D' := LtN y5) fun b hb => hb.2
     refine wpAnyH_callL (i := 22) (fuel := 20) (f := 20) (vs := [.agg G, .int .u64 a2]) (d := some 59) (by kernel_rfl) (by kernel_rfl) (by kernel_rfl) Tryz.call20 (rh0 (hk.trans (hSy5.mono hk.size))) ?_
     rintro e y6 ⟨v, rfl, hw2, hby6⟩
     have hSy6 := hSy5.trans (hby6.mono hSy5.size)
     refine ⟨_, rfl, hSy6, ?_⟩
     obtain ⟨ai, ci, rfl, hc2⟩ := own_ct hw2
     replace hc2 := hc2.wide (D' := LtN y6) fun b hb => hb.2
     replace hc1 := ct_up hc1 hby6
     refine wpAnyH_callL (i := 23) (fuel := 19) (f := 18) (vs := [.slice ah (holL X0 a2).length ch, .slice ai (holL X0 a2).length ci]) (d := some 60) (by kernel_rfl) (by kernel_rfl) (by kernel_rfl) Tryz.call18 (rsameW_yes hc1 hc2) ?_
     rintro e y7 ⟨rfl, hby7⟩
     have hSy7 := hSy6.trans (hby7.mono hSy6.size)
     refine ⟨_, rfl, hSy7, ?_⟩
     refine wpAnyH_sym (by kernel_rfl) (fun _ _ _ _ _ h => h) hSy7 [(24, none), (25, none), (26, some (.agg G))] (l' := #[true, true, true, true, true, true, true, true, true, true, true, true, true, true, true, true, true, true, true, true, true, true, true, true, true, true, true, false, false, false, false, false, false, false, false, false, false, false, false, false, false, false, false]) (a' := { tmps := #[.agg G, .agg C1, .int .u64 a2, .pointer (some ⟨B, 0, none⟩), .pointer (some ⟨Bo, 0, none⟩), undef, .bool false, .agg G, .bool true, .bool false, .bool false, .pointer (some ⟨Bo, 5, none⟩), .slice a5 n5 k5, .int .i64 n5, .bool false, .bool false, .bool false, .pointer (some ⟨Bo, 6, none⟩), .slice a6 n6 k6, .int .i64 n6, .bool false, .bool false, undef, .agg G, .bool false, .agg G, .bool false, .bool false, .agg G, .bool true, .bool false, .bool false, .agg C1, .bool true, .bool false, .bool false, undef, .agg G, .agg C1, .int .i64 us, .agg G, .agg C1, .int .i64 us, .bool true, .bool true, .agg G, .agg C1, .int .i64 rm, .agg G, .agg C1, .int .i64 rm, .bool true, .bool true, .bool true, .agg G, .int .u64 a2, .slice ah (holL X0 a2).length ch, .agg G, .int .u64 a2, .slice ai (holL X0 a2).length ci, .bool true, .bool true, .bool true, .agg G, undef, undef, undef, undef, undef, undef, undef, undef, undef, undef, undef, undef, undef, undef, undef], defers := [] }) (obs := [.load 25 B 0 (.agg G)]) (n := 16) (by kernel_rfl) (by kernel_rfl) ⟨ob_loadb (fun _ h => hB.next h) Tryz.underlying25 (by kernel_rfl) hzw, trivial⟩ ?_
     refine wpAnyH_callL (i := 27) (fuel := 15) (f := 11) (vs := [.agg G]) (d := some 64) (by kernel_rfl) (by kernel_rfl) (by kernel_rfl) Tryz.call11 (rf0 _ (hk.trans (hSy7.mono hk.size))) ?_
     rintro e y8 ⟨rfl, hby8⟩
     have hSy8 := hSy7.trans (hby8.mono hSy7.size)
     refine ⟨_, rfl, hSy8, ?_⟩
     refine wpAnyH_sym (by kernel_rfl) (fun _ _ _ _ _ h => h) hSy8 [(28, none), (29, none), (30, none), (31, none), (32, none), (33, none), (34, none), (35, none), (36, none), (37, none), (38, none), (39, none)] (l' := #[true, true, true, true, true, true, true, true, true, true, true, true, true, true, true, true, true, true, true, true, true, true, true, true, true, true, true, true, true, true, true, true, true, true, true, true, true, true, true, true, false, false, false]) (a' := { tmps := #[.agg G, .agg C1, .int .u64 a2, .pointer (some ⟨B, 0, none⟩), .pointer (some ⟨Bo, 0, none⟩), undef, .bool false, .agg G, .bool true, .bool false, .bool false, .pointer (some ⟨Bo, 5, none⟩), .slice a5 n5 k5, .int .i64 n5, .bool false, .bool false, .bool false, .pointer (some ⟨Bo, 6, none⟩), .slice a6 n6 k6, .int .i64 n6, .bool false, .bool false, undef, .agg G, .bool false, .agg G, .bool false, .bool false, .agg G, .bool true, .bool false, .bool false, .agg C1, .bool true, .bool false, .bool false, undef, .agg G, .agg C1, .int .i64 us, .agg G, .agg C1, .int .i64 us, .bool true, .bool true, .agg G, .agg C1, .int .i64 rm, .agg G, .agg C1, .int .i64 rm, .bool true, .bool true, .bool true, .agg G, .int .u64 a2, .slice ah (holL X0 a2).length ch, .agg G, .int .u64 a2, .slice ai (holL X0 a2).length ci, .bool true, .bool true, .bool true, .agg G, .bool false, .bool true, .bool true, undef, undef, undef, undef, undef, undef, undef, .bool true, .bool true, .bool true, undef, undef], defers := [] }) (obs := []) (n := 3) (by kernel_rfl) (by kernel_rfl) trivial ?_
     refine wpAnyH_callL (i := 40) (fuel := 2) (f := 9) (vs := []) (d := some 77) (by kernel_rfl) (by kernel_rfl) (by kernel_rfl) Tryz.call9 (awake14_any _) ?_
     rintro e y9 ⟨rfl, hby9⟩
     have hSy9 := hSy8.trans (hby9.mono hSy8.size)
     refine ⟨_, rfl, hSy9, ?_⟩
     refine wpAnyH_sym (by kernel_rfl) (fun _ _ _ _ _ h => h) hSy9 [(41, none), (42, none)] (l' := #[true, true, true, true, true, true, true, true, true, true, true, true, true, true, true, true, true, true, true, true, true, true, true, true, true, true, true, true, true, true, true, true, true, true, true, true, true, true, true, true, true, true, true]) (a' := { tmps := #[.agg G, .agg C1, .int .u64 a2, .pointer (some ⟨B, 0, none⟩), .pointer (some ⟨Bo, 0, none⟩), undef, .bool true, .agg G, .bool true, .bool false, .bool false, .pointer (some ⟨Bo, 5, none⟩), .slice a5 n5 k5, .int .i64 n5, .bool false, .bool false, .bool false, .pointer (some ⟨Bo, 6, none⟩), .slice a6 n6 k6, .int .i64 n6, .bool false, .bool false, undef, .agg G, .bool false, .agg G, .bool false, .bool false, .agg G, .bool true, .bool false, .bool false, .agg C1, .bool true, .bool false, .bool false, undef, .agg G, .agg C1, .int .i64 us, .agg G, .agg C1, .int .i64 us, .bool true, .bool true, .agg G, .agg C1, .int .i64 rm, .agg G, .agg C1, .int .i64 rm, .bool true, .bool true, .bool true, .agg G, .int .u64 a2, .slice ah (holL X0 a2).length ch, .agg G, .int .u64 a2, .slice ai (holL X0 a2).length ci, .bool true, .bool true, .bool true, .agg G, .bool false, .bool true, .bool true, undef, undef, undef, undef, undef, undef, undef, .bool true, .bool true, .bool true, .bool true, .bool true], defers := [] }) (obs := []) (n := 0) (by kernel_rfl) (by kernel_rfl) trivial ?_
     refine wpAnyH_done (by kernel_rfl) ?_ _
     replace hB := hB.next hSy9
     replace hBo := hBo.next hSy9
     replace hk := hk.trans (hSy9.mono hk.size)
     go_wp2
     go_ret
     exact ⟨rfl, hk⟩
    | true =>
     have hT := tre_of hbF
     simp only [up_abv hT] at ta0
     simp only [hbF] at tf0 rf0
     obtain ⟨G, hG⟩ : ∃ G : Array Value, G = #[.int .i64 t0, .int .u64 (ke0 : Int), .int .u64 ro0, .slice ao0 n0 cap0] := ⟨_, rfl⟩
     simp only [← hG] at few0 rft0 tf0 rf0 us0 ru0 rm0 rr0 ho0 rh0 ta0 ra0
     rw [← hG] at hzw
     rw [← hG]
     clear hG
     go_enter Tryz.func3, Tryz.ntmps3
     try simp only [List.append]
     go_wp2_with (first
      | go_skip
      | (with_reducible refine wpList_box rfl 25 _ rfl G rfl ?_; intro B W1 hN1 hB hk)
      | (with_reducible refine wpList_box rfl 43 _ rfl C1 rfl ?_; intro Bo W2 hN2 hBo hb8; replace hB := hB.next hb8; replace hk := hk.trans (hb8.mono hk.size); clear hb8)
      | (with_reducible refine wpList_loadb (by kernel_rfl) 25 _ rfl B rfl G hB _ Tryz.underlying25 (by kernel_rfl) hzw ?_)
      | (with_reducible refine wpList_loadb (by kernel_rfl) 43 _ rfl Bo rfl C1 hBo _ Tryz.underlying43 (by kernel_rfl) (size40C hz1) ?_)
      | (with_reducible refine wpList_load1 (by kernel_rfl) _ _ rfl Bo _ rfl _ _ hBo _ c5 Tryz.isAgg28 ?_)
      | (with_reducible refine wpList_load1 (by kernel_rfl) _ _ rfl Bo _ rfl _ _ hBo _ c6 Tryz.isAgg28 ?_)
      | (go_at_call 8; (with_reducible refine ((few0 _ hk).yes hfw).mono ?_); rintro e w3 ⟨rfl, hb8⟩; replace hB := hB.next hb8; replace hBo := hBo.next hb8; replace hk := hk.trans (hb8.mono hk.size); clear hb8)
      | ((with_reducible refine wpList_test (by kernel_rfl) .gtr 3 _ _ _ rfl (.int .i64 (n5 : Int)) _ rfl rfl (tgt_int _ _ _ _ _ _) ?_ ?_) <;> intro e5)
      | ((with_reducible refine wpList_test (by kernel_rfl) .gtr 3 _ _ _ rfl (.int .i64 (n6 : Int)) _ rfl rfl (tgt_int _ _ _ _ _ _) ?_ ?_) <;> intro e6)
      | (go_at_call 9; (with_reducible refine (awake14_any _).mono ?_); rintro e w4 ⟨rfl, hb8⟩; replace hk := hk.trans (hb8.mono hk.size)))
     all_goals (try (go_ret; exact ⟨rfl, hk⟩))
     have qn : Hid (¬ ¬ true = true) := fun q => q rfl
     refine PgM.region_out (S := fun W => Below w3.heap.size w3 W) hmx ((Below.refl _ _).drew) (fun hS => ?_)
     generalize w3.drew = x0 at hS ⊢
     refine wpAnyH_sym (by kernel_rfl) (fun _ _ _ _ _ h => h) hS [(0, some (.agg G)), (2, some (.agg G))] (l' := #[true, false, true, false, false]) (a' := { tmps := #[.agg G, .agg C1, .int .u64 a2, .pointer (some ⟨B, 0, none⟩), .pointer (some ⟨Bo, 0, none⟩), undef, .bool false, .agg G, .bool true, .bool false, .bool false, .pointer (some ⟨Bo, 5, none⟩), .slice a5 n5 k5, .int .i64 n5, .bool false, .bool false, .bool false, .pointer (some ⟨Bo, 6, none⟩), .slice a6 n6 k6, .int .i64 n6, .bool false, .bool false, undef, .agg G, undef, .agg G, undef, undef, undef, undef, undef, undef, undef, undef, undef, undef, undef, undef, undef, undef, undef, undef, undef, undef, undef, undef, undef, undef, undef, undef, undef, undef, undef, undef, undef, undef, undef, undef, undef, undef, undef, undef, undef, undef, undef, undef, undef, undef, undef, undef, undef, undef, undef, undef, undef, undef, undef, undef, undef], defers := [] }) (obs := [.load 25 B 0 (.agg G), .load 25 B 0 (.agg G)]) (n := 3) (by kernel_rfl) (by kernel_rfl) ⟨ob_loadb (fun _ h => hB.next h) Tryz.underlying25 (by kernel_rfl) hzw, ob_loadb (fun _ h => hB.next h) Tryz.underlying25 (by kernel_rfl) hzw, trivial⟩ ?_
     refine wpAnyH_callL (i := 1) (fuel := 2) (f := 10) (vs := [.agg G]) (d := some 24) (by kernel_rfl) (by kernel_rfl) (by kernel_rfl) Tryz.call10 (tf0 _ (hk.trans (hS.mono hk.size))) ?_
     rintro e x1 ⟨rfl, hbx1⟩
     have hSx1 := hS.trans (hbx1.mono hS.size)
     refine ⟨_, rfl, hSx1, ?_⟩
     refine wpAnyH_callL (i := 3) (fuel := 1) (f := 11) (vs := [.agg G]) (d := some 26) (by kernel_rfl) (by kernel_rfl) (by kernel_rfl) Tryz.call11 (rf0 _ (hk.trans (hSx1.mono hk.size))) ?_
     rintro e x2 ⟨rfl, hbx2⟩
     have hSx2 := hSx1.trans (hbx2.mono hSx1.size)
     refine ⟨_, rfl, hSx2, ?_⟩
     refine wpAnyH_sym (by kernel_rfl) (fun _ _ _ _ _ h => h) hSx2 [(4, some (.bool false))] (l' := #[true, true, true, true, true]) (a' := { tmps := #[.agg G, .agg C1, .int .u64 a2, .pointer (some ⟨B, 0, none⟩), .pointer (some ⟨Bo, 0, none⟩), undef, .bool false, .agg G, .bool true, .bool false, .bool false, .pointer (some ⟨Bo, 5, none⟩), .slice a5 n5 k5, .int .i64 n5, .bool false, .bool false, .bool false, .pointer (some ⟨Bo, 6, none⟩), .slice a6 n6 k6, .int .i64 n6, .bool false, .bool false, undef, .agg G, .bool true, .agg G, .bool true, .bool false, undef, undef, undef, undef, undef, undef, undef, undef, undef, undef, undef, undef, undef, undef, undef, undef, undef, undef, undef, undef, undef, undef, undef, undef, undef, undef, undef, undef, undef, undef, undef, undef, undef, undef, undef, undef, undef, undef, undef, undef, undef, undef, undef, undef, undef, undef, undef, undef, undef, undef, undef], defers := [] }) (obs := [.test .neq 4 (.tmp 24) (.tmp 26) (.bool true) (.bool true) (.bool false)]) (n := 0) (by kernel_rfl) (by kernel_rfl) ⟨ob_no (fun _ => neg_bool _ _ _ _) qn, trivial⟩ ?_
     refine wpAnyH_done (by kernel_rfl) ?_ _
     replace hB := hB.next hSx2
     replace hBo := hBo.next hSx2
     replace hk := hk.trans (hSx2.mono hk.size)
     go_wp2_with (first
      | go_skip
      | (with_reducible refine wpList_loadb (by kernel_rfl) 25 _ rfl B rfl G hB _ Tryz.underlying25 (by kernel_rfl) hzw ?_)
      | (with_reducible refine wpList_loadb (by kernel_rfl) 43 _ rfl Bo rfl C1 hBo _ Tryz.underlying43 (by kernel_rfl) (size40C hz1) ?_)
      | (go_at_call 12; (with_reducible refine (rft0 _ hk).mono ?_); rintro e w6 ⟨rfl, hb8⟩; replace hB := hB.next hb8; replace hBo := hBo.next hb8; replace hk := hk.trans (hb8.mono hk.size); clear hb8)
      | (go_at_call 13; (with_reducible refine ((snd0 _ hk).yes hso).mono ?_); rintro e w7 ⟨rfl, hb8⟩; replace hB := hB.next hb8; replace hBo := hBo.next hb8; replace hk := hk.trans (hb8.mono hk.size); clear hb8))
     have qu : Hid (us = us) := rfl
     have qm : Hid (rm = rm) := rfl
     refine PgM.region_out (S := fun W => Below w7.heap.size w7 W) hmx ((Below.refl _ _).drew) (fun hS => ?_)
     generalize w7.drew = y0 at hS ⊢
     refine wpAnyH_sym (by kernel_rfl) (fun _ _ _ _ _ h => h) hS [(0, some (.agg G)), (1, some (.agg C1)), (3, some (.agg G)), (4, some (.agg C1))] (l' := #[true, true, false, true, true, false, false, false, false, false, false, false, false, false, false, false, false, false, false, false, false, false, false, false, false, false, false, false, false, false, false, false, false, false, false, false, false, false, false, false, false, false, false]) (a' := { tmps := #[.agg G, .agg C1, .int .u64 a2, .pointer (some ⟨B, 0, none⟩), .pointer (some ⟨Bo, 0, none⟩), undef, .bool false, .agg G, .bool true, .bool false, .bool false, .pointer (some ⟨Bo, 5, none⟩), .slice a5 n5 k5, .int .i64 n5, .bool false, .bool false, .bool false, .pointer (some ⟨Bo, 6, none⟩), .slice a6 n6 k6, .int .i64 n6, .bool false, .bool false, undef, .agg G, .bool true, .agg G, .bool true, .bool false, .agg G, .bool true, .bool false, .bool false, .agg C1, .bool true, .bool false, .bool false, undef, .agg G, .agg C1, undef, .agg G, .agg C1, undef, undef, undef, undef, undef, undef, undef, undef, undef, undef, undef, undef, undef, undef, undef, undef, undef, undef, undef, undef, undef, undef, undef, undef, undef, undef, undef, undef, undef, undef, undef, undef, undef, undef, undef, undef, undef], defers := [] }) (obs := [.load 25 B 0 (.agg G), .load 43 Bo 0 (.agg C1), .load 25 B 0 (.agg G), .load 43 Bo 0 (.agg C1)]) (n := 39) (by kernel_rfl) (by kernel_rfl) ⟨ob_loadb (fun _ h => hB.next h) Tryz.underlying25 (by kernel_rfl) hzw, ob_loadb (fun _ h => hBo.next h) Tryz.underlying43 (by kernel_rfl) (size40C hz1), ob_loadb (fun _ h => hB.next h) Tryz.underlying25 (by kernel_rfl) hzw, ob_loadb (fun _ h => hBo.next h) Tryz.underlying43 (by kernel_rfl) (size40C hz1), trivial⟩ ?_
     refine wpAnyH_callL (i := 2) (fuel := 38) (f := 14) (vs := [.agg G, .agg C1]) (d := some 39) (by kernel_rfl) (by kernel_rfl) (by kernel_rfl) Tryz.call14 (us0 (hk.trans (hS.mono hk.size)) (l1.next (hk.trans (hS.mono hk.size)))) ?_
     rintro e y1 ⟨rfl, hby1⟩
     have hSy1 := hS.trans (hby1.mono hS.size)
     refine ⟨_, rfl, hSy1, ?_⟩
     refine wpAnyH_callL (i := 5) (fuel := 37) (f := 15) (vs := [.agg G, .agg C1]) (d := some 42) (by kernel_rfl) (by kernel_rfl) (by kernel_rfl) Tryz.call15 (ru0 (hk.trans (hSy1.mono hk.size)) (l1.next (hk.trans (hSy1.mono hk.size)))) ?_
     rintro e y2 ⟨rfl, hby2⟩
     have hSy2 := hSy1.trans (hby2.mono hSy1.size)
     refine ⟨_, rfl, hSy2, ?_⟩
     refine wpAnyH_sym (by kernel_rfl) (fun _ _ _ _ _ h => h) hSy2 [(6, some (.bool true)), (7, none), (8, some (.agg G)), (9, some (.agg C1)), (11, some (.agg G)), (12, some (.agg C1))] (l' := #[true, true, true, true, true, true, true, true, true, true, false, true, true, false, false, false, false, false, false, false, false, false, false, false, false, false, false, false, false, false, false, false, false, false, false, false, false, false, false, false, false, false, false]) (a' := { tmps := #[.agg G, .agg C1, .int .u64 a2, .pointer (some ⟨B, 0, none⟩), .pointer (some ⟨Bo, 0, none⟩), undef, .bool false, .agg G, .bool true, .bool false, .bool false, .pointer (some ⟨Bo, 5, none⟩), .slice a5 n5 k5, .int .i64 n5, .bool false, .bool false, .bool false, .pointer (some ⟨Bo, 6, none⟩), .slice a6 n6 k6, .int .i64 n6, .bool false, .bool false, undef, .agg G, .bool true, .agg G, .bool true, .bool false, .agg G, .bool true, .bool false, .bool false, .agg C1, .bool true, .bool false, .bool false, undef, .agg G, .agg C1, .int .i64 us, .agg G, .agg C1, .int .i64 us, .bool true, .bool true, .agg G, .agg C1, undef, .agg G, .agg C1, undef, undef, undef, undef, undef, undef, undef, undef, undef, undef, undef, undef, undef, undef, undef, undef, undef, undef, undef, undef, undef, undef, undef, undef, undef, undef, undef, undef, undef], defers := [] }) (obs := [.test .eql 3 (.tmp 39) (.tmp 42) (.int .i64 us) (.int .i64 us) (.bool true), .load 25 B 0 (.agg G), .load 43 Bo 0 (.agg C1), .load 25 B 0 (.agg G), .load 43 Bo 0 (.agg C1)]) (n := 31) (by kernel_rfl) (by kernel_rfl) ⟨ob_yes (fun _ => eqg_int _ _ _ _ _ _) qu, ob_loadb (fun _ h => hB.next h) Tryz.underlying25 (by kernel_rfl) hzw, ob_loadb (fun _ h => hBo.next h) Tryz.underlying43 (by kernel_rfl) (size40C hz1), ob_loadb (fun _ h => hB.next h) Tryz.underlying25 (by kernel_rfl) hzw, ob_loadb (fun _ h => hBo.next h) Tryz.underlying43 (by kernel_rfl) (size40C hz1), trivial⟩ ?_
     refine wpAnyH_callL (i := 10) (fuel := 30) (f := 16) (vs := [.agg G, .agg C1]) (d := some 47) (by kernel_rfl) (by kernel_rfl) (by kernel_rfl) Tryz.call16 (rm0 (hk.trans (hSy2.mono hk.size)) (l1.next (hk.trans (hSy2.mono hk.size)))) ?_
     rintro e y3 ⟨rfl, hby3⟩
     have hSy3 := hSy2.trans (hby3.mono hSy2.size)
     refine ⟨_, rfl, hSy3, ?_⟩
     refine wpAnyH_callL (i := 13) (fuel := 29) (f := 17) (vs := [.agg G, .agg C1]) (d := some 50) (by kernel_rfl) (by kernel_rfl) (by kernel_rfl) Tryz.call17 (rr0 (hk.trans (hSy3.mono hk.size)) (l1.next (hk.trans (hSy3.mono hk.size)))) ?_
     rintro e y4 ⟨rfl, hby4⟩
     have hSy4 := hSy3.trans (hby4.mono hSy3.size)
     refine ⟨_, rfl, hSy4, ?_⟩
     refine wpAnyH_sym (by kernel_rfl) (fun _ _ _ _ _ h => h) hSy4 [(14, some (.bool true)), (15, none), (16, none), (17, some (.agg G)), (18, none), (20, some (.agg G)), (21, none)] (l' := #[true, true, true, true, true, true, true, true, true, true, true, true, true, true, true, true, true, true, true, false, true, true, false, false, false, false, false, false, false, false, false, false, false, false, false, false, false, false, false, false, false, false, false]) (a' := { tmps := #[.agg G, .agg C1, .int .u64 a2, .pointer (some ⟨B, 0, none⟩), .pointer (some ⟨Bo, 0, none⟩), undef, .bool false, .agg G, .bool true, .bool false, .bool false, .pointer (some ⟨Bo, 5, none⟩), .slice a5 n5 k5, .int .i64 n5, .bool false, .bool false, .bool false, .pointer (some ⟨Bo, 6, none⟩), .slice a6 n6 k6, .int .i64 n6, .bool false, .bool false, undef, .agg G, .bool true, .agg G, .bool true, .bool false, .agg G, .bool true, .bool false, .bool false, .agg C1, .bool true, .bool false, .bool false, undef, .agg G, .agg C1, .int .i64 us, .agg G, .agg C1, .int .i64 us, .bool true, .bool true, .agg G, .agg C1, .int .i64 rm, .agg G, .agg C1, .int .i64 rm, .bool true, .bool true, .bool true, .agg G, .int .u64 a2, undef, .agg G, .int .u64 a2, undef, undef, undef, undef, undef, undef, undef, undef, undef, undef, undef, undef, undef, undef, undef, undef, undef, undef, undef, undef], defers := [] }) (obs := [.test .eql 3 (.tmp 47) (.tmp 50) (.int .i64 rm) (.int .i64 rm) (.bool true), .load 25 B 0 (.agg G), .load 25 B 0 (.agg G)]) (n := 22) (by kernel_rfl) (by kernel_rfl) ⟨ob_yes (fun _ => eqg_int _ _ _ _ _ _) qm, ob_loadb (fun _ h => hB.next h) Tryz.underlying25 (by kernel_rfl) hzw, ob_loadb (fun _ h => hB.next h) Tryz.underlying25 (by kernel_rfl) hzw, trivial⟩ ?_
     refine wpAnyH_callL (i := 19) (fuel := 21) (f := 19) (vs := [.agg G, .int .u64 a2]) (d := some 56) (by kernel_rfl) (by kernel_rfl) (by kernel_rfl) Tryz.call19 (ho0 (hk.trans (hSy4.mono hk.size))) ?_
     rintro e y5 ⟨v, rfl, hw1, hby5⟩
     have hSy5 := hSy4.trans (hby5.mono hSy4.size)
     refine ⟨_, rfl, hSy5, ?_⟩
     obtain ⟨ah, ch, rfl, hc1⟩ := own_ct hw1
     replace hc1 := hc1.wide (D' := LtN y5) fun b hb => hb.2
     refine wpAnyH_callL (i := 22) (fuel := 20) (f := 20) (vs := [.agg G, .int .u64 a2]) (d := some 59) (by kernel_rfl) (by kernel_rfl) (by kernel_rfl) Tryz.call20 (rh0 (hk.trans (hSy5.mono hk.size))) ?_
     rintro e y6 ⟨v, rfl, hw2, hby6⟩
     have hSy6 := hSy5.trans (hby6.mono hSy5.size)
     refine ⟨_, rfl, hSy6, ?_⟩
     obtain ⟨ai, ci, rfl, hc2⟩ := own_ct hw2
     replace hc2 := hc2.wide (D' := LtN y6) fun b hb => hb.2
     replace hc1 := ct_up hc1 hby6
     refine wpAnyH_callL (i := 23) (fuel := 19) (f := 18) (vs := [.slice ah (holL X0 a2).length ch, .slice ai (holL X0 a2).length ci]) (d := some 60) (by kernel_rfl) (by kernel_rfl) (by kernel_rfl) Tryz.call18 (rsameW_yes hc1 hc2) ?_
     rintro e y7 ⟨rfl, hby7⟩
     have hSy7 := hSy6.trans (hby7.mono hSy6.size)
     refine ⟨_, rfl, hSy7, ?_⟩
     refine wpAnyH_sym (by kernel_rfl) (fun _ _ _ _ _ h => h) hSy7 [(24, none), (25, none), (26, some (.agg G))] (l' := #[true, true, true, true, true, true, true, true, true, true, true, true, true, true, true, true, true, true, true, true, true, true, true, true, true, true, true, false, false, false, false, false, false, false, false, false, false, false, false, false, false, false, false]) (a' := { tmps := #[.agg G, .agg C1, .int .u64 a2, .pointer (some ⟨B, 0, none⟩), .pointer (some ⟨Bo, 0, none⟩), undef, .bool false, .agg G, .bool true, .bool false, .bool false, .pointer (some ⟨Bo, 5, none⟩), .slice a5 n5 k5, .int .i64 n5, .bool false, .bool false, .bool false, .pointer (some ⟨Bo, 6, none⟩), .slice a6 n6 k6, .int .i64 n6, .bool false, .bool false, undef, .agg G, .bool true, .agg G, .bool true, .bool false, .agg G, .bool true, .bool false, .bool false, .agg C1, .bool true, .bool false, .bool false, undef, .agg G, .agg C1, .int .i64 us, .agg G, .agg C1, .int .i64 us, .bool true, .bool true, .agg G, .agg C1, .int .i64 rm, .agg G, .agg C1, .int .i64 rm, .bool true, .bool true, .bool true, .agg G, .int .u64 a2, .slice ah (holL X0 a2).length ch, .agg G, .int .u64 a2, .slice ai (holL X0 a2).length ci, .bool true, .bool true, .bool true, .agg G, undef, undef, undef, undef, undef, undef, undef, undef, undef, undef, undef, undef, undef, undef, undef], defers := [] }) (obs := [.load 25 B 0 (.agg G)]) (n := 16) (by kernel_rfl) (by kernel_rfl) ⟨ob_loadb (fun _ h => hB.next h) Tryz.underlying25 (by kernel_rfl) hzw, trivial⟩ ?_
     refine wpAnyH_callL (i := 27) (fuel := 15) (f := 11) (vs := [.agg G]) (d := some 64) (by kernel_rfl) (by kernel_rfl) (by kernel_rfl) Tryz.call11 (rf0 _ (hk.trans (hSy7.mono hk.size))) ?_
     rintro e y8 ⟨rfl, hby8⟩
     have hSy8 := hSy7.trans (hby8.mono hSy7.size)
     refine ⟨_, rfl, hSy8, ?_⟩
     refine wpAnyH_sym (by kernel_rfl) (fun _ _ _ _ _ h => h) hSy8 [(28, none), (29, none), (30, some (.agg G)), (31, none), (33, some (.agg G)), (34, none)] (l' := #[true, true, true, true, true, true, true, true, true, true, true, true, true, true, true, true, true, true, true, true, true, true, true, true, true, true, true, true, true, true, true, true, false, true, true, false, false, false, false, false, false, false, false]) (a' := { tmps := #[.agg G, .agg C1, .int .u64 a2, .pointer (some ⟨B, 0, none⟩), .pointer (some ⟨Bo, 0, none⟩), undef, .bool false, .agg G, .bool true, .bool false, .bool false, .pointer (some ⟨Bo, 5, none⟩), .slice a5 n5 k5, .int .i64 n5, .bool false, .bool false, .bool false, .pointer (some ⟨Bo, 6, none⟩), .slice a6 n6 k6, .int .i64 n6, .bool false, .bool false, undef, .agg G, .bool true, .agg G, .bool true, .bool false, .agg G, .bool true, .bool false, .bool false, .agg C1, .bool true, .bool false, .bool false, undef, .agg G, .agg C1, .int .i64 us, .agg G, .agg C1, .int .i64 us, .bool true, .bool true, .agg G, .agg C1, .int .i64 rm, .agg G, .agg C1, .int .i64 rm, .bool true, .bool true, .bool true, .agg G, .int .u64 a2, .slice ah (holL X0 a2).length ch, .agg G, .int .u64 a2, .slice ai (holL X0 a2).length ci, .bool true, .bool true, .bool true, .agg G, .bool true, .bool false, .bool false, .agg G, .int .u64 a2, undef, .agg G, .int .u64 a2, undef, undef, undef, undef, undef, undef, undef], defers := [] }) (obs := [.load 25 B 0 (.agg G), .load 25 B 0 (.agg G)]) (n := 9) (by kernel_rfl) (by kernel_rfl) ⟨ob_loadb (fun _ h => hB.next h) Tryz.underlying25 (by kernel_rfl) hzw, ob_loadb (fun _ h => hB.next h) Tryz.underlying25 (by kernel_rfl) hzw, trivial⟩ ?_
     refine wpAnyH_callL (i := 32) (fuel := 8) (f := 21) (vs := [.agg G, .int .u64 a2]) (d := some 69) (by kernel_rfl) (by kernel_rfl) (by kernel_rfl) Tryz.call21 (ta0 (hk.trans (hSy8.mono hk.size))) ?_
     rintro e y9 ⟨v, rfl, hw3, hby9⟩
     have hSy9 := hSy8.trans (hby9.mono hSy8.size)
     refine ⟨_, rfl, hSy9, ?_⟩
     obtain ⟨aj, cj, rfl, hc3⟩ := own_ct hw3
     replace hc3 := hc3.wide (D' := LtN y9) fun b hb => hb.2
     refine wpAnyH_callL (i := 35) (fuel := 7) (f := 22) (vs := [.agg G, .int .u64 a2]) (d := some 72) (by kernel_rfl) (by kernel_rfl) (by kernel_rfl) Tryz.call22 (ra0 (hk.trans (hSy9.mono hk.size))) ?_
     rintro e y10 ⟨v, rfl, hw4, hby10⟩
     have hSy10 := hSy9.trans (hby10.mono hSy9.size)
     refine ⟨_, rfl, hSy10, ?_⟩
     obtain ⟨al, cl, rfl, hc4⟩ := own_ct hw4
     replace hc4 := hc4.wide (D' := LtN y10) fun b hb => hb.2
     replace hc3 := ct_up hc3 hby10
     refine wpAnyH_callL (i := 36) (fuel := 6) (f := 18) (vs := [.slice aj (rabv X0 a2).length cj, .slice al (rabv X0 a2).length cl]) (d := some 73) (by kernel_rfl) (by kernel_rfl) (by kernel_rfl) Tryz.call18 (rsameW_yes hc3 hc4) ?_
     rintro e y11 ⟨rfl, hby11⟩
     have hSy11 := hSy10.trans (hby11.mono hSy10.size)
     refine ⟨_, rfl, hSy11, ?_⟩
     refine wpAnyH_sym (by kernel_rfl) (fun _ _ _ _ _ h => h) hSy11 [(37, none), (38, none), (39, none)] (l' := #[true, true, true, true, true, true, true, true, true, true, true, true, true, true, true, true, true, true, true, true, true, true, true, true, true, true, true, true, true, true, true, true, true, true, true, true, true, true, true, true, false, false, false]) (a' := { tmps := #[.agg G, .agg C1, .int .u64 a2, .pointer (some ⟨B, 0, none⟩), .pointer (some ⟨Bo, 0, none⟩), undef, .bool false, .agg G, .bool true, .bool false, .bool false, .pointer (some ⟨Bo, 5, none⟩), .slice a5 n5 k5, .int .i64 n5, .bool false, .bool false, .bool false, .pointer (some ⟨Bo, 6, none⟩), .slice a6 n6 k6, .int .i64 n6, .bool false, .bool false, undef, .agg G, .bool true, .agg G, .bool true, .bool false, .agg G, .bool true, .bool false, .bool false, .agg C1, .bool true, .bool false, .bool false, undef, .agg G, .agg C1, .int .i64 us, .agg G, .agg C1, .int .i64 us, .bool true, .bool true, .agg G, .agg C1, .int .i64 rm, .agg G, .agg C1, .int .i64 rm, .bool true, .bool true, .bool true, .agg G, .int .u64 a2, .slice ah (holL X0 a2).length ch, .agg G, .int .u64 a2, .slice ai (holL X0 a2).length ci, .bool true, .bool true, .bool true, .agg G, .bool true, .bool false, .bool false, .agg G, .int .u64 a2, .slice aj (rabv X0 a2).length cj, .agg G, .int .u64 a2, .slice al (rabv X0 a2).length cl, .bool true, .bool true, .bool true, .bool true, undef, undef], defers := [] }) (obs := []) (n := 3) (by kernel_rfl) (by kernel_rfl) trivial ?_
     refine wpAnyH_callL (i := 40) (fuel := 2) (f := 9) (vs := []) (d := some 77) (by kernel_rfl) (by kernel_rfl) (by kernel_rfl) Tryz.call9 (awake14_any _) ?_
     rintro e y12 ⟨rfl, hby12⟩
     have hSy12 := hSy11.trans (hby12.mono hSy11.size)
     refine ⟨_, rfl, hSy12, ?_⟩
     refine wpAnyH_sym (by kernel_rfl) (fun _ _ _ _ _ h => h) hSy12 [(41, none), (42, none)] (l' := #[true, true, true, true, true, true, true, true, true, true, true, true, true, true, true, true, true, true, true, true, true, true, true, true, true, true, true, true, true, true, true, true, true, true, true, true, true, true, true, true, true, true, true]) (a' := { tmps := #[.agg G, .agg C1, .int .u64 a2, .pointer (some ⟨B, 0, none⟩), .pointer (some ⟨Bo, 0, none⟩), undef, .bool true, .agg G, .bool true, .bool false, .bool false, .pointer (some ⟨Bo, 5, none⟩), .slice a5 n5 k5, .int .i64 n5, .bool false, .bool false, .bool false, .pointer (some ⟨Bo, 6, none⟩), .slice a6 n6 k6, .int .i64 n6, .bool false, .bool false, undef, .agg G, .bool true, .agg G, .bool true, .bool false, .agg G, .bool true, .bool false, .bool false, .agg C1, .bool true, .bool false, .bool false, undef, .agg G, .agg C1, .int .i64 us, .agg G, .agg C1, .int .i64 us, .bool true, .bool true, .agg G, .agg C1, .int .i64 rm, .agg G, .agg C1, .int .i64 rm, .bool true, .bool true, .bool true, .agg G, .int .u64 a2, .slice ah (holL X0 a2).length ch, .agg G, .int .u64 a2, .slice ai (holL X0 a2).length ci, .bool true, .bool true, .bool true, .agg G, .bool true, .bool false, .bool false, .agg G, .int .u64 a2, .slice aj (rabv X0 a2).length cj, .agg G, .int .u64 a2, .slice al (rabv X0 a2).length cl, .bool true, .bool true, .bool true, .bool true, .bool true, .bool true], defers := [] }) (obs := []) (n := 0) (by kernel_rfl) (by kernel_rfl) trivial ?_
     refine wpAnyH_done (by kernel_rfl) ?_ _
     replace hB := hB.next hSy12
     replace hBo := hBo.next hSy12
     replace hk := hk.trans (hSy12.mono hk.size)
     go_wp2
     go_ret
     exact ⟨rfl, hk⟩
   ·obtain ⟨bF, hbF⟩ : ∃ bF, fitD t0 ke0 ro0 X0 = bF := ⟨_, rfl⟩
    simp only [hbF] at tf0 rf0
    simp only [hbW] at rft0
    obtain ⟨G, hG⟩ : ∃ G : Array Value, G = #[.int .i64 t0, .int .u64 (ke0 : Int), .int .u64 ro0, .slice ao0 n0 cap0] := ⟨_, rfl⟩
    simp only [← hG] at few0 rft0 tf0 rf0
    rw [← hG] at hzw
    rw [← hG]
    clear hG
    go_enter Tryz.func3, Tryz.ntmps3
    try simp only [List.append]
    go_wp2_with (first
     | go_skip
     | (with_reducible refine wpList_box rfl 25 _ rfl G rfl ?_; intro B W1 hN1 hB hk)
     | (with_reducible refine wpList_box rfl 43 _ rfl C1 rfl ?_; intro Bo W2 hN2 hBo hb8; replace hB := hB.next hb8; replace hk := hk.trans (hb8.mono hk.size); clear hb8)
     | (with_reducible refine wpList_loadb (by kernel_rfl) 25 _ rfl B rfl G hB _ Tryz.underlying25 (by kernel_rfl) hzw ?_)
     | (with_reducible refine wpList_loadb (by kernel_rfl) 43 _ rfl Bo rfl C1 hBo _ Tryz.underlying43 (by kernel_rfl) (size40C hz1) ?_)
     | (with_reducible refine wpList_load1 (by kernel_rfl) _ _ rfl Bo _ rfl _ _ hBo _ c5 Tryz.isAgg28 ?_)
     | (with_reducible refine wpList_load1 (by kernel_rfl) _ _ rfl Bo _ rfl _ _ hBo _ c6 Tryz.isAgg28 ?_)
     | (go_at_call 8; (with_reducible refine ((few0 _ hk).yes hfw).mono ?_); rintro e w3 ⟨rfl, hb8⟩; replace hB := hB.next hb8; replace hBo := hBo.next hb8; replace hk := hk.trans (hb8.mono hk.size); clear hb8)
     | ((with_reducible refine wpList_test (by kernel_rfl) .gtr 3 _ _ _ rfl (.int .i64 (n5 : Int)) _ rfl rfl (tgt_int _ _ _ _ _ _) ?_ ?_) <;> intro e5)
     | ((with_reducible refine wpList_test (by kernel_rfl) .gtr 3 _ _ _ rfl (.int .i64 (n6 : Int)) _ rfl rfl (tgt_int _ _ _ _ _ _) ?_ ?_) <;> intro e6)
     | (go_at_call 9; (with_reducible refine (awake14_any _).mono ?_); rintro e w4 ⟨rfl, hb8⟩; replace hk := hk.trans (hb8.mono hk.size)))
    all_goals (try (go_ret; exact ⟨rfl, hk⟩))
    have qn : Hid (¬ ¬ bF = bF) := fun q => q rfl
    refine PgM.region_out (S := fun W => Below w3.heap.size w3 W) hmx ((Below.refl _ _).drew) (fun hS => ?_)
    generalize w3.drew = x0 at hS ⊢
    refine wpAnyH_sym (by kernel_rfl) (fun _ _ _ _ _ h => h) hS [(0, some (.agg G)), (2, some (.agg G))] (l' := #[true, false, true, false, false]) (a' := { tmps := #[.agg G, .agg C1, .int .u64 a2, .pointer (some ⟨B, 0, none⟩), .pointer (some ⟨Bo, 0, none⟩), undef, .bool false, .agg G, .bool true, .bool false, .bool false, .pointer (some ⟨Bo, 5, none⟩), .slice a5 n5 k5, .int .i64 n5, .bool false, .bool false, .bool false, .pointer (some ⟨Bo, 6, none⟩), .slice a6 n6 k6, .int .i64 n6, .bool false, .bool false, undef, .agg G, undef, .agg G, undef, undef, undef, undef, undef, undef, undef, undef, undef, undef, undef, undef, undef, undef, undef, undef, undef, undef, undef, undef, undef, undef, undef, undef, undef, undef, undef, undef, undef, undef, undef, undef, undef, undef, undef, undef, undef, undef, undef, undef, undef, undef, undef, undef, undef, undef, undef, undef, undef, undef, undef, undef, undef], defers := [] }) (obs := [.load 25 B 0 (.agg G), .load 25 B 0 (.agg G)]) (n := 3) (by kernel_rfl) (by kernel_rfl) ⟨ob_loadb (fun _ h => hB.next h) Tryz.underlying25 (by kernel_rfl) hzw, ob_loadb (fun _ h => hB.next h) Tryz.underlying25 (by kernel_rfl) hzw, trivial⟩ ?_
    refine wpAnyH_callL (i := 1) (fuel := 2) (f := 10) (vs := [.agg G]) (d := some 24) (by kernel_rfl) (by kernel_rfl) (by kernel_rfl) Tryz.call10 (tf0 _ (hk.trans (hS.mono hk.size))) ?_
    rintro e x1 ⟨rfl, hbx1⟩
    have hSx1 := hS.trans (hbx1.mono hS.size)
    refine ⟨_, rfl, hSx1, ?_⟩
    refine wpAnyH_callL (i := 3) (fuel := 1) (f := 11) (vs := [.agg G]) (d := some 26) (by kernel_rfl) (by kernel_rfl) (by kernel_rfl) Tryz.call11 (rf0 _ (hk.trans (hSx1.mono hk.size))) ?_
    rintro e x2 ⟨rfl, hbx2⟩
    have hSx2 := hSx1.trans (hbx2.mono hSx1.size)
    refine ⟨_, rfl, hSx2, ?_⟩
    refine wpAnyH_sym (by kernel_rfl) (fun _ _ _ _ _ h => h) hSx2 [(4, some (.bool false))] (l' := #[true, true, true, true, true]) (a' := { tmps := #[.agg G, .agg C1, .int .u64 a2, .pointer (some ⟨B, 0, none⟩), .pointer (some ⟨Bo, 0, none⟩), undef, .bool false, .agg G, .bool true, .bool false, .bool false, .pointer (some ⟨Bo, 5, none⟩), .slice a5 n5 k5, .int .i64 n5, .bool false, .bool false, .bool false, .pointer (some ⟨Bo, 6, none⟩), .slice a6 n6 k6, .int .i64 n6, .bool false, .bool false, undef, .agg G, .bool bF, .agg G, .bool bF, .bool false, undef, undef, undef, undef, undef, undef, undef, undef, undef, undef, undef, undef, undef, undef, undef, undef, undef, undef, undef, undef, undef, undef, undef, undef, undef, undef, undef, undef, undef, undef, undef, undef, undef, undef, undef, undef, undef, undef, undef, undef, undef, undef, undef, undef, undef, undef, undef, undef, undef, undef, undef], defers := [] }) (obs := [.test .neq 4 (.tmp 24) (.tmp 26) (.bool bF) (.bool bF) (.bool false)]) (n := 0) (by kernel_rfl) (by kernel_rfl) ⟨ob_no (fun _ => neg_bool _ _ _ _) qn, trivial⟩ ?_
    refine wpAnyH_done (by kernel_rfl) ?_ _
    replace hB := hB.next hSx2
    replace hBo := hBo.next hSx2
    replace hk := hk.trans (hSx2.mono hk.size)
    go_wp2_with (first
     | go_skip
     | (with_reducible refine wpList_loadb (by kernel_rfl) 25 _ rfl B rfl G hB _ Tryz.underlying25 (by kernel_rfl) hzw ?_)
     | (with_reducible refine wpList_loadb (by kernel_rfl) 43 _ rfl Bo rfl C1 hBo _ Tryz.underlying43 (by kernel_rfl) (size40C hz1) ?_)
     | (go_at_call 12; (with_reducible refine (rft0 _ hk).mono ?_); rintro e w6 ⟨rfl, hb8⟩; replace hB := hB.next hb8; replace hBo := hBo.next hb8; replace hk := hk.trans (hb8.mono hk.size); clear hb8)
     | (go_at_call 13; (with_reducible refine ((snd0 _ hk).no hso).mono ?_); rintro e w7 ⟨rfl, hb8⟩; replace hB := hB.next hb8; replace hBo := hBo.next hb8; replace hk := hk.trans (hb8.mono hk.size); clear hb8)
     | (go_at_call 9; (with_reducible refine (awake14_any _).mono ?_); rintro e w4 ⟨rfl, hb8⟩; replace hk := hk.trans (hb8.mono hk.size)))
    go_ret
    exact ⟨rfl, hk⟩
 ·obtain ⟨G, hG⟩ : ∃ G : Array Value, G = #[.int .i64 t0, .int .u64 (ke0 : Int), .int .u64 ro0, .slice ao0 n0 cap0] := ⟨_, rfl⟩
  simp only [← hG] at few0
  rw [← hG] at hzw
  rw [← hG]
  clear hG
  go_enter Tryz.func3, Tryz.ntmps3
  try simp only [List.append]
  go_wp2_with (first
   | go_skip
   | (with_reducible refine wpList_box rfl 25 _ rfl G rfl ?_; intro B W1 hN1 hB hk)
   | (with_reducible refine wpList_box rfl 43 _ rfl C1 rfl ?_; intro Bo W2 hN2 hBo hb8; replace hB := hB.next hb8; replace hk := hk.trans (hb8.mono hk.size); clear hb8)
   | (with_reducible refine wpList_loadb (by kernel_rfl) 25 _ rfl B rfl G hB _ Tryz.underlying25 (by kernel_rfl) hzw ?_)
   | (with_reducible refine wpList_loadb (by kernel_rfl) 43 _ rfl Bo rfl C1 hBo _ Tryz.underlying43 (by kernel_rfl) (size40C hz1) ?_)
   | (with_reducible refine wpList_load1 (by kernel_rfl) _ _ rfl Bo _ rfl _ _ hBo _ c5 Tryz.isAgg28 ?_)
   | (with_reducible refine wpList_load1 (by kernel_rfl) _ _ rfl Bo _ rfl _ _ hBo _ c6 Tryz.isAgg28 ?_)
   | (go_at_call 8; (with_reducible refine ((few0 _ hk).no hfw).mono ?_); rintro e w3 ⟨rfl, hb8⟩; replace hB := hB.next hb8; replace hBo := hBo.next hb8; replace hk := hk.trans (hb8.mono hk.size); clear hb8)
   | (go_at_call 9; (with_reducible refine (awake14_any _).mono ?_); rintro e w4 ⟨rfl, hb8⟩; replace hk := hk.trans (hb8.mono hk.size)))
  go_ret
  exact ⟨rfl, hk⟩
theorem lifted (os : Os) (started : os.Started) (H : Type) (enc : TypeId × Value → H) :
  ReturnsInHanded {} Tryz.checked os 3 .any (Rows.treeTellsSpec.pre6 enc Tryz.prog Tryz.f3 Rows.treeTellsRow.domain false) (Rows.treeTellsSpec.post enc Tryz.prog Tryz.f3 false true false false) := by
 refine returnsInHanded_of_change (C := Tryz.checked) own started (by kernel_rfl) Tryz.func3
  (ChangeSpec.witness6 (enc := enc) (C := Tryz.checked) false ⟨#[], #[.agg #[.int .i64 0, .int .u64 0, .int .u64 0, .slice none 0 0], .agg zC, .int .u64 0], []⟩ 8 (by kernel_rfl) (by kernel_rfl) (by kernel_rfl) (by kernel_rfl)) ?_
 intro W base args ds gs before hval0 hW hcnd _
 have hval : ∀ (j : Nat) t v, Tryz.f3.params[j]? = some t → args[j]? = some v → Value.okWide Tryz.prog W .any base t v := hval0
 have hW' := hW
 obtain ⟨p, q, hA0, hV, rfl, hfz, hnd⟩ := hW
 have hA : DataW.TrodAll enc Tryz.prog W 0 (fun _ => true) true Tryz.f3.params.toList args.toList ds p := hA0
 rw [Tryz.params3] at hA hval
 obtain ⟨v0, vs0, d0, ds0, p0, q0, hargs, rfl, rfl, h0, r0⟩ := trodAll_cons hA
 obtain ⟨v1, vs1, d1, ds1, p1, q1, rfl, rfl, rfl, h1, r1⟩ := trodAll_cons r0
 obtain ⟨v2, vs2, d2, ds2, p2, q2, rfl, rfl, rfl, h2, r2⟩ := trodAll_cons r1
 obtain ⟨rfl, rfl, rfl⟩ := trodAll_nil r2
 obtain rfl : args = #[v0, v1, v2] := by cases args; simp_all
 obtain ⟨rfl, rfl⟩ := trodVars_none hV
 obtain ⟨t0, ke0, ro0, ao0, n0, cap0, X0, rfl, l0⟩ := worldW_of_trod (hval 0 25 v0 rfl rfl) h0
 have k0 := h0
 have lt0 : ∀ x ∈ p0, x.block < W.heap.size := by obtain ⟨m, hm⟩ := k0; exact DataW.trod_lt m _ _ _ hm
 obtain ⟨C1, x1, rfl, l1⟩ := obj_of_trod (hval 1 43 v1 rfl rfl) h1
 have k1 := h1
 have lt1 : ∀ x ∈ p1, x.block < W.heap.size := by obtain ⟨m, hm⟩ := k1; exact DataW.trod_lt m _ _ _ hm
 obtain ⟨a2, rfl, rfl, rfl, w2⟩ := open_int Tryz.underlying22 (hval 2 22 v2 rfl rfl) h2
 clear hA0 hval0
 refine (walk t0 ke0 ro0 ao0 n0 cap0 X0 C1 x1 a2 W l0 l1 w2).mono fun e W' ⟨he, bel⟩ => ?_
 subst he
 exact ⟨_, rfl, _, _, _, [], _, [], hW', trodAll_mk1 (shut_bool Tryz.underlying4 _), (trodAll_cons_mk (Below.trod laidOut (by kernel_rfl) (of_decide_eq_true (by kernel_rfl)) k0 bel lt0) (trodAll_cons_mk (Below.trod laidOut (by kernel_rfl) (of_decide_eq_true (by kernel_rfl)) k1 bel lt1) (trodAll_cons_mk (shut_int Tryz.underlying22 w2) trodAll_mk0))), rfl, bel.frame _, fun h => by cases h⟩
theorem over : Rows.treeTellsRow.holds Tryz.pinned (OpenSpec.ofChange Rows.treeTellsSpec) :=
 OpenClaim.holds_of_wide 3 Tryz.f3 rfl rfl rfl rfl rfl rfl rfl ⟨rfl, rfl, rfl, rfl, rfl⟩ rfl rfl rfl rfl rfl (by kernel_rfl) Tryz.func3 (by kernel_rfl)
  (of_decide_eq_true (by kernel_rfl)) (by unfold Func.isWrapper; first | (rw [if_pos (by decide +kernel)]; kernel_rfl) | (rw [if_neg (by decide +kernel)]; exact ⟨rfl, rfl⟩))
  (fun os started H enc _ => lifted os started H enc)
end treeTells
theorem treeTells_holds : Rows.TreeTellsSaid :=
 treeTells.over
end Go.Proofs.YtnhjfjhbmekamaaGreat
