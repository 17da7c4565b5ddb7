/-
 PROVED HERE: what a fault, and an alert that a thread takes, leave of it. No condition besides the statement's own.
-/
import Derived.Test.YtfghigibjdncbaaGreatRows
import Derived.WalkKit
import Derived.SizedLaws
import Derived.ProofKit
import Derived.OpenShut
import Derived.Below
import Derived.ShutString
import Derived.Deep.QuietTactic
import Derived.Test.YtfghigibjdncbaaGreatZ26
namespace Go.Proofs.YtfghigibjdncbaaGreat
set_option maxRecDepth 100000
set_option maxHeartbeats 8000000
namespace cpuTaken
open Go.ChangeShapes Go.WideShapes Go.ChangeAt Go.RowKit
open Go.ChangeMaps (open_string shut_string)
set_option linter.unusedVariables false

theorem own : ownKnob Tryz.prog.godebug = none := by kernel_rfl

theorem walk (T0 : Array Value) (t0 : Th) (a1 : Int) (w : World) (l0 : ThD (LtN w) w T0 t0 ∧ ThW t0) (w1 : (Lit.int .u64 a1).wf = true) :
  Calls Tryz.prog 6 #[.agg T0, .int .u64 a1] w fun e w' => e = .returned (.bool true) ∧ Below w.heap.size w w' := by
 obtain ⟨hT, hW⟩ := l0
 have hmx : Tryz.prog.follows .mixedOrders = true := by kernel_rfl
 have hsz := hT.size
 have hso := hT.one
 have hk0 := Below.refl w.heap.size w
 have ga1 := Tryz.isAgg22
 have ga2 := Tryz.isAgg3
 have ga3 := Tryz.isAgg35
 have rl := hT.f.rlen
 obtain ⟨aA, nA, cA, eA, lA⟩ := hT.f.alerts
 replace eA : T0[28]? = some (.slice aA nA cA) := eA
 have hlA : Hid (t0.alerts.length = nA) := lA.1
 by_cases h20 : 20 < nA
 ·have h20' : (20 : Int) < (nA : Int) := by omega
  go_enter Tryz.func6, Tryz.ntmps6
  go_wp2_with (first
   | go_skip
   | (with_reducible refine wpList_box rfl _ _ rfl T0 rfl ?_; intro B W1 hNB hB hk)
   | (with_reducible refine wpList_load1 (by with_unfolding_all rfl) _ _ rfl B _ rfl _ _ hB _ eA ga3 ?_)
   | (go_at_call 8; (with_reducible refine (awake19_any _).mono ?_); rintro e w9 ⟨rfl, hb9⟩))
  go_ret
  exact ⟨rfl, hk.trans (hb9.mono hk.size)⟩
 have h20' : ¬ ((20 : Int) < (nA : Int)) := by omega
 have hs : SmT t0 := ⟨hW.c, by have := hlA.out; omega, hW.l0, hW.l1, hW.l2, hW.l3⟩
 clear h20
 have hfl := fun (W : World) (hk : Below w.heap.size w W) => fault_v (why := a1) (hT.news hk) hs
 have hal := fun (W : World) (hk : Below w.heap.size w W) => alert_v (hT.news hk) hs
 have hal0 : alB t0 = false → Hid (alT t0 = t0) := fun h => by unfold alT; rw [h]; exact rfl
 have hal1 : alB t0 = true → Hid (alT t0 = { dvT t0 t0.vector (t0.alerts.getD 0 0) with vector := 0, alerts := t0.alerts.drop 1 }) := fun h => by unfold alT; rw [h]; exact rfl
 have e0 : T0[20]? = some (.int .u64 t0.handler) := hT.f.handler
 have e5 : T0[21]? = some (.int .u64 t0.vector) := hT.f.vector
 have e1 : T0[16]? = some (.int .u64 t0.pc) := hT.f.pc
 have e6 : T0[22]? = some (.int .i64 t0.state) := hT.f.state
 have eR := hT.regsA
 by_cases h0 : t0.handler = 0
 ·have hf : Hid (flT t0 a1 = { t0 with state := 2 }) := by unfold flT; rw [if_pos h0]; exact rfl
  have hb0 : (t0.handler == 0) = true := by simp [h0]
  rw [hf.out] at hfl
  clear h0
  cases hA : alB t0 with
  | false =>
   have hq := (hal0 hA).out
   have hsel : alB t0 = false := hA
   unfold alB at hsel
   rw [hA, hq] at hal
   have hsl : (decide (nA = 0) || decide (t0.vector = 0)) = true := by rw [hlA.out] at hsel; generalize (decide (nA = 0) || decide (t0.vector = 0)) = b at hsel ⊢; cases b <;> simp_all
   clear hsel hq hal0 hal1 hA
   have hcs : ((nA : Int) ≤ 0) ∨ ((0 : Int) < (nA : Int) ∧ (t0.vector != 0) = false) := by
    by_cases q : nA = 0
    ·exact .inl (by omega)
    ·refine .inr ⟨by omega, ?_⟩
     rw [decide_eq_false q, Bool.false_or] at hsl
     simpa using hsl
   clear hsl
   rcases hcs with q1 | ⟨q1, q2⟩
   all_goals
    go_enter Tryz.func6, Tryz.ntmps6
    go_wp2_with (first
     | go_skip
     | (with_reducible refine wpList_box rfl _ _ rfl T0 rfl ?_; intro B W1 hNB hB hk)
     | (with_reducible refine wpList_load1 (by with_unfolding_all rfl) _ _ rfl B _ rfl _ _ hB _ eA ga3 ?_)
     | (with_reducible refine wpList_load1 (by with_unfolding_all rfl) _ _ rfl B _ rfl _ _ hB _ e0 ga1 ?_)
     | (with_reducible refine wpList_load1 (by with_unfolding_all rfl) _ _ rfl B _ rfl _ _ hB _ e5 ga1 ?_)
     | (with_reducible refine wpList_load1 (by with_unfolding_all rfl) _ _ rfl B _ rfl _ _ hB _ e1 ga1 ?_)
     | (with_reducible refine wpList_load1 (by with_unfolding_all rfl) _ _ rfl B _ rfl _ _ hB _ e6 ga2 ?_)
     | (with_reducible refine wpList_loadb (by with_unfolding_all rfl) 46 _ rfl B rfl T0 hB _ Tryz.underlying46 (by kernel_rfl) (size46C hsz) ?_)
     | (with_reducible refine wpList_loadp (by with_unfolding_all rfl) 37 _ rfl B _ rfl 16 _ _ hB _ eR (by rw [hsz]; decide) _ Tryz.underlying37 (by kernel_rfl) size27 ?_)
     | (go_at_call 16; (with_reducible refine (hfl _ hk).mono ?_); rintro e w2 ⟨T1, rfl, hT1, hb2⟩; replace hB := hB.next hb2; replace hk := hk.trans (hb2.mono hk.size); have z1 := hT1.size; have tk1 : True := trivial)
     | ((with_reducible refine wpList_alloc rfl _ rfl zT zero46 ?_); have hx := tk1; clear hx tk1; intro F W3 hNF hF hk3; replace hB := hB.next hk3; have hneF : Hid (B ≠ F ∧ w.heap.size ≤ F ∧ w2.heap.size ≤ F) := (by have := hNF.out; have := hB.lt; have := hk.size; have := hNB.out; have := hb2.size; exact ⟨by omega, by omega, by omega⟩); replace hk := hk.trans (hk3.mono hk.size))
     | ((with_reducible refine wpList_store_blk rfl _ _ _ rfl F rfl T1 rfl zT hF (size46C z1) (zT_size.trans z1.symm) hT1.one ?_); intro W4 hF4 o4; clear hF; replace hB := hB.other o4 hneF.out.1; replace hk := o4.below _ _ hneF.out.2.1 hk; have f6 : T1[22]? = some (.int .i64 2) := hT1.f.state; have f1 : T1[16]? = some (.int .u64 t0.pc) := hT1.f.pc; have fR := hT1.regsA)
     | (with_reducible refine wpList_load1 (by with_unfolding_all rfl) _ _ rfl F _ rfl _ _ hF4 _ f6 ga2 ?_)
     | (with_reducible refine wpList_load1 (by with_unfolding_all rfl) _ _ rfl F _ rfl _ _ hF4 _ f1 ga1 ?_)
     | (with_reducible refine wpList_loadp (by with_unfolding_all rfl) 37 _ rfl F _ rfl 16 _ _ hF4 _ fR (by rw [z1]; decide) _ Tryz.underlying37 (by kernel_rfl) size27 ?_)
     | (with_reducible refine wpList_bin (by with_unfolding_all rfl) .neq 37 _ _ _ rfl _ _ rfl rfl (neq_regs _ _ _ rl) ?_)
     | (go_at_call 17; (with_reducible refine (hal _ hk).mono ?_); rintro e w5 ⟨T5, rfl, hT5, hb5⟩; replace hB := hB.next hb5; replace hk := hk.trans (hb5.mono hk.size); have z5 := hT5.size; have tk5 : True := trivial)
     | ((with_reducible refine wpList_alloc rfl _ rfl zT zero46 ?_); have hx := tk5; clear hx tk5; intro G W6 hNG hG hk6; have hneG : Hid (B ≠ G ∧ w.heap.size ≤ G ∧ w5.heap.size ≤ G) := (by have := hNG.out; have := hB.lt; have := hk.size; exact ⟨by omega, by omega, by omega⟩); replace hB := hB.next hk6; replace hk := hk.trans (hk6.mono hk.size))
     | ((with_reducible refine wpList_store_blk rfl _ _ _ rfl G rfl T5 rfl zT hG (size46C z5) (zT_size.trans z5.symm) hT5.one ?_); intro W7 hG7 o7; clear hG; replace hB := hB.other o7 hneG.out.1; replace hk := o7.below _ _ hneG.out.2.1 hk; replace hT5 := (hT5.laterK (w' := W7) fun b hb => (o7.block b (by have := hb.2; have := hneG.out.2.2; omega)).trans (hk6.block b hb.2)).wide (D' := LtN W7) fun b hb => (by have := hb.2; have := o7.size; have := hk6.size; show b < W7.heap.size; omega))
     | (with_reducible refine wpList_loadb (by with_unfolding_all rfl) 46 _ rfl G rfl T5 hG7 _ Tryz.underlying46 (by kernel_rfl) (size46C z5) ?_)
     | (go_at_call 18; (with_reducible refine ((rsameThread_any hT5 (hT.news hk)).sure rfl).mono ?_); rintro e w8 ⟨rfl, hb8⟩; replace hk := hk.trans (hb8.mono hk.size))
     | (go_at_call 8; (with_reducible refine (awake19_any _).mono ?_); rintro e w9 ⟨rfl, hb9⟩; replace hk := hk.trans (hb9.mono hk.size)))
    go_ret
    exact ⟨rfl, hk⟩
  | true =>
   have hq := (hal1 hA).out
   have hsel : alB t0 = true := hA
   unfold alB at hsel
   rw [hA, hq] at hal
   rw [hlA.out] at hsel
   have hn0 : Hid (0 < nA) := by show 0 < nA; cases nA with | zero => simp at hsel | succ m => omega
   have hv0 : (t0.vector != 0) = true := by cases q : decide (t0.vector = 0) with | true => rw [q, Bool.or_true] at hsel; cases hsel | false => simpa using q
   have hpos : (0 : Int) < (nA : Int) := by have := hn0.out; omega
   clear hsel hq hal0 hal1 hA
   obtain ⟨bA, oA, rfl, hbA, hcA⟩ := ct_at lA hn0.out
   rw [Nat.add_zero] at hcA
   go_enter Tryz.func6, Tryz.ntmps6
   go_wp2_with (first
    | go_skip
    | (with_reducible refine wpList_box rfl _ _ rfl T0 rfl ?_; intro B W1 hNB hB hk)
    | (with_reducible refine wpList_load1 (by with_unfolding_all rfl) _ _ rfl B _ rfl _ _ hB _ eA ga3 ?_)
    | (with_reducible refine wpList_load1 (by with_unfolding_all rfl) _ _ rfl B _ rfl _ _ hB _ e0 ga1 ?_)
    | (with_reducible refine wpList_load1 (by with_unfolding_all rfl) _ _ rfl B _ rfl _ _ hB _ e5 ga1 ?_)
    | (with_reducible refine wpList_load1 (by with_unfolding_all rfl) _ _ rfl B _ rfl _ _ hB _ e1 ga1 ?_)
    | (with_reducible refine wpList_load1 (by with_unfolding_all rfl) _ _ rfl B _ rfl _ _ hB _ e6 ga2 ?_)
    | (with_reducible refine wpList_loadb (by with_unfolding_all rfl) 46 _ rfl B rfl T0 hB _ Tryz.underlying46 (by kernel_rfl) (size46C hsz) ?_)
    | (with_reducible refine wpList_loadp (by with_unfolding_all rfl) 37 _ rfl B _ rfl 16 _ _ hB _ eR (by rw [hsz]; decide) _ Tryz.underlying37 (by kernel_rfl) size27 ?_)
    | (go_at_call 16; (with_reducible refine (hfl _ hk).mono ?_); rintro e w2 ⟨T1, rfl, hT1, hb2⟩; replace hB := hB.next hb2; replace hk := hk.trans (hb2.mono hk.size); have z1 := hT1.size; have tk1 : True := trivial)
    | ((with_reducible refine wpList_alloc rfl _ rfl zT zero46 ?_); have hx := tk1; clear hx tk1; intro F W3 hNF hF hk3; replace hB := hB.next hk3; have hneF : Hid (B ≠ F ∧ w.heap.size ≤ F ∧ w2.heap.size ≤ F) := (by have := hNF.out; have := hB.lt; have := hk.size; have := hNB.out; have := hb2.size; exact ⟨by omega, by omega, by omega⟩); replace hk := hk.trans (hk3.mono hk.size))
    | ((with_reducible refine wpList_store_blk rfl _ _ _ rfl F rfl T1 rfl zT hF (size46C z1) (zT_size.trans z1.symm) hT1.one ?_); intro W4 hF4 o4; clear hF; replace hB := hB.other o4 hneF.out.1; replace hk := o4.below _ _ hneF.out.2.1 hk; have f6 : T1[22]? = some (.int .i64 2) := hT1.f.state; have f1 : T1[16]? = some (.int .u64 t0.pc) := hT1.f.pc; have fR := hT1.regsA)
    | (with_reducible refine wpList_load1 (by with_unfolding_all rfl) _ _ rfl F _ rfl _ _ hF4 _ f6 ga2 ?_)
    | (with_reducible refine wpList_load1 (by with_unfolding_all rfl) _ _ rfl F _ rfl _ _ hF4 _ f1 ga1 ?_)
    | (with_reducible refine wpList_loadp (by with_unfolding_all rfl) 37 _ rfl F _ rfl 16 _ _ hF4 _ fR (by rw [z1]; decide) _ Tryz.underlying37 (by kernel_rfl) size27 ?_)
    | (with_reducible refine wpList_bin (by with_unfolding_all rfl) .neq 37 _ _ _ rfl _ _ rfl rfl (neq_regs _ _ _ rl) ?_)
    | (go_at_call 17; (with_reducible refine (hal _ hk).mono ?_); rintro e w5 ⟨T5, rfl, hT5, hb5⟩; replace hB := hB.next hb5; replace hk := hk.trans (hb5.mono hk.size); have z5 := hT5.size; have tk5 : True := trivial)
    | ((with_reducible refine wpList_alloc rfl _ rfl zT zero46 ?_); have hx := tk5; clear hx tk5; intro G W6 hNG hG hk6; have hneG : Hid (B ≠ G ∧ w.heap.size ≤ G ∧ w5.heap.size ≤ G) := (by have := hNG.out; have := hB.lt; have := hk.size; exact ⟨by omega, by omega, by omega⟩); replace hB := hB.next hk6; replace hk := hk.trans (hk6.mono hk.size))
    | ((with_reducible refine wpList_store_blk rfl _ _ _ rfl G rfl T5 rfl zT hG (size46C z5) (zT_size.trans z5.symm) hT5.one ?_); intro W7 hG7 o7; clear hG; replace hB := hB.other o7 hneG.out.1; replace hk := o7.below _ _ hneG.out.2.1 hk; replace hT5 := (hT5.laterK (w' := W7) fun b hb => (o7.block b (by have := hb.2; have := hneG.out.2.2; omega)).trans (hk6.block b hb.2)).wide (D' := LtN W7) fun b hb => (by have := hb.2; have := o7.size; have := hk6.size; show b < W7.heap.size; omega)))
   replace eA : T0[28]? = some (.slice (some ⟨bA, oA, none⟩) nA cA) := eA
   obtain ⟨aX, nX, cX, g28, lX⟩ := hT5.f.alerts
   replace g28 : T5[28]? = some (.slice aX nX cX) := g28
   have hX1 : Hid ((nA : Int) - 1 = (nX : Int)) := by
    have h1 : (t0.alerts.drop 1).length = nX := lX.1
    rw [List.length_drop] at h1
    have h2 := hlA.out
    have h3 := hn0.out
    show (nA : Int) - 1 = (nX : Int)
    omega
   have g14 : T5[14]? = some (.int .u64 t0.pc) := (hT5.f.regs 14 (by decide)).trans (by rw [dv14 rl])
   have g15 : T5[15]? = some (.int .u64 (t0.alerts.getD 0 0)) := (hT5.f.regs 15 (by decide)).trans (by rw [dv15 rl])
   have g16 : T5[16]? = some (.int .u64 t0.vector) := hT5.f.pc
   have g21 : T5[21]? = some (.int .u64 0) := hT5.f.vector
   have hG := hG7
   refine PgM.region_out (S := fun W => Blk W B T0 46 ∧ Blk W G T5 46 ∧ Below w.heap.size w W) hmx (⟨hB.next (Below.refl _ _).drew, hG.next (Below.refl _ _).drew, hk.trans ((Below.refl _ _).drew.mono hk.size)⟩) (fun hS0 => ?_)
   generalize W7.drew = v0 at hS0 ⊢
   refine wpAnyH_symN (by kernel_rfl) (fun _ _ _ _ _ h => h) hS0 [(0, none), (1, some (.pointer (some ⟨G, 14, none⟩))), (2, some (.int .u64 t0.pc)), (3, none), (4, some (.int .u64 t0.pc)), (5, some (.bool true)), (6, none), (7, none), (8, some (.pointer (some ⟨G, 15, none⟩))), (9, some (.int .u64 (t0.alerts.getD 0 0))), (10, none), (11, some (.slice (some ⟨bA, oA, none⟩) nA cA)), (12, some (.pointer (some ⟨bA, oA, none⟩))), (13, some (.int .u64 (t0.alerts.getD 0 0))), (14, some (.bool true)), (15, none), (16, none), (17, none), (18, some (.int .u64 t0.vector)), (19, none), (20, some (.int .u64 t0.vector)), (21, some (.bool true)), (22, none), (23, none), (24, none), (25, some (.int .u64 0)), (26, some (.bool true)), (27, none), (28, none), (29, none), (30, some (.slice aX nX cX)), (31, some (.int .i64 (nX : Int))), (32, none), (33, some (.slice (some ⟨bA, oA, none⟩) nA cA)), (34, some (.int .i64 (nA : Int))), (35, some (.int .i64 (nX : Int))), (36, some (.bool true)), (37, none), (38, none)] (l' := #[true, true, true, true, true, true, true, true, true, true, true, true, true, true, true, true, true, true, true, true, true, true, true, true, true, true, true, true, true, true, true, true, true, true, true, true, true, true, true, false, false, false]) (a' := { tmps := #[.agg T0, .int .u64 a1, .pointer (some ⟨B, 0, none⟩), undef, .bool false, .pointer (some ⟨F, 0, none⟩), .pointer (some ⟨G, 0, none⟩), .bool true, .pointer (some ⟨B, 28, none⟩), .slice (some ⟨bA, oA, none⟩) nA cA, .int .i64 (nA : Int), .bool false, undef, .agg T0, .int .u64 a1, .agg T1, .pointer (some ⟨B, 20, none⟩), .int .u64 t0.handler, .bool true, .pointer (some ⟨F, 22, none⟩), .int .i64 2, .bool false, .bool false, .pointer (some ⟨F, 0, none⟩), .agg (List.map (.int .u64) t0.regs).toArray, .pointer (some ⟨B, 0, none⟩), .agg (List.map (.int .u64) t0.regs).toArray, .bool false, .bool false, .bool false, .pointer (some ⟨F, 16, none⟩), .int .u64 t0.pc, .pointer (some ⟨B, 16, none⟩), .int .u64 t0.pc, .bool false, .bool false, ud, ud, ud, ud, ud, ud, ud, ud, ud, ud, ud, ud, ud, ud, ud, ud, ud, ud, ud, ud, ud, ud, ud, ud, ud, ud, ud, ud, ud, ud, ud, undef, .tuple #[.agg T5, .bool true], .agg T0, .tuple #[.agg T5, .bool true], .agg T5, .bool true, .bool true, .pointer (some ⟨B, 28, none⟩), .slice (some ⟨bA, oA, none⟩) nA cA, .int .i64 (nA : Int), .bool true, .bool true, .pointer (some ⟨B, 21, none⟩), .int .u64 t0.vector, .bool true, .bool true, .bool false, .bool true, .bool false, ud, ud, ud, ud, ud, undef, .pointer (some ⟨G, 0, none⟩), .pointer (some ⟨G, 14, none⟩), .int .u64 t0.pc, .pointer (some ⟨B, 16, none⟩), .int .u64 t0.pc, .bool true, .bool true, .pointer (some ⟨G, 0, none⟩), .pointer (some ⟨G, 15, none⟩), .int .u64 (t0.alerts.getD 0 0), .pointer (some ⟨B, 28, none⟩), .slice (some ⟨bA, oA, none⟩) nA cA, .pointer (some ⟨bA, oA, none⟩), .int .u64 (t0.alerts.getD 0 0), .bool true, .bool true, .bool true, .pointer (some ⟨G, 16, none⟩), .int .u64 t0.vector, .pointer (some ⟨B, 21, none⟩), .int .u64 t0.vector, .bool true, .bool true, .bool true, .pointer (some ⟨G, 21, none⟩), .int .u64 0, .bool true, .bool true, .bool true, .pointer (some ⟨G, 28, none⟩), .slice aX nX cX, .int .i64 (nX : Int), .pointer (some ⟨B, 28, none⟩), .slice (some ⟨bA, oA, none⟩) nA cA, .int .i64 (nA : Int), .int .i64 (nX : Int), .bool true, .bool true, .bool true, ud, undef], defers := [] }) (obs := [.ia 37 (.pointer (some ⟨G, 0, none⟩)) (.int .i64 14) (.pointer (some ⟨G, 14, none⟩)), .load 22 G 14 (.int .u64 t0.pc), .load 22 B 16 (.int .u64 t0.pc), .test .eql 22 (.tmp 94) (.tmp 96) (.int .u64 t0.pc) (.int .u64 t0.pc) (.bool true), .ia 37 (.pointer (some ⟨G, 0, none⟩)) (.int .i64 15) (.pointer (some ⟨G, 15, none⟩)), .load 22 G 15 (.int .u64 (t0.alerts.getD 0 0)), .load 35 B 28 (.slice (some ⟨bA, oA, none⟩) nA cA), .ia 35 (.slice (some ⟨bA, oA, none⟩) nA cA) (.int .i64 0) (.pointer (some ⟨bA, oA, none⟩)), .load 22 bA oA (.int .u64 (t0.alerts.getD 0 0)), .test .eql 22 (.tmp 101) (.tmp 105) (.int .u64 (t0.alerts.getD 0 0)) (.int .u64 (t0.alerts.getD 0 0)) (.bool true), .load 22 G 16 (.int .u64 t0.vector), .load 22 B 21 (.int .u64 t0.vector), .test .eql 22 (.tmp 110) (.tmp 112) (.int .u64 t0.vector) (.int .u64 t0.vector) (.bool true), .load 22 G 21 (.int .u64 0), .test .eql 22 (.tmp 117) (.const (.int .u64 0)) (.int .u64 0) (.int .u64 0) (.bool true), .load 35 G 28 (.slice aX nX cX), .ln 35 3 (.slice aX nX cX) (.int .i64 (nX : Int)), .load 35 B 28 (.slice (some ⟨bA, oA, none⟩) nA cA), .ln 35 3 (.slice (some ⟨bA, oA, none⟩) nA cA) (.int .i64 (nA : Int)), .test .sub 3 (.tmp 126) (.const (.int .i64 1)) (.int .i64 (nA : Int)) (.int .i64 1) (.int .i64 (nX : Int)), .test .eql 3 (.tmp 123) (.tmp 127) (.int .i64 (nX : Int)) (.int .i64 (nX : Int)) (.bool true)]) (n := 3) (by kernel_rfl) (by kernel_rfl) ⟨fun W hS => run_ia14 G W, ob_load1 (fun W hS => hS.2.1) g14 ga1, ob_load1 (fun W hS => hS.1) e1 ga1, ob_same, fun W hS => run_ia15 G W, ob_load1 (fun W hS => hS.2.1) g15 ga1, ob_load1 (fun W hS => hS.1) eA ga3, ia_zero hn0.out, ob_word (fun W hS => (hS.2.2.cell (p := ⟨bA, oA, none⟩) hbA).trans hcA) ga1, ob_same, ob_load1 (fun W hS => hS.2.1) g16 ga1, ob_load1 (fun W hS => hS.1) e5 ga1, ob_same, ob_load1 (fun W hS => hS.2.1) g21 ga1, ob_same, ob_load1 (fun W hS => hS.2.1) g28 ga3, ob_lnu, ob_load1 (fun W hS => hS.1) eA ga3, ob_lnu, ob_subE hX1.out (by omega), ob_sameI, trivial⟩ ?_
   refine wpAnyH_single (i := 39) (n := 2) rfl (by kernel_rfl) ?_
   refine wpOp_callL (f := 8) (vs := []) (d := some 131) (by kernel_rfl) Tryz.call8 (awake19_any _) ?_
   rintro e w01 ⟨rfl, hb9⟩
   have hS01 : Blk w01 B T0 46 ∧ Blk w01 G T5 46 ∧ Below w.heap.size w w01 := ⟨hS0.1.next hb9, hS0.2.1.next hb9, hS0.2.2.trans (hb9.mono hS0.2.2.size)⟩
   refine ⟨_, rfl, hS01, ?_⟩
   refine wpAnyH_symN (by kernel_rfl) (fun _ _ _ _ _ h => h) hS01 [(40, none), (41, none)] (l' := #[true, true, true, true, true, true, true, true, true, true, true, true, true, true, true, true, true, true, true, true, true, true, true, true, true, true, true, true, true, true, true, true, true, true, true, true, true, true, true, true, true, true]) (a' := { tmps := #[.agg T0, .int .u64 a1, .pointer (some ⟨B, 0, none⟩), undef, .bool true, .pointer (some ⟨F, 0, none⟩), .pointer (some ⟨G, 0, none⟩), .bool true, .pointer (some ⟨B, 28, none⟩), .slice (some ⟨bA, oA, none⟩) nA cA, .int .i64 (nA : Int), .bool false, undef, .agg T0, .int .u64 a1, .agg T1, .pointer (some ⟨B, 20, none⟩), .int .u64 t0.handler, .bool true, .pointer (some ⟨F, 22, none⟩), .int .i64 2, .bool false, .bool false, .pointer (some ⟨F, 0, none⟩), .agg (List.map (.int .u64) t0.regs).toArray, .pointer (some ⟨B, 0, none⟩), .agg (List.map (.int .u64) t0.regs).toArray, .bool false, .bool false, .bool false, .pointer (some ⟨F, 16, none⟩), .int .u64 t0.pc, .pointer (some ⟨B, 16, none⟩), .int .u64 t0.pc, .bool false, .bool false, ud, ud, ud, ud, ud, ud, ud, ud, ud, ud, ud, ud, ud, ud, ud, ud, ud, ud, ud, ud, ud, ud, ud, ud, ud, ud, ud, ud, ud, ud, ud, undef, .tuple #[.agg T5, .bool true], .agg T0, .tuple #[.agg T5, .bool true], .agg T5, .bool true, .bool true, .pointer (some ⟨B, 28, none⟩), .slice (some ⟨bA, oA, none⟩) nA cA, .int .i64 (nA : Int), .bool true, .bool true, .pointer (some ⟨B, 21, none⟩), .int .u64 t0.vector, .bool true, .bool true, .bool false, .bool true, .bool false, ud, ud, ud, ud, ud, undef, .pointer (some ⟨G, 0, none⟩), .pointer (some ⟨G, 14, none⟩), .int .u64 t0.pc, .pointer (some ⟨B, 16, none⟩), .int .u64 t0.pc, .bool true, .bool true, .pointer (some ⟨G, 0, none⟩), .pointer (some ⟨G, 15, none⟩), .int .u64 (t0.alerts.getD 0 0), .pointer (some ⟨B, 28, none⟩), .slice (some ⟨bA, oA, none⟩) nA cA, .pointer (some ⟨bA, oA, none⟩), .int .u64 (t0.alerts.getD 0 0), .bool true, .bool true, .bool true, .pointer (some ⟨G, 16, none⟩), .int .u64 t0.vector, .pointer (some ⟨B, 21, none⟩), .int .u64 t0.vector, .bool true, .bool true, .bool true, .pointer (some ⟨G, 21, none⟩), .int .u64 0, .bool true, .bool true, .bool true, .pointer (some ⟨G, 28, none⟩), .slice aX nX cX, .int .i64 (nX : Int), .pointer (some ⟨B, 28, none⟩), .slice (some ⟨bA, oA, none⟩) nA cA, .int .i64 (nA : Int), .int .i64 (nX : Int), .bool true, .bool true, .bool true, .bool true, .bool true], defers := [] }) (obs := []) (n := 0) (by kernel_rfl) (by kernel_rfl) trivial ?_
   refine wpAnyH_done (by kernel_rfl) ?_ _
   go_wp2
   go_ret
   exact ⟨rfl, hS01.2.2⟩
 ·have hf : Hid (flT t0 a1 = { dvT t0 t0.handler a1 with handler := 0 }) := by unfold flT; rw [if_neg h0]; exact rfl
  have hb0 : (t0.handler == 0) = false := by simp [h0]
  rw [hf.out] at hfl
  clear h0
  cases hA : alB t0 with
  | false =>
   have hq := (hal0 hA).out
   have hsel : alB t0 = false := hA
   unfold alB at hsel
   rw [hA, hq] at hal
   have hsl : (decide (nA = 0) || decide (t0.vector = 0)) = true := by rw [hlA.out] at hsel; generalize (decide (nA = 0) || decide (t0.vector = 0)) = b at hsel ⊢; cases b <;> simp_all
   clear hsel hq hal0 hal1 hA
   have hcs : ((nA : Int) ≤ 0) ∨ ((0 : Int) < (nA : Int) ∧ (t0.vector != 0) = false) := by
    by_cases q : nA = 0
    ·exact .inl (by omega)
    ·refine .inr ⟨by omega, ?_⟩
     rw [decide_eq_false q, Bool.false_or] at hsl
     simpa using hsl
   clear hsl
   rcases hcs with q1 | ⟨q1, q2⟩
   all_goals
    go_enter Tryz.func6, Tryz.ntmps6
    go_wp2_with (first
     | go_skip
     | (with_reducible refine wpList_box rfl _ _ rfl T0 rfl ?_; intro B W1 hNB hB hk)
     | (with_reducible refine wpList_load1 (by with_unfolding_all rfl) _ _ rfl B _ rfl _ _ hB _ eA ga3 ?_)
     | (with_reducible refine wpList_load1 (by with_unfolding_all rfl) _ _ rfl B _ rfl _ _ hB _ e0 ga1 ?_)
     | (with_reducible refine wpList_load1 (by with_unfolding_all rfl) _ _ rfl B _ rfl _ _ hB _ e5 ga1 ?_)
     | (with_reducible refine wpList_load1 (by with_unfolding_all rfl) _ _ rfl B _ rfl _ _ hB _ e1 ga1 ?_)
     | (with_reducible refine wpList_load1 (by with_unfolding_all rfl) _ _ rfl B _ rfl _ _ hB _ e6 ga2 ?_)
     | (with_reducible refine wpList_loadb (by with_unfolding_all rfl) 46 _ rfl B rfl T0 hB _ Tryz.underlying46 (by kernel_rfl) (size46C hsz) ?_)
     | (with_reducible refine wpList_loadp (by with_unfolding_all rfl) 37 _ rfl B _ rfl 16 _ _ hB _ eR (by rw [hsz]; decide) _ Tryz.underlying37 (by kernel_rfl) size27 ?_)
     | (go_at_call 16; (with_reducible refine (hfl _ hk).mono ?_); rintro e w2 ⟨T1, rfl, hT1, hb2⟩; replace hB := hB.next hb2; replace hk := hk.trans (hb2.mono hk.size); have z1 := hT1.size; have tk1 : True := trivial)
     | ((with_reducible refine wpList_alloc rfl _ rfl zT zero46 ?_); have hx := tk1; clear hx tk1; intro F W3 hNF hF hk3; replace hB := hB.next hk3; have hneF : Hid (B ≠ F ∧ w.heap.size ≤ F ∧ w2.heap.size ≤ F) := (by have := hNF.out; have := hB.lt; have := hk.size; have := hNB.out; have := hb2.size; exact ⟨by omega, by omega, by omega⟩); replace hk := hk.trans (hk3.mono hk.size))
     | ((with_reducible refine wpList_store_blk rfl _ _ _ rfl F rfl T1 rfl zT hF (size46C z1) (zT_size.trans z1.symm) hT1.one ?_); intro W4 hF4 o4; clear hF; replace hB := hB.other o4 hneF.out.1; replace hk := o4.below _ _ hneF.out.2.1 hk; have f14 : T1[14]? = some (.int .u64 t0.pc) := (hT1.f.regs 14 (by decide)).trans (by rw [dv14 rl]); have f15 : T1[15]? = some (.int .u64 a1) := (hT1.f.regs 15 (by decide)).trans (by rw [dv15 rl]); have f1 : T1[16]? = some (.int .u64 t0.handler) := hT1.f.pc; have f2 : T1[20]? = some (.int .u64 0) := hT1.f.handler; have f6 : T1[22]? = some (.int .i64 t0.state) := hT1.f.state; have i14 := fun W => run_ia14 F W; have i15 := fun W => run_ia15 F W)
     | (with_reducible refine wpList_ia (by with_unfolding_all rfl) 37 _ _ rfl _ _ rfl rfl _ (i14 _) ?_)
     | (with_reducible refine wpList_ia (by with_unfolding_all rfl) 37 _ _ rfl _ _ rfl rfl _ (i15 _) ?_)
     | (with_reducible refine wpList_load1 (by with_unfolding_all rfl) _ _ rfl F _ rfl _ _ hF4 _ f14 ga1 ?_)
     | (with_reducible refine wpList_load1 (by with_unfolding_all rfl) _ _ rfl F _ rfl _ _ hF4 _ f15 ga1 ?_)
     | (with_reducible refine wpList_load1 (by with_unfolding_all rfl) _ _ rfl F _ rfl _ _ hF4 _ f1 ga1 ?_)
     | (with_reducible refine wpList_load1 (by with_unfolding_all rfl) _ _ rfl F _ rfl _ _ hF4 _ f2 ga1 ?_)
     | (with_reducible refine wpList_load1 (by with_unfolding_all rfl) _ _ rfl F _ rfl _ _ hF4 _ f6 ga2 ?_)
     | (with_reducible refine wpList_bin (by with_unfolding_all rfl) .neq 37 _ _ _ rfl _ _ rfl rfl (neq_regs _ _ _ rl) ?_)
     | (go_at_call 17; (with_reducible refine (hal _ hk).mono ?_); rintro e w5 ⟨T5, rfl, hT5, hb5⟩; replace hB := hB.next hb5; replace hk := hk.trans (hb5.mono hk.size); have z5 := hT5.size; have tk5 : True := trivial)
     | ((with_reducible refine wpList_alloc rfl _ rfl zT zero46 ?_); have hx := tk5; clear hx tk5; intro G W6 hNG hG hk6; have hneG : Hid (B ≠ G ∧ w.heap.size ≤ G ∧ w5.heap.size ≤ G) := (by have := hNG.out; have := hB.lt; have := hk.size; exact ⟨by omega, by omega, by omega⟩); replace hB := hB.next hk6; replace hk := hk.trans (hk6.mono hk.size))
     | ((with_reducible refine wpList_store_blk rfl _ _ _ rfl G rfl T5 rfl zT hG (size46C z5) (zT_size.trans z5.symm) hT5.one ?_); intro W7 hG7 o7; clear hG; replace hB := hB.other o7 hneG.out.1; replace hk := o7.below _ _ hneG.out.2.1 hk; replace hT5 := (hT5.laterK (w' := W7) fun b hb => (o7.block b (by have := hb.2; have := hneG.out.2.2; omega)).trans (hk6.block b hb.2)).wide (D' := LtN W7) fun b hb => (by have := hb.2; have := o7.size; have := hk6.size; show b < W7.heap.size; omega))
     | (with_reducible refine wpList_loadb (by with_unfolding_all rfl) 46 _ rfl G rfl T5 hG7 _ Tryz.underlying46 (by kernel_rfl) (size46C z5) ?_)
     | (go_at_call 18; (with_reducible refine ((rsameThread_any hT5 (hT.news hk)).sure rfl).mono ?_); rintro e w8 ⟨rfl, hb8⟩; replace hk := hk.trans (hb8.mono hk.size))
     | (go_at_call 8; (with_reducible refine (awake19_any _).mono ?_); rintro e w9 ⟨rfl, hb9⟩; replace hk := hk.trans (hb9.mono hk.size)))
    go_ret
    exact ⟨rfl, hk⟩
  | true =>
   have hq := (hal1 hA).out
   have hsel : alB t0 = true := hA
   unfold alB at hsel
   rw [hA, hq] at hal
   rw [hlA.out] at hsel
   have hn0 : Hid (0 < nA) := by show 0 < nA; cases nA with | zero => simp at hsel | succ m => omega
   have hv0 : (t0.vector != 0) = true := by cases q : decide (t0.vector = 0) with | true => rw [q, Bool.or_true] at hsel; cases hsel | false => simpa using q
   have hpos : (0 : Int) < (nA : Int) := by have := hn0.out; omega
   clear hsel hq hal0 hal1 hA
   obtain ⟨bA, oA, rfl, hbA, hcA⟩ := ct_at lA hn0.out
   rw [Nat.add_zero] at hcA
   go_enter Tryz.func6, Tryz.ntmps6
   go_wp2_with (first
    | go_skip
    | (with_reducible refine wpList_box rfl _ _ rfl T0 rfl ?_; intro B W1 hNB hB hk)
    | (with_reducible refine wpList_load1 (by with_unfolding_all rfl) _ _ rfl B _ rfl _ _ hB _ eA ga3 ?_)
    | (with_reducible refine wpList_load1 (by with_unfolding_all rfl) _ _ rfl B _ rfl _ _ hB _ e0 ga1 ?_)
    | (with_reducible refine wpList_load1 (by with_unfolding_all rfl) _ _ rfl B _ rfl _ _ hB _ e5 ga1 ?_)
    | (with_reducible refine wpList_load1 (by with_unfolding_all rfl) _ _ rfl B _ rfl _ _ hB _ e1 ga1 ?_)
    | (with_reducible refine wpList_load1 (by with_unfolding_all rfl) _ _ rfl B _ rfl _ _ hB _ e6 ga2 ?_)
    | (with_reducible refine wpList_loadb (by with_unfolding_all rfl) 46 _ rfl B rfl T0 hB _ Tryz.underlying46 (by kernel_rfl) (size46C hsz) ?_)
    | (with_reducible refine wpList_loadp (by with_unfolding_all rfl) 37 _ rfl B _ rfl 16 _ _ hB _ eR (by rw [hsz]; decide) _ Tryz.underlying37 (by kernel_rfl) size27 ?_)
    | (go_at_call 16; (with_reducible refine (hfl _ hk).mono ?_); rintro e w2 ⟨T1, rfl, hT1, hb2⟩; replace hB := hB.next hb2; replace hk := hk.trans (hb2.mono hk.size); have z1 := hT1.size; have tk1 : True := trivial)
    | ((with_reducible refine wpList_alloc rfl _ rfl zT zero46 ?_); have hx := tk1; clear hx tk1; intro F W3 hNF hF hk3; replace hB := hB.next hk3; have hneF : Hid (B ≠ F ∧ w.heap.size ≤ F ∧ w2.heap.size ≤ F) := (by have := hNF.out; have := hB.lt; have := hk.size; have := hNB.out; have := hb2.size; exact ⟨by omega, by omega, by omega⟩); replace hk := hk.trans (hk3.mono hk.size))
    | ((with_reducible refine wpList_store_blk rfl _ _ _ rfl F rfl T1 rfl zT hF (size46C z1) (zT_size.trans z1.symm) hT1.one ?_); intro W4 hF4 o4; clear hF; replace hB := hB.other o4 hneF.out.1; replace hk := o4.below _ _ hneF.out.2.1 hk; have f14 : T1[14]? = some (.int .u64 t0.pc) := (hT1.f.regs 14 (by decide)).trans (by rw [dv14 rl]); have f15 : T1[15]? = some (.int .u64 a1) := (hT1.f.regs 15 (by decide)).trans (by rw [dv15 rl]); have f1 : T1[16]? = some (.int .u64 t0.handler) := hT1.f.pc; have f2 : T1[20]? = some (.int .u64 0) := hT1.f.handler; have f6 : T1[22]? = some (.int .i64 t0.state) := hT1.f.state; have i14 := fun W => run_ia14 F W; have i15 := fun W => run_ia15 F W)
    | (with_reducible refine wpList_ia (by with_unfolding_all rfl) 37 _ _ rfl _ _ rfl rfl _ (i14 _) ?_)
    | (with_reducible refine wpList_ia (by with_unfolding_all rfl) 37 _ _ rfl _ _ rfl rfl _ (i15 _) ?_)
    | (with_reducible refine wpList_load1 (by with_unfolding_all rfl) _ _ rfl F _ rfl _ _ hF4 _ f14 ga1 ?_)
    | (with_reducible refine wpList_load1 (by with_unfolding_all rfl) _ _ rfl F _ rfl _ _ hF4 _ f15 ga1 ?_)
    | (with_reducible refine wpList_load1 (by with_unfolding_all rfl) _ _ rfl F _ rfl _ _ hF4 _ f1 ga1 ?_)
    | (with_reducible refine wpList_load1 (by with_unfolding_all rfl) _ _ rfl F _ rfl _ _ hF4 _ f2 ga1 ?_)
    | (with_reducible refine wpList_load1 (by with_unfolding_all rfl) _ _ rfl F _ rfl _ _ hF4 _ f6 ga2 ?_)
    | (with_reducible refine wpList_bin (by with_unfolding_all rfl) .neq 37 _ _ _ rfl _ _ rfl rfl (neq_regs _ _ _ rl) ?_)
    | (go_at_call 17; (with_reducible refine (hal _ hk).mono ?_); rintro e w5 ⟨T5, rfl, hT5, hb5⟩; replace hB := hB.next hb5; replace hk := hk.trans (hb5.mono hk.size); have z5 := hT5.size; have tk5 : True := trivial)
    | ((with_reducible refine wpList_alloc rfl _ rfl zT zero46 ?_); have hx := tk5; clear hx tk5; intro G W6 hNG hG hk6; have hneG : Hid (B ≠ G ∧ w.heap.size ≤ G ∧ w5.heap.size ≤ G) := (by have := hNG.out; have := hB.lt; have := hk.size; exact ⟨by omega, by omega, by omega⟩); replace hB := hB.next hk6; replace hk := hk.trans (hk6.mono hk.size))
    | ((with_reducible refine wpList_store_blk rfl _ _ _ rfl G rfl T5 rfl zT hG (size46C z5) (zT_size.trans z5.symm) hT5.one ?_); intro W7 hG7 o7; clear hG; replace hB := hB.other o7 hneG.out.1; replace hk := o7.below _ _ hneG.out.2.1 hk; replace hT5 := (hT5.laterK (w' := W7) fun b hb => (o7.block b (by have := hb.2; have := hneG.out.2.2; omega)).trans (hk6.block b hb.2)).wide (D' := LtN W7) fun b hb => (by have := hb.2; have := o7.size; have := hk6.size; show b < W7.heap.size; omega)))
   replace eA : T0[28]? = some (.slice (some ⟨bA, oA, none⟩) nA cA) := eA
   obtain ⟨aX, nX, cX, g28, lX⟩ := hT5.f.alerts
   replace g28 : T5[28]? = some (.slice aX nX cX) := g28
   have hX1 : Hid ((nA : Int) - 1 = (nX : Int)) := by
    have h1 : (t0.alerts.drop 1).length = nX := lX.1
    rw [List.length_drop] at h1
    have h2 := hlA.out
    have h3 := hn0.out
    show (nA : Int) - 1 = (nX : Int)
    omega
   have g14 : T5[14]? = some (.int .u64 t0.pc) := (hT5.f.regs 14 (by decide)).trans (by rw [dv14 rl])
   have g15 : T5[15]? = some (.int .u64 (t0.alerts.getD 0 0)) := (hT5.f.regs 15 (by decide)).trans (by rw [dv15 rl])
   have g16 : T5[16]? = some (.int .u64 t0.vector) := hT5.f.pc
   have g21 : T5[21]? = some (.int .u64 0) := hT5.f.vector
   have hG := hG7
   refine PgM.region_out (S := fun W => Blk W B T0 46 ∧ Blk W G T5 46 ∧ Below w.heap.size w W) hmx (⟨hB.next (Below.refl _ _).drew, hG.next (Below.refl _ _).drew, hk.trans ((Below.refl _ _).drew.mono hk.size)⟩) (fun hS0 => ?_)
   generalize W7.drew = v0 at hS0 ⊢
   refine wpAnyH_symN (by kernel_rfl) (fun _ _ _ _ _ h => h) hS0 [(0, none), (1, some (.pointer (some ⟨G, 14, none⟩))), (2, some (.int .u64 t0.pc)), (3, none), (4, some (.int .u64 t0.pc)), (5, some (.bool true)), (6, none), (7, none), (8, some (.pointer (some ⟨G, 15, none⟩))), (9, some (.int .u64 (t0.alerts.getD 0 0))), (10, none), (11, some (.slice (some ⟨bA, oA, none⟩) nA cA)), (12, some (.pointer (some ⟨bA, oA, none⟩))), (13, some (.int .u64 (t0.alerts.getD 0 0))), (14, some (.bool true)), (15, none), (16, none), (17, none), (18, some (.int .u64 t0.vector)), (19, none), (20, some (.int .u64 t0.vector)), (21, some (.bool true)), (22, none), (23, none), (24, none), (25, some (.int .u64 0)), (26, some (.bool true)), (27, none), (28, none), (29, none), (30, some (.slice aX nX cX)), (31, some (.int .i64 (nX : Int))), (32, none), (33, some (.slice (some ⟨bA, oA, none⟩) nA cA)), (34, some (.int .i64 (nA : Int))), (35, some (.int .i64 (nX : Int))), (36, some (.bool true)), (37, none), (38, none)] (l' := #[true, true, true, true, true, true, true, true, true, true, true, true, true, true, true, true, true, true, true, true, true, true, true, true, true, true, true, true, true, true, true, true, true, true, true, true, true, true, true, false, false, false]) (a' := { tmps := #[.agg T0, .int .u64 a1, .pointer (some ⟨B, 0, none⟩), undef, .bool false, .pointer (some ⟨F, 0, none⟩), .pointer (some ⟨G, 0, none⟩), .bool true, .pointer (some ⟨B, 28, none⟩), .slice (some ⟨bA, oA, none⟩) nA cA, .int .i64 (nA : Int), .bool false, undef, .agg T0, .int .u64 a1, .agg T1, .pointer (some ⟨B, 20, none⟩), .int .u64 t0.handler, .bool false, ud, ud, ud, ud, ud, ud, ud, ud, ud, ud, ud, ud, ud, ud, ud, ud, undef, .pointer (some ⟨F, 0, none⟩), .pointer (some ⟨F, 14, none⟩), .int .u64 t0.pc, .pointer (some ⟨B, 16, none⟩), .int .u64 t0.pc, .bool false, .bool false, .pointer (some ⟨F, 0, none⟩), .pointer (some ⟨F, 15, none⟩), .int .u64 a1, .int .u64 a1, .bool false, .bool false, .bool false, .pointer (some ⟨F, 16, none⟩), .int .u64 t0.handler, .pointer (some ⟨B, 20, none⟩), .int .u64 t0.handler, .bool false, .bool false, .bool false, .pointer (some ⟨F, 20, none⟩), .int .u64 0, .bool false, .bool false, .bool false, .pointer (some ⟨F, 22, none⟩), .int .i64 t0.state, .pointer (some ⟨B, 22, none⟩), .int .i64 t0.state, .bool false, .bool false, .tuple #[.agg T5, .bool true], .agg T0, .tuple #[.agg T5, .bool true], .agg T5, .bool true, .bool true, .pointer (some ⟨B, 28, none⟩), .slice (some ⟨bA, oA, none⟩) nA cA, .int .i64 (nA : Int), .bool true, .bool true, .pointer (some ⟨B, 21, none⟩), .int .u64 t0.vector, .bool true, .bool true, .bool false, .bool true, .bool false, ud, ud, ud, ud, ud, undef, .pointer (some ⟨G, 0, none⟩), .pointer (some ⟨G, 14, none⟩), .int .u64 t0.pc, .pointer (some ⟨B, 16, none⟩), .int .u64 t0.pc, .bool true, .bool true, .pointer (some ⟨G, 0, none⟩), .pointer (some ⟨G, 15, none⟩), .int .u64 (t0.alerts.getD 0 0), .pointer (some ⟨B, 28, none⟩), .slice (some ⟨bA, oA, none⟩) nA cA, .pointer (some ⟨bA, oA, none⟩), .int .u64 (t0.alerts.getD 0 0), .bool true, .bool true, .bool true, .pointer (some ⟨G, 16, none⟩), .int .u64 t0.vector, .pointer (some ⟨B, 21, none⟩), .int .u64 t0.vector, .bool true, .bool true, .bool true, .pointer (some ⟨G, 21, none⟩), .int .u64 0, .bool true, .bool true, .bool true, .pointer (some ⟨G, 28, none⟩), .slice aX nX cX, .int .i64 (nX : Int), .pointer (some ⟨B, 28, none⟩), .slice (some ⟨bA, oA, none⟩) nA cA, .int .i64 (nA : Int), .int .i64 (nX : Int), .bool true, .bool true, .bool true, ud, undef], defers := [] }) (obs := [.ia 37 (.pointer (some ⟨G, 0, none⟩)) (.int .i64 14) (.pointer (some ⟨G, 14, none⟩)), .load 22 G 14 (.int .u64 t0.pc), .load 22 B 16 (.int .u64 t0.pc), .test .eql 22 (.tmp 94) (.tmp 96) (.int .u64 t0.pc) (.int .u64 t0.pc) (.bool true), .ia 37 (.pointer (some ⟨G, 0, none⟩)) (.int .i64 15) (.pointer (some ⟨G, 15, none⟩)), .load 22 G 15 (.int .u64 (t0.alerts.getD 0 0)), .load 35 B 28 (.slice (some ⟨bA, oA, none⟩) nA cA), .ia 35 (.slice (some ⟨bA, oA, none⟩) nA cA) (.int .i64 0) (.pointer (some ⟨bA, oA, none⟩)), .load 22 bA oA (.int .u64 (t0.alerts.getD 0 0)), .test .eql 22 (.tmp 101) (.tmp 105) (.int .u64 (t0.alerts.getD 0 0)) (.int .u64 (t0.alerts.getD 0 0)) (.bool true), .load 22 G 16 (.int .u64 t0.vector), .load 22 B 21 (.int .u64 t0.vector), .test .eql 22 (.tmp 110) (.tmp 112) (.int .u64 t0.vector) (.int .u64 t0.vector) (.bool true), .load 22 G 21 (.int .u64 0), .test .eql 22 (.tmp 117) (.const (.int .u64 0)) (.int .u64 0) (.int .u64 0) (.bool true), .load 35 G 28 (.slice aX nX cX), .ln 35 3 (.slice aX nX cX) (.int .i64 (nX : Int)), .load 35 B 28 (.slice (some ⟨bA, oA, none⟩) nA cA), .ln 35 3 (.slice (some ⟨bA, oA, none⟩) nA cA) (.int .i64 (nA : Int)), .test .sub 3 (.tmp 126) (.const (.int .i64 1)) (.int .i64 (nA : Int)) (.int .i64 1) (.int .i64 (nX : Int)), .test .eql 3 (.tmp 123) (.tmp 127) (.int .i64 (nX : Int)) (.int .i64 (nX : Int)) (.bool true)]) (n := 3) (by kernel_rfl) (by kernel_rfl) ⟨fun W hS => run_ia14 G W, ob_load1 (fun W hS => hS.2.1) g14 ga1, ob_load1 (fun W hS => hS.1) e1 ga1, ob_same, fun W hS => run_ia15 G W, ob_load1 (fun W hS => hS.2.1) g15 ga1, ob_load1 (fun W hS => hS.1) eA ga3, ia_zero hn0.out, ob_word (fun W hS => (hS.2.2.cell (p := ⟨bA, oA, none⟩) hbA).trans hcA) ga1, ob_same, ob_load1 (fun W hS => hS.2.1) g16 ga1, ob_load1 (fun W hS => hS.1) e5 ga1, ob_same, ob_load1 (fun W hS => hS.2.1) g21 ga1, ob_same, ob_load1 (fun W hS => hS.2.1) g28 ga3, ob_lnu, ob_load1 (fun W hS => hS.1) eA ga3, ob_lnu, ob_subE hX1.out (by omega), ob_sameI, trivial⟩ ?_
   refine wpAnyH_single (i := 39) (n := 2) rfl (by kernel_rfl) ?_
   refine wpOp_callL (f := 8) (vs := []) (d := some 131) (by kernel_rfl) Tryz.call8 (awake19_any _) ?_
   rintro e w01 ⟨rfl, hb9⟩
   have hS01 : Blk w01 B T0 46 ∧ Blk w01 G T5 46 ∧ Below w.heap.size w w01 := ⟨hS0.1.next hb9, hS0.2.1.next hb9, hS0.2.2.trans (hb9.mono hS0.2.2.size)⟩
   refine ⟨_, rfl, hS01, ?_⟩
   refine wpAnyH_symN (by kernel_rfl) (fun _ _ _ _ _ h => h) hS01 [(40, none), (41, none)] (l' := #[true, true, true, true, true, true, true, true, true, true, true, true, true, true, true, true, true, true, true, true, true, true, true, true, true, true, true, true, true, true, true, true, true, true, true, true, true, true, true, true, true, true]) (a' := { tmps := #[.agg T0, .int .u64 a1, .pointer (some ⟨B, 0, none⟩), undef, .bool true, .pointer (some ⟨F, 0, none⟩), .pointer (some ⟨G, 0, none⟩), .bool true, .pointer (some ⟨B, 28, none⟩), .slice (some ⟨bA, oA, none⟩) nA cA, .int .i64 (nA : Int), .bool false, undef, .agg T0, .int .u64 a1, .agg T1, .pointer (some ⟨B, 20, none⟩), .int .u64 t0.handler, .bool false, ud, ud, ud, ud, ud, ud, ud, ud, ud, ud, ud, ud, ud, ud, ud, ud, undef, .pointer (some ⟨F, 0, none⟩), .pointer (some ⟨F, 14, none⟩), .int .u64 t0.pc, .pointer (some ⟨B, 16, none⟩), .int .u64 t0.pc, .bool false, .bool false, .pointer (some ⟨F, 0, none⟩), .pointer (some ⟨F, 15, none⟩), .int .u64 a1, .int .u64 a1, .bool false, .bool false, .bool false, .pointer (some ⟨F, 16, none⟩), .int .u64 t0.handler, .pointer (some ⟨B, 20, none⟩), .int .u64 t0.handler, .bool false, .bool false, .bool false, .pointer (some ⟨F, 20, none⟩), .int .u64 0, .bool false, .bool false, .bool false, .pointer (some ⟨F, 22, none⟩), .int .i64 t0.state, .pointer (some ⟨B, 22, none⟩), .int .i64 t0.state, .bool false, .bool false, .tuple #[.agg T5, .bool true], .agg T0, .tuple #[.agg T5, .bool true], .agg T5, .bool true, .bool true, .pointer (some ⟨B, 28, none⟩), .slice (some ⟨bA, oA, none⟩) nA cA, .int .i64 (nA : Int), .bool true, .bool true, .pointer (some ⟨B, 21, none⟩), .int .u64 t0.vector, .bool true, .bool true, .bool false, .bool true, .bool false, ud, ud, ud, ud, ud, undef, .pointer (some ⟨G, 0, none⟩), .pointer (some ⟨G, 14, none⟩), .int .u64 t0.pc, .pointer (some ⟨B, 16, none⟩), .int .u64 t0.pc, .bool true, .bool true, .pointer (some ⟨G, 0, none⟩), .pointer (some ⟨G, 15, none⟩), .int .u64 (t0.alerts.getD 0 0), .pointer (some ⟨B, 28, none⟩), .slice (some ⟨bA, oA, none⟩) nA cA, .pointer (some ⟨bA, oA, none⟩), .int .u64 (t0.alerts.getD 0 0), .bool true, .bool true, .bool true, .pointer (some ⟨G, 16, none⟩), .int .u64 t0.vector, .pointer (some ⟨B, 21, none⟩), .int .u64 t0.vector, .bool true, .bool true, .bool true, .pointer (some ⟨G, 21, none⟩), .int .u64 0, .bool true, .bool true, .bool true, .pointer (some ⟨G, 28, none⟩), .slice aX nX cX, .int .i64 (nX : Int), .pointer (some ⟨B, 28, none⟩), .slice (some ⟨bA, oA, none⟩) nA cA, .int .i64 (nA : Int), .int .i64 (nX : Int), .bool true, .bool true, .bool true, .bool true, .bool true], defers := [] }) (obs := []) (n := 0) (by kernel_rfl) (by kernel_rfl) trivial ?_
   refine wpAnyH_done (by kernel_rfl) ?_ _
   go_wp2
   go_ret
   exact ⟨rfl, hS01.2.2⟩

theorem lifted (os : Os) (started : os.Started) (H : Type) (enc : TypeId × Value → H) :
  ReturnsInHanded {} Tryz.checked os 6 .any (Rows.cpuTakenSpec.pre6 enc Tryz.prog Tryz.f6 Rows.cpuTakenRow.domain false) (Rows.cpuTakenSpec.post enc Tryz.prog Tryz.f6 false true false false) := by
 refine returnsInHanded_of_change_sized (C := Tryz.checked) own started (by kernel_rfl) Tryz.func6
  (ChangeSpec.witness6 (enc := enc) (C := Tryz.checked) false ⟨#[], #[.agg zT, .int .u64 0], []⟩ 8 (by kernel_rfl) (by kernel_rfl) (by kernel_rfl) (by kernel_rfl)) ?_
 intro W base args ds gs before hval0 hW hcnd hsz0 _
 have hval : ∀ (j : Nat) t v, Tryz.f6.params[j]? = some t → args[j]? = some v → Value.okWide Tryz.prog W .any base t v := hval0
 have hW' := hW
 obtain ⟨p, q, hA0, hV, rfl, hfz, hnd⟩ := hW
 have hA : DataW.TrodAll enc Tryz.prog W 0 (fun _ => true) true Tryz.f6.params.toList args.toList ds p := hA0
 rw [Tryz.params6] at hA hval
 obtain ⟨v0, vs0, d0, ds0, p0, q0, hargs, rfl, rfl, h0, r0⟩ := trodAll_cons hA
 obtain ⟨v1, vs1, d1, ds1, p1, q1, rfl, rfl, rfl, h1, r1⟩ := trodAll_cons r0
 obtain ⟨rfl, rfl, rfl⟩ := trodAll_nil r1
 obtain rfl : args = #[v0, v1] := by cases args; simp_all
 obtain ⟨rfl, rfl⟩ := trodVars_none hV
 have hsz : (DataW.weightsEach Tryz.prog [46, 22] [d0, d1]).all (fun x => decide (x ≤ reachBytes)) = true := hsz0
 have hWt0 : ∀ z ∈ DataW.weights Tryz.prog 46 d0, z ≤ reachBytes := fun z hz => of_decide_eq_true (List.all_eq_true.1 hsz z (by simp only [DataW.weightsEach, List.mem_append]; exact .inl hz))
 obtain ⟨T0, t0, rfl, l0⟩ := thread_of_trod (hval 0 46 v0 rfl rfl) h0 hWt0
 have k0 := h0
 have lt0 : ∀ x ∈ p0, x.block < W.heap.size := by obtain ⟨m, hm⟩ := k0; exact DataW.trod_lt m _ _ _ hm
 obtain ⟨a1, rfl, rfl, rfl, w1⟩ := open_int Tryz.underlying22 (hval 1 22 v1 rfl rfl) h1
 clear hA0 hval0
 refine (walk T0 t0 a1 W l0 w1).mono fun e W' ⟨he, bel⟩ => ?_
 subst he
 exact ⟨_, rfl, _, _, _, [], _, [], hW', trodAll_mk1 (shut_bool Tryz.underlying4 _), (trodAll_cons_mk (Below.trod laidOut (by kernel_rfl) (of_decide_eq_true (by kernel_rfl)) k0 bel lt0) (trodAll_cons_mk (shut_int Tryz.underlying22 w1) trodAll_mk0)), rfl, bel.frame _, fun h => by cases h⟩

theorem over : Rows.cpuTakenRow.holds Tryz.pinned (OpenSpec.ofChange Rows.cpuTakenSpec) :=
 OpenClaim.holds_of_wide 6 Tryz.f6 rfl rfl rfl rfl rfl rfl rfl ⟨rfl, rfl, rfl, rfl, rfl⟩ rfl rfl rfl rfl rfl (by kernel_rfl) Tryz.func6 (by kernel_rfl)
  (of_decide_eq_true (by kernel_rfl)) (by unfold Func.isWrapper; first | (rw [if_pos (by decide +kernel)]; kernel_rfl) | (rw [if_neg (by decide +kernel)]; exact ⟨rfl, rfl⟩))
  (fun os started H enc _ => lifted os started H enc)

end cpuTaken
theorem cpuTaken_holds : Rows.CpuTakenSaid :=
 cpuTaken.over
#print axioms cpuTaken_holds
end Go.Proofs.YtfghigibjdncbaaGreat
