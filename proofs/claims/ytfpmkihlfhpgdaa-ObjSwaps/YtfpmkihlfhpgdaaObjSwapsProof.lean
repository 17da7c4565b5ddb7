/-
  PROVED HERE: two objects of unlike ids may be put in either order; dropping does not hang on the order either; what is dropped behind being put is as if it had never been (ObjSwaps), over the landed code. No condition.
-/
import Derived.Test.YtfpmkihlfhpgdaaRows
import Derived.Test.YtfpmkihlfhpgdaaObOpen
import Derived.Test.YtfpmkihlfhpgdaaObJ
import Derived.WalkKit
import Derived.ProofKit
import Derived.OpenShut
import Derived.Below
import Derived.ShutString
import Derived.Deep.QuietTactic
namespace Go.Proofs.Ytfpmkihlfhpgdaa
namespace objSwaps
open Go.ChangeShapes Go.WideShapes Go.ChangeAt Go.RowKit
open Go.ChangeMaps (open_string shut_string)
set_option linter.unusedVariables false

theorem own : ownKnob Try.prog.godebug = none := by kernel_rfl

set_option maxRecDepth 100000 in
set_option maxHeartbeats 8000000 in
theorem walk (t0 ke0 ro0 : Int) (ao0 : Option Addr) (n0 cap0 : Nat) (X0 : List Ob) (C1 : Array Value) (x1 : Ob) (C2 : Array Value) (x2 : Ob) (w : World) (l0 : ObsD (LtN w) (LtN w) w ao0 n0 cap0 X0) (l1 : ObD (LtN w) w C1 x1) (l2 : ObD (LtN w) w C2 x2) :
    Calls Try.prog 6 #[.agg #[.int .i64 t0, .int .u64 ke0, .int .u64 ro0, .slice ao0 n0 cap0], .agg C1, .agg C2] w fun e w' => e = .returned (.bool true) ∧ Below w.heap.size w w' := by
  have hmx : Try.prog.follows .mixedOrders = true := by kernel_rfl
  have hz1 := l1.size
  have hz2 := l2.size
  have d1 := l1.id
  have d2 := l2.id
  have ga1 := Try.isAgg22
  have aw := awake_any
  have zg0 : (Try.prog.info? 43).map (·.size) = some (#[.int .i64 t0, .int .u64 ke0, .int .u64 ro0, .slice ao0 n0 cap0] : Array Value).size := size43
  have few0 := fun (W : World) (hk : Below w.heap.size w W) => few_any (t := t0) (ke := ke0) (ro := ro0) (obs_next l0 hk)
  have rft := fun (W : World) (hk : Below w.heap.size w W) => rfit_w (t := t0) (ke := ke0) (ro := ro0) (obs_next l0 hk)
  have pw := fun {W : World} {C : Array Value} {x : Ob} (hk : Below w.heap.size w W) (hs : Srt X0) (hn : n0 < 1024) (hm : Smalls X0) (hx : ObD (LtN W) W C x) (hxs : Small x) => put_w (t := t0) (ke := ke0) (ro := ro0) (D0 := LtN W) (fun _ h => h) (obs_next l0 hk) hs hn hm hx hxs
  have dw := fun {W : World} {i : Int} (hk : Below w.heap.size w W) (hs : Srt X0) (hn : n0 < 1024) (hm : Smalls X0) => drop_w (t := t0) (ke := ke0) (ro := ro0) (i := i) (D0 := LtN W) (fun _ h => h) (obs_next l0 hk) hs hn hm
  obtain ⟨G0, hG0⟩ : ∃ G : Array Value, G = #[.int .i64 t0, .int .u64 ke0, .int .u64 ro0, .slice ao0 n0 cap0] := ⟨_, rfl⟩
  rw [← hG0] at zg0 few0 rft pw dw
  rw [← hG0]
  clear hG0
  go_enter Try.func6, Try.ntmps6
  try simp only [List.append]
  go_wp2_with (first
    | go_skip
    | (with_reducible refine wpList_box rfl _ _ rfl G0 rfl ?_; intro B3 W3 hN3 hB3 hk)
    | (with_reducible refine wpList_box rfl _ _ rfl C1 rfl ?_; intro B4 W4 hN4 hB4 hk4; replace hB3 := hB3.next hk4; replace hk := hk.trans (hk4.mono hk.size))
    | (with_reducible refine wpList_box rfl _ _ rfl C2 rfl ?_; intro B5 W5 hN5 hB5 hk5; replace hB3 := hB3.next hk5; replace hB4 := hB4.next hk5; replace hk := hk.trans (hk5.mono hk.size); clear hN3 hN4 hN5 hk4 hk5)
    | (with_reducible refine wpList_loadb (by kernel_rfl) 43 _ rfl B3 rfl G0 hB3 _ Try.underlying43 (by kernel_rfl) zg0 ?_)
    | (with_reducible refine wpList_loadb (by kernel_rfl) 40 _ rfl B4 rfl C1 hB4 _ Try.underlying40 (by kernel_rfl) (size40C hz1) ?_)
    | (with_reducible refine wpList_loadb (by kernel_rfl) 40 _ rfl B5 rfl C2 hB5 _ Try.underlying40 (by kernel_rfl) (size40C hz2) ?_)
    | (with_reducible refine wpList_load1 (by kernel_rfl) _ _ rfl B4 _ rfl _ _ hB4 _ d1 ga1 ?_)
    | (with_reducible refine wpList_load1 (by kernel_rfl) _ _ rfl B5 _ rfl _ _ hB5 _ d2 ga1 ?_)
    | ((with_reducible refine wpList_test (by kernel_rfl) .eql _ _ _ _ rfl _ _ rfl rfl (eqg_int _ _ _ _ _ _) ?_ ?_) <;> intro hq)
    | (go_at_call 8; (with_reducible refine (few0 _ hk).on ?_ ?_) <;> (intro w1 hq1 hb8; replace hB3 := hB3.next hb8; replace hB4 := hB4.next hb8; replace hB5 := hB5.next hb8; replace hk := hk.trans (hb8.mono hk.size); clear hb8))
    | (go_at_call 7; (with_reducible refine (brief_any (l1.next hk)).on ?_ ?_) <;> (intro w2 hq2 hb8; replace hB3 := hB3.next hb8; replace hB4 := hB4.next hb8; replace hB5 := hB5.next hb8; replace hk := hk.trans (hb8.mono hk.size); clear hb8))
    | (go_at_call 7; (with_reducible refine (brief_any (l2.next hk)).on ?_ ?_) <;> (intro w3 hq3 hb8; replace hB3 := hB3.next hb8; replace hB4 := hB4.next hb8; replace hB5 := hB5.next hb8; replace hk := hk.trans (hb8.mono hk.size); clear hb8))
    | (go_at_call 13; (with_reducible refine (rft _ hk).on ?_ ?_) <;> (intro w4 hq4 hb8; replace hB3 := hB3.next hb8; replace hB4 := hB4.next hb8; replace hB5 := hB5.next hb8; replace hk := hk.trans (hb8.mono hk.size); clear hb8))
    | (go_at_call 11; (with_reducible refine (rsound_any (l1.next hk)).on ?_ ?_) <;> (intro w5 hq5 hb8; replace hB3 := hB3.next hb8; replace hB4 := hB4.next hb8; replace hB5 := hB5.next hb8; replace hk := hk.trans (hb8.mono hk.size); clear hb8))
    | (go_at_call 11; (with_reducible refine (rsound_any (l2.next hk)).on ?_ ?_) <;> (intro w6 hq6 hb8; replace hB3 := hB3.next hb8; replace hB4 := hB4.next hb8; replace hB5 := hB5.next hb8; replace hk := hk.trans (hb8.mono hk.size); clear hb8))
    | (go_at_call 9; (with_reducible refine (aw _).mono ?_); rintro e w9 ⟨rfl, hb8⟩; replace hk := hk.trans (hb8.mono hk.size)))
  all_goals (try (go_ret; exact ⟨rfl, hk⟩))
  have hne : x1.id ≠ x2.id := hq.out
  have hs0 : Srt X0 := fit_srt hq4.out
  have sm0 : Smalls X0 := smalls_of hq1.out hq4.out
  have sm1 : Small x1 := small_of hq2.out hq5.out
  have sm2 : Small x2 := small_of hq3.out hq6.out
  have hn20 : X0.length ≤ 20 := hq1.out.1
  have hn0 : n0 < 1024 := by rw [← l0.1]; omega
  have hneH : Hid (x1.id ≠ x2.id) := hne
  clear hq1 hq2 hq3 hq4 hq5 hq6 hq hne few0 rft
  refine PgM.region_out (S := fun W => Blk W B3 G0 43 ∧ Blk W B4 C1 40 ∧ Blk W B5 C2 40) hmx ⟨hB3.next (Below.refl _ _).drew, hB4.next (Below.refl _ _).drew, hB5.next (Below.refl _ _).drew⟩ (fun hS => ?_)
  have hkd := (Below.refl w6.heap.size w6).drew
  replace hk := hk.trans (hkd.mono hk.size)
  generalize w6.drew = v1 at hS hk ⊢
  clear hkd hB3 hB4 hB5
  refine wpAnyH_sym (by kernel_rfl) (fun _ _ _ _ _ h => h) hS [(0, some (.agg G0)), (1, some (.agg C1)), (3, some (.agg C2)), (5, some (.agg G0)), (6, some (.agg C2)), (8, some (.agg C1))] (l' := #[true, true, false, true, false, true, true, false, true, false, false, false, false, false, false, false, false, false, false, false, false, false, false, false, false, false, false, false, false, false]) (a' := { tmps := #[.agg G0, .agg C1, .agg C2, .pointer (some ⟨B3, 0, none⟩), .pointer (some ⟨B4, 0, none⟩), .pointer (some ⟨B5, 0, none⟩), .bool false, .agg G0, .bool true, .bool false, .bool false, .agg C1, .bool true, .bool false, .bool false, .bool false, .agg C2, .bool true, .bool false, .bool false, .bool false, .agg G0, .bool true, .bool false, .bool false, .bool false, .agg C1, .bool true, .bool false, .bool false, .bool false, .agg C2, .bool true, .bool false, .bool false, .bool false, .pointer (some ⟨B4, 0, none⟩), .int .u64 x1.id, .pointer (some ⟨B5, 0, none⟩), .int .u64 x2.id, .bool false, .bool false, undef, .agg G0, .agg C1, undef, .agg C2, undef, .agg G0, .agg C2, undef, .agg C1, undef, undef, undef, undef, undef, undef, undef, undef, undef, undef, undef, undef, undef, undef, undef, undef, undef, undef, undef, undef, undef, undef, undef, undef, undef, undef, undef, undef, undef, undef, undef, undef, undef, undef, undef, undef, undef, undef, undef, undef, undef, undef, undef, undef, undef, undef, undef, undef, undef, undef], defers := [] }) (obs := [.load 43 B3 0 (.agg G0), .load 40 B4 0 (.agg C1), .load 40 B5 0 (.agg C2), .load 43 B3 0 (.agg G0), .load 40 B5 0 (.agg C2), .load 40 B4 0 (.agg C1)]) (n := 24) (by kernel_rfl) (by kernel_rfl) ⟨ob_loadb (fun _ h => h.1) Try.underlying43 (by kernel_rfl) zg0, ob_loadb (fun _ h => h.2.1) Try.underlying40 (by kernel_rfl) (size40C hz1), ob_loadb (fun _ h => h.2.2) Try.underlying40 (by kernel_rfl) (size40C hz2), ob_loadb (fun _ h => h.1) Try.underlying43 (by kernel_rfl) zg0, ob_loadb (fun _ h => h.2.2) Try.underlying40 (by kernel_rfl) (size40C hz2), ob_loadb (fun _ h => h.2.1) Try.underlying40 (by kernel_rfl) (size40C hz1), trivial⟩ ?_
  refine wpAnyH_callL (i := 2) (fuel := 23) (f := 27) (vs := [.agg G0, .agg C1]) (d := some 45) (by kernel_rfl) (by kernel_rfl) (by kernel_rfl) Try.call27 (pw hk hs0 hn0 sm0 (l1.next hk) sm1) ?_
  rintro e v20 ⟨aA, nA, cA, rfl, oA, hb20⟩
  refine ⟨_, rfl, ⟨hS.1.next hb20, hS.2.1.next hb20, hS.2.2.next hb20⟩, ?_⟩
  replace hS : Blk v20 B3 G0 43 ∧ Blk v20 B4 C1 40 ∧ Blk v20 B5 C2 40 := ⟨hS.1.next hb20, hS.2.1.next hb20, hS.2.2.next hb20⟩
  replace hk := hk.trans (hb20.mono hk.size)
  replace oA := obs_mk oA hb20
  have hnA : nA < 1024 := by rw [← oA.1]; have := puR_len X0 x1; omega
  clear hb20
  refine wpAnyH_callL (i := 4) (fuel := 22) (f := 27) (vs := [.agg #[.int .i64 t0, .int .u64 ke0, .int .u64 ro0, .slice aA nA cA], .agg C2]) (d := some 47) (by kernel_rfl) (by kernel_rfl) (by kernel_rfl) Try.call27 (put_w (t := t0) (ke := ke0) (ro := ro0) (D0 := LtN _) (fun _ h => h) oA (srt_put hs0 x1) hnA (smalls_put sm0 sm1) (l2.next hk) sm2) ?_
  rintro e v21 ⟨aB, nB, cB, rfl, oB, hb21⟩
  refine ⟨_, rfl, ⟨hS.1.next hb21, hS.2.1.next hb21, hS.2.2.next hb21⟩, ?_⟩
  replace hS : Blk v21 B3 G0 43 ∧ Blk v21 B4 C1 40 ∧ Blk v21 B5 C2 40 := ⟨hS.1.next hb21, hS.2.1.next hb21, hS.2.2.next hb21⟩
  replace hk := hk.trans (hb21.mono hk.size)
  replace oA := obs_next oA hb21
  replace oB := obs_mk oB hb21
  have hnB : nB < 1024 := by rw [← oB.1]; have := puR_len (puR X0 x1) x2; have := puR_len X0 x1; omega
  clear hb21
  refine wpAnyH_callL (i := 7) (fuel := 21) (f := 27) (vs := [.agg G0, .agg C2]) (d := some 50) (by kernel_rfl) (by kernel_rfl) (by kernel_rfl) Try.call27 (pw hk hs0 hn0 sm0 (l2.next hk) sm2) ?_
  rintro e v22 ⟨aC, nC, cC, rfl, oC, hb22⟩
  refine ⟨_, rfl, ⟨hS.1.next hb22, hS.2.1.next hb22, hS.2.2.next hb22⟩, ?_⟩
  replace hS : Blk v22 B3 G0 43 ∧ Blk v22 B4 C1 40 ∧ Blk v22 B5 C2 40 := ⟨hS.1.next hb22, hS.2.1.next hb22, hS.2.2.next hb22⟩
  replace hk := hk.trans (hb22.mono hk.size)
  replace oA := obs_next oA hb22
  replace oB := obs_next oB hb22
  replace oC := obs_mk oC hb22
  have hnC : nC < 1024 := by rw [← oC.1]; have := puR_len X0 x2; omega
  clear hb22
  refine wpAnyH_callL (i := 9) (fuel := 20) (f := 27) (vs := [.agg #[.int .i64 t0, .int .u64 ke0, .int .u64 ro0, .slice aC nC cC], .agg C1]) (d := some 52) (by kernel_rfl) (by kernel_rfl) (by kernel_rfl) Try.call27 (put_w (t := t0) (ke := ke0) (ro := ro0) (D0 := LtN _) (fun _ h => h) oC (srt_put hs0 x2) hnC (smalls_put sm0 sm2) (l1.next hk) sm1) ?_
  rintro e v23 ⟨aD, nD, cD, rfl, oD, hb23⟩
  refine ⟨_, rfl, ⟨hS.1.next hb23, hS.2.1.next hb23, hS.2.2.next hb23⟩, ?_⟩
  replace hS : Blk v23 B3 G0 43 ∧ Blk v23 B4 C1 40 ∧ Blk v23 B5 C2 40 := ⟨hS.1.next hb23, hS.2.1.next hb23, hS.2.2.next hb23⟩
  replace hk := hk.trans (hb23.mono hk.size)
  replace oA := obs_next oA hb23
  replace oB := obs_next oB hb23
  replace oC := obs_next oC hb23
  replace oD := obs_mk oD hb23
  have hnD : nD < 1024 := by rw [← oD.1]; have := puR_len (puR X0 x2) x1; have := puR_len X0 x2; omega
  clear hb23
  refine wpAnyH_callL (i := 10) (fuel := 19) (f := 17) (vs := [.agg #[.int .i64 t0, .int .u64 ke0, .int .u64 ro0, .slice aB nB cB], .agg #[.int .i64 t0, .int .u64 ke0, .int .u64 ro0, .slice aD nD cD]]) (d := some 53) (by kernel_rfl) (by kernel_rfl) (by kernel_rfl) Try.call17 ((rsame_w (t := t0) (ke := ke0) (ro := ro0) (t' := t0) (ke' := ke0) (ro' := ro0) oB oD).sure (by rw [put_swap hs0 hneH.out])) ?_
  rintro e v24 ⟨rfl, hb24⟩
  refine ⟨_, rfl, ⟨hS.1.next hb24, hS.2.1.next hb24, hS.2.2.next hb24⟩, ?_⟩
  replace hS : Blk v24 B3 G0 43 ∧ Blk v24 B4 C1 40 ∧ Blk v24 B5 C2 40 := ⟨hS.1.next hb24, hS.2.1.next hb24, hS.2.2.next hb24⟩
  replace hk := hk.trans (hb24.mono hk.size)
  replace oA := obs_next oA hb24
  replace oB := obs_next oB hb24
  replace oC := obs_next oC hb24
  replace oD := obs_next oD hb24
  clear hb24
  refine wpAnyH_sym (by kernel_rfl) (fun _ _ _ _ _ h => h) hS [(11, none), (12, none), (13, some (.agg G0)), (14, none), (15, some (.int .u64 x1.id)), (17, none), (18, some (.int .u64 x2.id)), (20, some (.agg G0)), (21, none), (22, some (.int .u64 x2.id)), (24, none), (25, some (.int .u64 x1.id))] (l' := #[true, true, true, true, true, true, true, true, true, true, true, true, true, true, true, true, false, true, true, false, true, true, true, false, true, true, false, false, false, false]) (a' := { tmps := #[.agg G0, .agg C1, .agg C2, .pointer (some ⟨B3, 0, none⟩), .pointer (some ⟨B4, 0, none⟩), .pointer (some ⟨B5, 0, none⟩), .bool false, .agg G0, .bool true, .bool false, .bool false, .agg C1, .bool true, .bool false, .bool false, .bool false, .agg C2, .bool true, .bool false, .bool false, .bool false, .agg G0, .bool true, .bool false, .bool false, .bool false, .agg C1, .bool true, .bool false, .bool false, .bool false, .agg C2, .bool true, .bool false, .bool false, .bool false, .pointer (some ⟨B4, 0, none⟩), .int .u64 x1.id, .pointer (some ⟨B5, 0, none⟩), .int .u64 x2.id, .bool false, .bool false, undef, .agg G0, .agg C1, .agg #[.int .i64 t0, .int .u64 ke0, .int .u64 ro0, .slice aA nA cA], .agg C2, .agg #[.int .i64 t0, .int .u64 ke0, .int .u64 ro0, .slice aB nB cB], .agg G0, .agg C2, .agg #[.int .i64 t0, .int .u64 ke0, .int .u64 ro0, .slice aC nC cC], .agg C1, .agg #[.int .i64 t0, .int .u64 ke0, .int .u64 ro0, .slice aD nD cD], .bool true, .bool false, .bool false, .agg G0, .pointer (some ⟨B4, 0, none⟩), .int .u64 x1.id, undef, .pointer (some ⟨B5, 0, none⟩), .int .u64 x2.id, undef, .agg G0, .pointer (some ⟨B5, 0, none⟩), .int .u64 x2.id, undef, .pointer (some ⟨B4, 0, none⟩), .int .u64 x1.id, undef, undef, undef, undef, undef, undef, undef, undef, undef, undef, undef, undef, undef, undef, undef, undef, undef, undef, undef, undef, undef, undef, undef, undef, undef, undef, undef, undef, undef, undef, undef, undef, undef], defers := [] }) (obs := [.load 43 B3 0 (.agg G0), .load 22 B4 0 (.int .u64 x1.id), .load 22 B5 0 (.int .u64 x2.id), .load 43 B3 0 (.agg G0), .load 22 B5 0 (.int .u64 x2.id), .load 22 B4 0 (.int .u64 x1.id)]) (n := 7) (by kernel_rfl) (by kernel_rfl) ⟨ob_loadb (fun _ h => h.1) Try.underlying43 (by kernel_rfl) zg0, ob_load1 (fun _ h => h.2.1) d1 Try.isAgg22, ob_load1 (fun _ h => h.2.2) d2 Try.isAgg22, ob_loadb (fun _ h => h.1) Try.underlying43 (by kernel_rfl) zg0, ob_load1 (fun _ h => h.2.2) d2 Try.isAgg22, ob_load1 (fun _ h => h.2.1) d1 Try.isAgg22, trivial⟩ ?_
  refine wpAnyH_callL (i := 16) (fuel := 6) (f := 28) (vs := [.agg G0, .int .u64 x1.id]) (d := some 59) (by kernel_rfl) (by kernel_rfl) (by kernel_rfl) Try.call28 (dw (i := x1.id) hk hs0 hn0 sm0) ?_
  rintro e v25 ⟨aE, nE, cE, rfl, oE, hb25⟩
  refine ⟨_, rfl, ⟨hS.1.next hb25, hS.2.1.next hb25, hS.2.2.next hb25⟩, ?_⟩
  replace hS : Blk v25 B3 G0 43 ∧ Blk v25 B4 C1 40 ∧ Blk v25 B5 C2 40 := ⟨hS.1.next hb25, hS.2.1.next hb25, hS.2.2.next hb25⟩
  replace hk := hk.trans (hb25.mono hk.size)
  replace oA := obs_next oA hb25
  replace oB := obs_next oB hb25
  replace oC := obs_next oC hb25
  replace oD := obs_next oD hb25
  replace oE := obs_mk oE hb25
  have hnE : nE < 1024 := by rw [← oE.1]; have := drp_len X0 x1.id; omega
  clear hb25
  refine wpAnyH_callL (i := 19) (fuel := 5) (f := 28) (vs := [.agg #[.int .i64 t0, .int .u64 ke0, .int .u64 ro0, .slice aE nE cE], .int .u64 x2.id]) (d := some 62) (by kernel_rfl) (by kernel_rfl) (by kernel_rfl) Try.call28 (drop_w (t := t0) (ke := ke0) (ro := ro0) (i := x2.id) (D0 := LtN _) (fun _ h => h) oE (srt_drp hs0 _) hnE (smalls_drp sm0)) ?_
  rintro e v26 ⟨aF, nF, cF, rfl, oF, hb26⟩
  refine ⟨_, rfl, ⟨hS.1.next hb26, hS.2.1.next hb26, hS.2.2.next hb26⟩, ?_⟩
  replace hS : Blk v26 B3 G0 43 ∧ Blk v26 B4 C1 40 ∧ Blk v26 B5 C2 40 := ⟨hS.1.next hb26, hS.2.1.next hb26, hS.2.2.next hb26⟩
  replace hk := hk.trans (hb26.mono hk.size)
  replace oA := obs_next oA hb26
  replace oB := obs_next oB hb26
  replace oC := obs_next oC hb26
  replace oD := obs_next oD hb26
  replace oE := obs_next oE hb26
  replace oF := obs_mk oF hb26
  have hnF : nF < 1024 := by rw [← oF.1]; have := drp_len (drpL X0 x1.id) x2.id; have := drp_len X0 x1.id; omega
  clear hb26
  refine wpAnyH_callL (i := 23) (fuel := 4) (f := 28) (vs := [.agg G0, .int .u64 x2.id]) (d := some 66) (by kernel_rfl) (by kernel_rfl) (by kernel_rfl) Try.call28 (dw (i := x2.id) hk hs0 hn0 sm0) ?_
  rintro e v27 ⟨aG, nG, cG, rfl, oG, hb27⟩
  refine ⟨_, rfl, ⟨hS.1.next hb27, hS.2.1.next hb27, hS.2.2.next hb27⟩, ?_⟩
  replace hS : Blk v27 B3 G0 43 ∧ Blk v27 B4 C1 40 ∧ Blk v27 B5 C2 40 := ⟨hS.1.next hb27, hS.2.1.next hb27, hS.2.2.next hb27⟩
  replace hk := hk.trans (hb27.mono hk.size)
  replace oA := obs_next oA hb27
  replace oB := obs_next oB hb27
  replace oC := obs_next oC hb27
  replace oD := obs_next oD hb27
  replace oE := obs_next oE hb27
  replace oF := obs_next oF hb27
  replace oG := obs_mk oG hb27
  have hnG : nG < 1024 := by rw [← oG.1]; have := drp_len X0 x2.id; omega
  clear hb27
  refine wpAnyH_callL (i := 26) (fuel := 3) (f := 28) (vs := [.agg #[.int .i64 t0, .int .u64 ke0, .int .u64 ro0, .slice aG nG cG], .int .u64 x1.id]) (d := some 69) (by kernel_rfl) (by kernel_rfl) (by kernel_rfl) Try.call28 (drop_w (t := t0) (ke := ke0) (ro := ro0) (i := x1.id) (D0 := LtN _) (fun _ h => h) oG (srt_drp hs0 _) hnG (smalls_drp sm0)) ?_
  rintro e v28 ⟨aH, nH, cH, rfl, oH, hb28⟩
  refine ⟨_, rfl, ⟨hS.1.next hb28, hS.2.1.next hb28, hS.2.2.next hb28⟩, ?_⟩
  replace hS : Blk v28 B3 G0 43 ∧ Blk v28 B4 C1 40 ∧ Blk v28 B5 C2 40 := ⟨hS.1.next hb28, hS.2.1.next hb28, hS.2.2.next hb28⟩
  replace hk := hk.trans (hb28.mono hk.size)
  replace oA := obs_next oA hb28
  replace oB := obs_next oB hb28
  replace oC := obs_next oC hb28
  replace oD := obs_next oD hb28
  replace oE := obs_next oE hb28
  replace oF := obs_next oF hb28
  replace oG := obs_next oG hb28
  replace oH := obs_mk oH hb28
  have hnH : nH < 1024 := by rw [← oH.1]; have := drp_len (drpL X0 x2.id) x1.id; have := drp_len X0 x2.id; omega
  clear hb28
  refine wpAnyH_callL (i := 27) (fuel := 2) (f := 17) (vs := [.agg #[.int .i64 t0, .int .u64 ke0, .int .u64 ro0, .slice aF nF cF], .agg #[.int .i64 t0, .int .u64 ke0, .int .u64 ro0, .slice aH nH cH]]) (d := some 70) (by kernel_rfl) (by kernel_rfl) (by kernel_rfl) Try.call17 ((rsame_w (t := t0) (ke := ke0) (ro := ro0) (t' := t0) (ke' := ke0) (ro' := ro0) oF oH).sure (by rw [drp_swap hs0])) ?_
  rintro e v29 ⟨rfl, hb29⟩
  refine ⟨_, rfl, ⟨hS.1.next hb29, hS.2.1.next hb29, hS.2.2.next hb29⟩, ?_⟩
  replace hS : Blk v29 B3 G0 43 ∧ Blk v29 B4 C1 40 ∧ Blk v29 B5 C2 40 := ⟨hS.1.next hb29, hS.2.1.next hb29, hS.2.2.next hb29⟩
  replace hk := hk.trans (hb29.mono hk.size)
  replace oA := obs_next oA hb29
  replace oB := obs_next oB hb29
  replace oC := obs_next oC hb29
  replace oD := obs_next oD hb29
  replace oE := obs_next oE hb29
  replace oF := obs_next oF hb29
  replace oG := obs_next oG hb29
  replace oH := obs_next oH hb29
  clear hb29
  refine wpAnyH_sym (by kernel_rfl) (fun _ _ _ _ _ h => h) hS [(28, none), (29, none)] (l' := #[true, true, true, true, true, true, true, true, true, true, true, true, true, true, true, true, true, true, true, true, true, true, true, true, true, true, true, true, true, true]) (a' := { tmps := #[.agg G0, .agg C1, .agg C2, .pointer (some ⟨B3, 0, none⟩), .pointer (some ⟨B4, 0, none⟩), .pointer (some ⟨B5, 0, none⟩), .bool false, .agg G0, .bool true, .bool false, .bool false, .agg C1, .bool true, .bool false, .bool false, .bool false, .agg C2, .bool true, .bool false, .bool false, .bool false, .agg G0, .bool true, .bool false, .bool false, .bool false, .agg C1, .bool true, .bool false, .bool false, .bool false, .agg C2, .bool true, .bool false, .bool false, .bool false, .pointer (some ⟨B4, 0, none⟩), .int .u64 x1.id, .pointer (some ⟨B5, 0, none⟩), .int .u64 x2.id, .bool false, .bool false, undef, .agg G0, .agg C1, .agg #[.int .i64 t0, .int .u64 ke0, .int .u64 ro0, .slice aA nA cA], .agg C2, .agg #[.int .i64 t0, .int .u64 ke0, .int .u64 ro0, .slice aB nB cB], .agg G0, .agg C2, .agg #[.int .i64 t0, .int .u64 ke0, .int .u64 ro0, .slice aC nC cC], .agg C1, .agg #[.int .i64 t0, .int .u64 ke0, .int .u64 ro0, .slice aD nD cD], .bool true, .bool false, .bool false, .agg G0, .pointer (some ⟨B4, 0, none⟩), .int .u64 x1.id, .agg #[.int .i64 t0, .int .u64 ke0, .int .u64 ro0, .slice aE nE cE], .pointer (some ⟨B5, 0, none⟩), .int .u64 x2.id, .agg #[.int .i64 t0, .int .u64 ke0, .int .u64 ro0, .slice aF nF cF], .agg G0, .pointer (some ⟨B5, 0, none⟩), .int .u64 x2.id, .agg #[.int .i64 t0, .int .u64 ke0, .int .u64 ro0, .slice aG nG cG], .pointer (some ⟨B4, 0, none⟩), .int .u64 x1.id, .agg #[.int .i64 t0, .int .u64 ke0, .int .u64 ro0, .slice aH nH cH], .bool true, .bool false, .bool false, undef, undef, undef, undef, undef, undef, undef, undef, undef, undef, undef, undef, undef, undef, undef, undef, undef, undef, undef, undef, undef, undef, undef, undef, undef, undef, undef, undef, undef], defers := [] }) (obs := []) (n := 0) (by kernel_rfl) (by kernel_rfl) trivial ?_
  refine wpAnyH_done (by kernel_rfl) ?_ _
  obtain ⟨hB3, hB4, hB5⟩ := hS
  clear oA oB oC oD oE oF oG oH hnA hnB hnC hnD hnE hnF hnG hnH
  go_wp2
  refine PgM.region_out (S := fun W => Blk W B3 G0 43 ∧ Blk W B4 C1 40 ∧ Blk W B5 C2 40) hmx ⟨hB3.next (Below.refl _ _).drew, hB4.next (Below.refl _ _).drew, hB5.next (Below.refl _ _).drew⟩ (fun hS => ?_)
  have hkd := (Below.refl v29.heap.size v29).drew
  replace hk := hk.trans (hkd.mono hk.size)
  generalize v29.drew = v2 at hS hk ⊢
  clear hkd hB3 hB4 hB5
  refine wpAnyH_sym (by kernel_rfl) (fun _ _ _ _ _ h => h) hS [(0, some (.agg G0)), (1, some (.agg C1)), (3, none), (4, some (.int .u64 x1.id)), (6, some (.agg G0)), (7, none), (8, some (.int .u64 x1.id))] (l' := #[true, true, false, true, true, false, true, true, true, false, false, false, false, false, false, false, false, false, false, false, false, false, false, false, false, false, false, false, false, false]) (a' := { tmps := #[.agg G0, .agg C1, .agg C2, .pointer (some ⟨B3, 0, none⟩), .pointer (some ⟨B4, 0, none⟩), .pointer (some ⟨B5, 0, none⟩), .bool false, .agg G0, .bool true, .bool false, .bool false, .agg C1, .bool true, .bool false, .bool false, .bool false, .agg C2, .bool true, .bool false, .bool false, .bool false, .agg G0, .bool true, .bool false, .bool false, .bool false, .agg C1, .bool true, .bool false, .bool false, .bool false, .agg C2, .bool true, .bool false, .bool false, .bool false, .pointer (some ⟨B4, 0, none⟩), .int .u64 x1.id, .pointer (some ⟨B5, 0, none⟩), .int .u64 x2.id, .bool false, .bool false, undef, .agg G0, .agg C1, .agg #[.int .i64 t0, .int .u64 ke0, .int .u64 ro0, .slice aA nA cA], .agg C2, .agg #[.int .i64 t0, .int .u64 ke0, .int .u64 ro0, .slice aB nB cB], .agg G0, .agg C2, .agg #[.int .i64 t0, .int .u64 ke0, .int .u64 ro0, .slice aC nC cC], .agg C1, .agg #[.int .i64 t0, .int .u64 ke0, .int .u64 ro0, .slice aD nD cD], .bool true, .bool false, .bool false, .agg G0, .pointer (some ⟨B4, 0, none⟩), .int .u64 x1.id, .agg #[.int .i64 t0, .int .u64 ke0, .int .u64 ro0, .slice aE nE cE], .pointer (some ⟨B5, 0, none⟩), .int .u64 x2.id, .agg #[.int .i64 t0, .int .u64 ke0, .int .u64 ro0, .slice aF nF cF], .agg G0, .pointer (some ⟨B5, 0, none⟩), .int .u64 x2.id, .agg #[.int .i64 t0, .int .u64 ke0, .int .u64 ro0, .slice aG nG cG], .pointer (some ⟨B4, 0, none⟩), .int .u64 x1.id, .agg #[.int .i64 t0, .int .u64 ke0, .int .u64 ro0, .slice aH nH cH], .bool true, .bool false, .bool false, .agg G0, .agg C1, undef, .pointer (some ⟨B4, 0, none⟩), .int .u64 x1.id, undef, .agg G0, .pointer (some ⟨B4, 0, none⟩), .int .u64 x1.id, undef, undef, undef, undef, undef, undef, undef, undef, undef, undef, undef, undef, undef, undef, undef, undef, undef, undef, undef, undef], defers := [] }) (obs := [.load 43 B3 0 (.agg G0), .load 40 B4 0 (.agg C1), .load 22 B4 0 (.int .u64 x1.id), .load 43 B3 0 (.agg G0), .load 22 B4 0 (.int .u64 x1.id)]) (n := 23) (by kernel_rfl) (by kernel_rfl) ⟨ob_loadb (fun _ h => h.1) Try.underlying43 (by kernel_rfl) zg0, ob_loadb (fun _ h => h.2.1) Try.underlying40 (by kernel_rfl) (size40C hz1), ob_load1 (fun _ h => h.2.1) d1 Try.isAgg22, ob_loadb (fun _ h => h.1) Try.underlying43 (by kernel_rfl) zg0, ob_load1 (fun _ h => h.2.1) d1 Try.isAgg22, trivial⟩ ?_
  refine wpAnyH_callL (i := 2) (fuel := 22) (f := 27) (vs := [.agg G0, .agg C1]) (d := some 75) (by kernel_rfl) (by kernel_rfl) (by kernel_rfl) Try.call27 (pw hk hs0 hn0 sm0 (l1.next hk) sm1) ?_
  rintro e v30 ⟨aJ, nJ, cJ, rfl, oJ, hb30⟩
  refine ⟨_, rfl, ⟨hS.1.next hb30, hS.2.1.next hb30, hS.2.2.next hb30⟩, ?_⟩
  replace hS : Blk v30 B3 G0 43 ∧ Blk v30 B4 C1 40 ∧ Blk v30 B5 C2 40 := ⟨hS.1.next hb30, hS.2.1.next hb30, hS.2.2.next hb30⟩
  replace hk := hk.trans (hb30.mono hk.size)
  replace oJ := obs_mk oJ hb30
  have hnJ : nJ < 1024 := by rw [← oJ.1]; have := puR_len X0 x1; omega
  clear hb30
  refine wpAnyH_callL (i := 5) (fuel := 21) (f := 28) (vs := [.agg #[.int .i64 t0, .int .u64 ke0, .int .u64 ro0, .slice aJ nJ cJ], .int .u64 x1.id]) (d := some 78) (by kernel_rfl) (by kernel_rfl) (by kernel_rfl) Try.call28 (drop_w (t := t0) (ke := ke0) (ro := ro0) (i := x1.id) (D0 := LtN _) (fun _ h => h) oJ (srt_put hs0 x1) hnJ (smalls_put sm0 sm1)) ?_
  rintro e v31 ⟨aK, nK, cK, rfl, oK, hb31⟩
  refine ⟨_, rfl, ⟨hS.1.next hb31, hS.2.1.next hb31, hS.2.2.next hb31⟩, ?_⟩
  replace hS : Blk v31 B3 G0 43 ∧ Blk v31 B4 C1 40 ∧ Blk v31 B5 C2 40 := ⟨hS.1.next hb31, hS.2.1.next hb31, hS.2.2.next hb31⟩
  replace hk := hk.trans (hb31.mono hk.size)
  replace oJ := obs_next oJ hb31
  replace oK := obs_mk oK hb31
  have hnK : nK < 1024 := by rw [← oK.1]; have := drp_len (puR X0 x1) x1.id; have := puR_len X0 x1; omega
  clear hb31
  refine wpAnyH_callL (i := 9) (fuel := 20) (f := 28) (vs := [.agg G0, .int .u64 x1.id]) (d := some 82) (by kernel_rfl) (by kernel_rfl) (by kernel_rfl) Try.call28 (dw (i := x1.id) hk hs0 hn0 sm0) ?_
  rintro e v32 ⟨aM, nM, cM, rfl, oM, hb32⟩
  refine ⟨_, rfl, ⟨hS.1.next hb32, hS.2.1.next hb32, hS.2.2.next hb32⟩, ?_⟩
  replace hS : Blk v32 B3 G0 43 ∧ Blk v32 B4 C1 40 ∧ Blk v32 B5 C2 40 := ⟨hS.1.next hb32, hS.2.1.next hb32, hS.2.2.next hb32⟩
  replace hk := hk.trans (hb32.mono hk.size)
  replace oJ := obs_next oJ hb32
  replace oK := obs_next oK hb32
  replace oM := obs_mk oM hb32
  have hnM : nM < 1024 := by rw [← oM.1]; have := drp_len X0 x1.id; omega
  clear hb32
  refine wpAnyH_callL (i := 10) (fuel := 19) (f := 17) (vs := [.agg #[.int .i64 t0, .int .u64 ke0, .int .u64 ro0, .slice aK nK cK], .agg #[.int .i64 t0, .int .u64 ke0, .int .u64 ro0, .slice aM nM cM]]) (d := some 83) (by kernel_rfl) (by kernel_rfl) (by kernel_rfl) Try.call17 ((rsame_w (t := t0) (ke := ke0) (ro := ro0) (t' := t0) (ke' := ke0) (ro' := ro0) oK oM).sure (by rw [drp_put hs0])) ?_
  rintro e v33 ⟨rfl, hb33⟩
  refine ⟨_, rfl, ⟨hS.1.next hb33, hS.2.1.next hb33, hS.2.2.next hb33⟩, ?_⟩
  replace hS : Blk v33 B3 G0 43 ∧ Blk v33 B4 C1 40 ∧ Blk v33 B5 C2 40 := ⟨hS.1.next hb33, hS.2.1.next hb33, hS.2.2.next hb33⟩
  replace hk := hk.trans (hb33.mono hk.size)
  replace oJ := obs_next oJ hb33
  replace oK := obs_next oK hb33
  replace oM := obs_next oM hb33
  clear hb33
  refine wpAnyH_sym (by kernel_rfl) (fun _ _ _ _ _ h => h) hS [(11, none), (12, some (.agg G0)), (13, some (.agg C1)), (15, none), (16, some (.int .u64 x2.id)), (18, some (.agg G0)), (19, none), (20, some (.int .u64 x2.id)), (22, some (.agg C1))] (l' := #[true, true, true, true, true, true, true, true, true, true, true, true, true, true, false, true, true, false, true, true, true, false, true, false, false, false, false, false, false, false]) (a' := { tmps := #[.agg G0, .agg C1, .agg C2, .pointer (some ⟨B3, 0, none⟩), .pointer (some ⟨B4, 0, none⟩), .pointer (some ⟨B5, 0, none⟩), .bool false, .agg G0, .bool true, .bool false, .bool false, .agg C1, .bool true, .bool false, .bool false, .bool false, .agg C2, .bool true, .bool false, .bool false, .bool false, .agg G0, .bool true, .bool false, .bool false, .bool false, .agg C1, .bool true, .bool false, .bool false, .bool false, .agg C2, .bool true, .bool false, .bool false, .bool false, .pointer (some ⟨B4, 0, none⟩), .int .u64 x1.id, .pointer (some ⟨B5, 0, none⟩), .int .u64 x2.id, .bool false, .bool false, undef, .agg G0, .agg C1, .agg #[.int .i64 t0, .int .u64 ke0, .int .u64 ro0, .slice aA nA cA], .agg C2, .agg #[.int .i64 t0, .int .u64 ke0, .int .u64 ro0, .slice aB nB cB], .agg G0, .agg C2, .agg #[.int .i64 t0, .int .u64 ke0, .int .u64 ro0, .slice aC nC cC], .agg C1, .agg #[.int .i64 t0, .int .u64 ke0, .int .u64 ro0, .slice aD nD cD], .bool true, .bool false, .bool false, .agg G0, .pointer (some ⟨B4, 0, none⟩), .int .u64 x1.id, .agg #[.int .i64 t0, .int .u64 ke0, .int .u64 ro0, .slice aE nE cE], .pointer (some ⟨B5, 0, none⟩), .int .u64 x2.id, .agg #[.int .i64 t0, .int .u64 ke0, .int .u64 ro0, .slice aF nF cF], .agg G0, .pointer (some ⟨B5, 0, none⟩), .int .u64 x2.id, .agg #[.int .i64 t0, .int .u64 ke0, .int .u64 ro0, .slice aG nG cG], .pointer (some ⟨B4, 0, none⟩), .int .u64 x1.id, .agg #[.int .i64 t0, .int .u64 ke0, .int .u64 ro0, .slice aH nH cH], .bool true, .bool false, .bool false, .agg G0, .agg C1, .agg #[.int .i64 t0, .int .u64 ke0, .int .u64 ro0, .slice aJ nJ cJ], .pointer (some ⟨B4, 0, none⟩), .int .u64 x1.id, .agg #[.int .i64 t0, .int .u64 ke0, .int .u64 ro0, .slice aK nK cK], .agg G0, .pointer (some ⟨B4, 0, none⟩), .int .u64 x1.id, .agg #[.int .i64 t0, .int .u64 ke0, .int .u64 ro0, .slice aM nM cM], .bool true, .bool true, .agg G0, .agg C1, undef, .pointer (some ⟨B5, 0, none⟩), .int .u64 x2.id, undef, .agg G0, .pointer (some ⟨B5, 0, none⟩), .int .u64 x2.id, undef, .agg C1, undef, undef, undef, undef, undef, undef], defers := [] }) (obs := [.load 43 B3 0 (.agg G0), .load 40 B4 0 (.agg C1), .load 22 B5 0 (.int .u64 x2.id), .load 43 B3 0 (.agg G0), .load 22 B5 0 (.int .u64 x2.id), .load 40 B4 0 (.agg C1)]) (n := 10) (by kernel_rfl) (by kernel_rfl) ⟨ob_loadb (fun _ h => h.1) Try.underlying43 (by kernel_rfl) zg0, ob_loadb (fun _ h => h.2.1) Try.underlying40 (by kernel_rfl) (size40C hz1), ob_load1 (fun _ h => h.2.2) d2 Try.isAgg22, ob_loadb (fun _ h => h.1) Try.underlying43 (by kernel_rfl) zg0, ob_load1 (fun _ h => h.2.2) d2 Try.isAgg22, ob_loadb (fun _ h => h.2.1) Try.underlying40 (by kernel_rfl) (size40C hz1), trivial⟩ ?_
  refine wpAnyH_callL (i := 14) (fuel := 9) (f := 27) (vs := [.agg G0, .agg C1]) (d := some 87) (by kernel_rfl) (by kernel_rfl) (by kernel_rfl) Try.call27 (pw hk hs0 hn0 sm0 (l1.next hk) sm1) ?_
  rintro e v34 ⟨aO, nO, cO, rfl, oO, hb34⟩
  refine ⟨_, rfl, ⟨hS.1.next hb34, hS.2.1.next hb34, hS.2.2.next hb34⟩, ?_⟩
  replace hS : Blk v34 B3 G0 43 ∧ Blk v34 B4 C1 40 ∧ Blk v34 B5 C2 40 := ⟨hS.1.next hb34, hS.2.1.next hb34, hS.2.2.next hb34⟩
  replace hk := hk.trans (hb34.mono hk.size)
  replace oJ := obs_next oJ hb34
  replace oK := obs_next oK hb34
  replace oM := obs_next oM hb34
  replace oO := obs_mk oO hb34
  have hnO : nO < 1024 := by rw [← oO.1]; have := puR_len X0 x1; omega
  clear hb34
  refine wpAnyH_callL (i := 17) (fuel := 8) (f := 28) (vs := [.agg #[.int .i64 t0, .int .u64 ke0, .int .u64 ro0, .slice aO nO cO], .int .u64 x2.id]) (d := some 90) (by kernel_rfl) (by kernel_rfl) (by kernel_rfl) Try.call28 (drop_w (t := t0) (ke := ke0) (ro := ro0) (i := x2.id) (D0 := LtN _) (fun _ h => h) oO (srt_put hs0 x1) hnO (smalls_put sm0 sm1)) ?_
  rintro e v35 ⟨aQ, nQ, cQ, rfl, oQ, hb35⟩
  refine ⟨_, rfl, ⟨hS.1.next hb35, hS.2.1.next hb35, hS.2.2.next hb35⟩, ?_⟩
  replace hS : Blk v35 B3 G0 43 ∧ Blk v35 B4 C1 40 ∧ Blk v35 B5 C2 40 := ⟨hS.1.next hb35, hS.2.1.next hb35, hS.2.2.next hb35⟩
  replace hk := hk.trans (hb35.mono hk.size)
  replace oJ := obs_next oJ hb35
  replace oK := obs_next oK hb35
  replace oM := obs_next oM hb35
  replace oO := obs_next oO hb35
  replace oQ := obs_mk oQ hb35
  have hnQ : nQ < 1024 := by rw [← oQ.1]; have := drp_len (puR X0 x1) x2.id; have := puR_len X0 x1; omega
  clear hb35
  refine wpAnyH_callL (i := 21) (fuel := 7) (f := 28) (vs := [.agg G0, .int .u64 x2.id]) (d := some 94) (by kernel_rfl) (by kernel_rfl) (by kernel_rfl) Try.call28 (dw (i := x2.id) hk hs0 hn0 sm0) ?_
  rintro e v36 ⟨aU, nU, cU, rfl, oU, hb36⟩
  refine ⟨_, rfl, ⟨hS.1.next hb36, hS.2.1.next hb36, hS.2.2.next hb36⟩, ?_⟩
  replace hS : Blk v36 B3 G0 43 ∧ Blk v36 B4 C1 40 ∧ Blk v36 B5 C2 40 := ⟨hS.1.next hb36, hS.2.1.next hb36, hS.2.2.next hb36⟩
  replace hk := hk.trans (hb36.mono hk.size)
  replace oJ := obs_next oJ hb36
  replace oK := obs_next oK hb36
  replace oM := obs_next oM hb36
  replace oO := obs_next oO hb36
  replace oQ := obs_next oQ hb36
  replace oU := obs_mk oU hb36
  have hnU : nU < 1024 := by rw [← oU.1]; have := drp_len X0 x2.id; omega
  clear hb36
  refine wpAnyH_callL (i := 23) (fuel := 6) (f := 27) (vs := [.agg #[.int .i64 t0, .int .u64 ke0, .int .u64 ro0, .slice aU nU cU], .agg C1]) (d := some 96) (by kernel_rfl) (by kernel_rfl) (by kernel_rfl) Try.call27 (put_w (t := t0) (ke := ke0) (ro := ro0) (D0 := LtN _) (fun _ h => h) oU (srt_drp hs0 _) hnU (smalls_drp sm0) (l1.next hk) sm1) ?_
  rintro e v37 ⟨aV, nV, cV, rfl, oV, hb37⟩
  refine ⟨_, rfl, ⟨hS.1.next hb37, hS.2.1.next hb37, hS.2.2.next hb37⟩, ?_⟩
  replace hS : Blk v37 B3 G0 43 ∧ Blk v37 B4 C1 40 ∧ Blk v37 B5 C2 40 := ⟨hS.1.next hb37, hS.2.1.next hb37, hS.2.2.next hb37⟩
  replace hk := hk.trans (hb37.mono hk.size)
  replace oJ := obs_next oJ hb37
  replace oK := obs_next oK hb37
  replace oM := obs_next oM hb37
  replace oO := obs_next oO hb37
  replace oQ := obs_next oQ hb37
  replace oU := obs_next oU hb37
  replace oV := obs_mk oV hb37
  have hnV : nV < 1024 := by rw [← oV.1]; have := puR_len (drpL X0 x2.id) x1; have := drp_len X0 x2.id; omega
  clear hb37
  refine wpAnyH_callL (i := 24) (fuel := 5) (f := 17) (vs := [.agg #[.int .i64 t0, .int .u64 ke0, .int .u64 ro0, .slice aQ nQ cQ], .agg #[.int .i64 t0, .int .u64 ke0, .int .u64 ro0, .slice aV nV cV]]) (d := some 97) (by kernel_rfl) (by kernel_rfl) (by kernel_rfl) Try.call17 ((rsame_w (t := t0) (ke := ke0) (ro := ro0) (t' := t0) (ke' := ke0) (ro' := ro0) oQ oV).sure (by rw [drp_put_ne hs0 hneH.out])) ?_
  rintro e v38 ⟨rfl, hb38⟩
  refine ⟨_, rfl, ⟨hS.1.next hb38, hS.2.1.next hb38, hS.2.2.next hb38⟩, ?_⟩
  replace hS : Blk v38 B3 G0 43 ∧ Blk v38 B4 C1 40 ∧ Blk v38 B5 C2 40 := ⟨hS.1.next hb38, hS.2.1.next hb38, hS.2.2.next hb38⟩
  replace hk := hk.trans (hb38.mono hk.size)
  replace oJ := obs_next oJ hb38
  replace oK := obs_next oK hb38
  replace oM := obs_next oM hb38
  replace oO := obs_next oO hb38
  replace oQ := obs_next oQ hb38
  replace oU := obs_next oU hb38
  replace oV := obs_next oV hb38
  clear hb38
  refine wpAnyH_sym (by kernel_rfl) (fun _ _ _ _ _ h => h) hS [(25, none), (26, none)] (l' := #[true, true, true, true, true, true, true, true, true, true, true, true, true, true, true, true, true, true, true, true, true, true, true, true, true, true, true, false, false, false]) (a' := { tmps := #[.agg G0, .agg C1, .agg C2, .pointer (some ⟨B3, 0, none⟩), .pointer (some ⟨B4, 0, none⟩), .pointer (some ⟨B5, 0, none⟩), .bool false, .agg G0, .bool true, .bool false, .bool false, .agg C1, .bool true, .bool false, .bool false, .bool false, .agg C2, .bool true, .bool false, .bool false, .bool false, .agg G0, .bool true, .bool false, .bool false, .bool false, .agg C1, .bool true, .bool false, .bool false, .bool false, .agg C2, .bool true, .bool false, .bool false, .bool false, .pointer (some ⟨B4, 0, none⟩), .int .u64 x1.id, .pointer (some ⟨B5, 0, none⟩), .int .u64 x2.id, .bool false, .bool false, undef, .agg G0, .agg C1, .agg #[.int .i64 t0, .int .u64 ke0, .int .u64 ro0, .slice aA nA cA], .agg C2, .agg #[.int .i64 t0, .int .u64 ke0, .int .u64 ro0, .slice aB nB cB], .agg G0, .agg C2, .agg #[.int .i64 t0, .int .u64 ke0, .int .u64 ro0, .slice aC nC cC], .agg C1, .agg #[.int .i64 t0, .int .u64 ke0, .int .u64 ro0, .slice aD nD cD], .bool true, .bool false, .bool false, .agg G0, .pointer (some ⟨B4, 0, none⟩), .int .u64 x1.id, .agg #[.int .i64 t0, .int .u64 ke0, .int .u64 ro0, .slice aE nE cE], .pointer (some ⟨B5, 0, none⟩), .int .u64 x2.id, .agg #[.int .i64 t0, .int .u64 ke0, .int .u64 ro0, .slice aF nF cF], .agg G0, .pointer (some ⟨B5, 0, none⟩), .int .u64 x2.id, .agg #[.int .i64 t0, .int .u64 ke0, .int .u64 ro0, .slice aG nG cG], .pointer (some ⟨B4, 0, none⟩), .int .u64 x1.id, .agg #[.int .i64 t0, .int .u64 ke0, .int .u64 ro0, .slice aH nH cH], .bool true, .bool false, .bool false, .agg G0, .agg C1, .agg #[.int .i64 t0, .int .u64 ke0, .int .u64 ro0, .slice aJ nJ cJ], .pointer (some ⟨B4, 0, none⟩), .int .u64 x1.id, .agg #[.int .i64 t0, .int .u64 ke0, .int .u64 ro0, .slice aK nK cK], .agg G0, .pointer (some ⟨B4, 0, none⟩), .int .u64 x1.id, .agg #[.int .i64 t0, .int .u64 ke0, .int .u64 ro0, .slice aM nM cM], .bool true, .bool true, .agg G0, .agg C1, .agg #[.int .i64 t0, .int .u64 ke0, .int .u64 ro0, .slice aO nO cO], .pointer (some ⟨B5, 0, none⟩), .int .u64 x2.id, .agg #[.int .i64 t0, .int .u64 ke0, .int .u64 ro0, .slice aQ nQ cQ], .agg G0, .pointer (some ⟨B5, 0, none⟩), .int .u64 x2.id, .agg #[.int .i64 t0, .int .u64 ke0, .int .u64 ro0, .slice aU nU cU], .agg C1, .agg #[.int .i64 t0, .int .u64 ke0, .int .u64 ro0, .slice aV nV cV], .bool true, .bool true, .bool true, undef, undef], defers := [] }) (obs := []) (n := 3) (by kernel_rfl) (by kernel_rfl) trivial ?_
  refine wpAnyH_callL (i := 27) (fuel := 2) (f := 9) (vs := []) (d := some 100) (by kernel_rfl) (by kernel_rfl) (by kernel_rfl) Try.call9 (aw _) ?_
  rintro e v39 ⟨rfl, hb39⟩
  refine ⟨_, rfl, ⟨hS.1.next hb39, hS.2.1.next hb39, hS.2.2.next hb39⟩, ?_⟩
  replace hS : Blk v39 B3 G0 43 ∧ Blk v39 B4 C1 40 ∧ Blk v39 B5 C2 40 := ⟨hS.1.next hb39, hS.2.1.next hb39, hS.2.2.next hb39⟩
  replace hk := hk.trans (hb39.mono hk.size)
  replace oJ := obs_next oJ hb39
  replace oK := obs_next oK hb39
  replace oM := obs_next oM hb39
  replace oO := obs_next oO hb39
  replace oQ := obs_next oQ hb39
  replace oU := obs_next oU hb39
  replace oV := obs_next oV hb39
  clear hb39
  refine wpAnyH_sym (by kernel_rfl) (fun _ _ _ _ _ h => h) hS [(28, none), (29, none)] (l' := #[true, true, true, true, true, true, true, true, true, true, true, true, true, true, true, true, true, true, true, true, true, true, true, true, true, true, true, true, true, true]) (a' := { tmps := #[.agg G0, .agg C1, .agg C2, .pointer (some ⟨B3, 0, none⟩), .pointer (some ⟨B4, 0, none⟩), .pointer (some ⟨B5, 0, none⟩), .bool true, .agg G0, .bool true, .bool false, .bool false, .agg C1, .bool true, .bool false, .bool false, .bool false, .agg C2, .bool true, .bool false, .bool false, .bool false, .agg G0, .bool true, .bool false, .bool false, .bool false, .agg C1, .bool true, .bool false, .bool false, .bool false, .agg C2, .bool true, .bool false, .bool false, .bool false, .pointer (some ⟨B4, 0, none⟩), .int .u64 x1.id, .pointer (some ⟨B5, 0, none⟩), .int .u64 x2.id, .bool false, .bool false, undef, .agg G0, .agg C1, .agg #[.int .i64 t0, .int .u64 ke0, .int .u64 ro0, .slice aA nA cA], .agg C2, .agg #[.int .i64 t0, .int .u64 ke0, .int .u64 ro0, .slice aB nB cB], .agg G0, .agg C2, .agg #[.int .i64 t0, .int .u64 ke0, .int .u64 ro0, .slice aC nC cC], .agg C1, .agg #[.int .i64 t0, .int .u64 ke0, .int .u64 ro0, .slice aD nD cD], .bool true, .bool false, .bool false, .agg G0, .pointer (some ⟨B4, 0, none⟩), .int .u64 x1.id, .agg #[.int .i64 t0, .int .u64 ke0, .int .u64 ro0, .slice aE nE cE], .pointer (some ⟨B5, 0, none⟩), .int .u64 x2.id, .agg #[.int .i64 t0, .int .u64 ke0, .int .u64 ro0, .slice aF nF cF], .agg G0, .pointer (some ⟨B5, 0, none⟩), .int .u64 x2.id, .agg #[.int .i64 t0, .int .u64 ke0, .int .u64 ro0, .slice aG nG cG], .pointer (some ⟨B4, 0, none⟩), .int .u64 x1.id, .agg #[.int .i64 t0, .int .u64 ke0, .int .u64 ro0, .slice aH nH cH], .bool true, .bool false, .bool false, .agg G0, .agg C1, .agg #[.int .i64 t0, .int .u64 ke0, .int .u64 ro0, .slice aJ nJ cJ], .pointer (some ⟨B4, 0, none⟩), .int .u64 x1.id, .agg #[.int .i64 t0, .int .u64 ke0, .int .u64 ro0, .slice aK nK cK], .agg G0, .pointer (some ⟨B4, 0, none⟩), .int .u64 x1.id, .agg #[.int .i64 t0, .int .u64 ke0, .int .u64 ro0, .slice aM nM cM], .bool true, .bool true, .agg G0, .agg C1, .agg #[.int .i64 t0, .int .u64 ke0, .int .u64 ro0, .slice aO nO cO], .pointer (some ⟨B5, 0, none⟩), .int .u64 x2.id, .agg #[.int .i64 t0, .int .u64 ke0, .int .u64 ro0, .slice aQ nQ cQ], .agg G0, .pointer (some ⟨B5, 0, none⟩), .int .u64 x2.id, .agg #[.int .i64 t0, .int .u64 ke0, .int .u64 ro0, .slice aU nU cU], .agg C1, .agg #[.int .i64 t0, .int .u64 ke0, .int .u64 ro0, .slice aV nV cV], .bool true, .bool true, .bool true, .bool true, .bool true], defers := [] }) (obs := []) (n := 0) (by kernel_rfl) (by kernel_rfl) trivial ?_
  refine wpAnyH_done (by kernel_rfl) ?_ _
  go_wp2
  go_ret
  exact ⟨rfl, hk⟩

set_option maxRecDepth 100000 in
theorem lifted (os : Os) (started : os.Started) (H : Type) (enc : TypeId × Value → H) :
    ReturnsInHanded {} Try.checked os 6 .any (Rows.objSwapsSpec.pre6 enc Try.prog Try.f6 Rows.objSwapsRow.domain false) (Rows.objSwapsSpec.post enc Try.prog Try.f6 false true false false) := by
  refine returnsInHanded_of_change (C := Try.checked) own started (by kernel_rfl) Try.func6
    (ChangeSpec.witness6 (enc := enc) (C := Try.checked) false ⟨#[], #[.agg #[.int .i64 0, .int .u64 0, .int .u64 0, .slice none 0 0], .agg zC, .agg zC], []⟩ 8 (by kernel_rfl) (by kernel_rfl) (by kernel_rfl) (by kernel_rfl)) ?_
  intro W base args ds gs before hval0 hW hcnd _
  have hval : ∀ (j : Nat) t v, Try.f6.params[j]? = some t → args[j]? = some v → Value.okWide Try.prog W .any base t v := hval0
  have hW' := hW
  obtain ⟨p, q, hA0, hV, rfl, hfz, hnd⟩ := hW
  have hA : DataW.TrodAll enc Try.prog W 0 (fun _ => true) true Try.f6.params.toList args.toList ds p := hA0
  rw [Try.params6] at hA hval
  obtain ⟨v0, vs0, d0, ds0, p0, q0, hargs, rfl, rfl, h0, r0⟩ := trodAll_cons hA
  obtain ⟨v1, vs1, d1, ds1, p1, q1, rfl, rfl, rfl, h1, r1⟩ := trodAll_cons r0
  obtain ⟨v2, vs2, d2, ds2, p2, q2, rfl, rfl, rfl, h2, r2⟩ := trodAll_cons r1
  obtain ⟨rfl, rfl, rfl⟩ := trodAll_nil r2
  obtain rfl : args = #[v0, v1, v2] := by cases args; simp_all
  obtain ⟨rfl, rfl⟩ := trodVars_none hV
  obtain ⟨t0, ke0, ro0, ao0, n0, cap0, X0, rfl, l0⟩ := world_of_trod (hval 0 43 v0 rfl rfl) h0
  have k0 := h0
  have lt0 : ∀ x ∈ p0, x.block < W.heap.size := by obtain ⟨m, hm⟩ := k0; exact DataW.trod_lt m _ _ _ hm
  obtain ⟨C1, x1, rfl, l1⟩ := obj_of_trod (hval 1 40 v1 rfl rfl) h1
  have k1 := h1
  have lt1 : ∀ x ∈ p1, x.block < W.heap.size := by obtain ⟨m, hm⟩ := k1; exact DataW.trod_lt m _ _ _ hm
  obtain ⟨C2, x2, rfl, l2⟩ := obj_of_trod (hval 2 40 v2 rfl rfl) h2
  have k2 := h2
  have lt2 : ∀ x ∈ p2, x.block < W.heap.size := by obtain ⟨m, hm⟩ := k2; exact DataW.trod_lt m _ _ _ hm
  clear hA0 hval0
  refine (walk t0 ke0 ro0 ao0 n0 cap0 X0 C1 x1 C2 x2 W l0 l1 l2).mono fun e W' ⟨he, bel⟩ => ?_
  subst he
  exact ⟨_, rfl, _, _, _, [], _, [], hW', trodAll_mk1 (shut_bool Try.underlying4 _), (trodAll_cons_mk (Below.trod laidOut (by kernel_rfl) (of_decide_eq_true (by kernel_rfl)) k0 bel lt0) (trodAll_cons_mk (Below.trod laidOut (by kernel_rfl) (of_decide_eq_true (by kernel_rfl)) k1 bel lt1) (trodAll_cons_mk (Below.trod laidOut (by kernel_rfl) (of_decide_eq_true (by kernel_rfl)) k2 bel lt2) trodAll_mk0))), rfl, bel.frame _, fun h => by cases h⟩

theorem over : Rows.objSwapsRow.holds Try.pinned (OpenSpec.ofChange Rows.objSwapsSpec) :=
  OpenClaim.holds_of_wide 6 Try.f6 rfl rfl rfl rfl rfl rfl rfl ⟨rfl, rfl, rfl, rfl, rfl⟩ rfl rfl rfl rfl rfl (by kernel_rfl) Try.func6 (by kernel_rfl)
    (of_decide_eq_true (by kernel_rfl)) (by unfold Func.isWrapper; first | (rw [if_pos (by decide +kernel)]; kernel_rfl) | (rw [if_neg (by decide +kernel)]; exact ⟨rfl, rfl⟩))
    (fun os started H enc _ => lifted os started H enc)

end objSwaps
/-- The statement. -/
theorem objSwaps_holds : Rows.ObjSwapsSaid :=
  objSwaps.over
#print axioms objSwaps_holds
end Go.Proofs.Ytfpmkihlfhpgdaa
