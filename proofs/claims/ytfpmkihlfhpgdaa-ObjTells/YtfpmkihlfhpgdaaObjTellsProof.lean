/-
  PROVED HERE: which objects and worlds can be, which are the same, how many pages an object takes, by which label it is seen, and what is seen of it, are the document's; it takes at most its quota (ObjTells), over the landed code. No condition.
-/
import Derived.Test.YtfpmkihlfhpgdaaRows
import Derived.Test.YtfpmkihlfhpgdaaObOpen
import Derived.Test.YtfpmkihlfhpgdaaObJ
import Derived.WalkKit
import Derived.ProofKit
import Derived.OpenShut
import Derived.Below
import Derived.ShutString
import Derived.Deep.QuietTactic
namespace Go.Proofs.Ytfpmkihlfhpgdaa
namespace objTells
open Go.ChangeShapes Go.WideShapes Go.ChangeAt Go.RowKit
open Go.ChangeMaps (open_string shut_string)
set_option linter.unusedVariables false

theorem own : ownKnob Try.prog.godebug = none := by kernel_rfl

set_option maxRecDepth 100000 in
set_option maxHeartbeats 8000000 in
theorem walk (C0 : Array Value) (x0 : Ob) (C1 : Array Value) (x1 : Ob) (t2 ke2 ro2 : Int) (ao2 : Option Addr) (n2 cap2 : Nat) (X2 : List Ob) (t3 ke3 ro3 : Int) (ao3 : Option Addr) (n3 cap3 : Nat) (X3 : List Ob) (w : World) (l0 : ObD (LtN w) w C0 x0) (l1 : ObD (LtN w) w C1 x1) (l2 : ObsD (LtN w) (LtN w) w ao2 n2 cap2 X2) (l3 : ObsD (LtN w) (LtN w) w ao3 n3 cap3 X3) :
    Calls Try.prog 3 #[.agg C0, .agg C1, .agg #[.int .i64 t2, .int .u64 ke2, .int .u64 ro2, .slice ao2 n2 cap2], .agg #[.int .i64 t3, .int .u64 ke3, .int .u64 ro3, .slice ao3 n3 cap3]] w fun e w' => e = .returned (.bool true) ∧ Below w.heap.size w w' := by
  have hmx : Try.prog.follows .mixedOrders = true := by kernel_rfl
  have hz0 := l0.size
  have hz1 := l1.size
  have q0 := l0.quota
  have aw := awake_any
  have zg2 : (Try.prog.info? 43).map (·.size) = some (#[.int .i64 t2, .int .u64 ke2, .int .u64 ro2, .slice ao2 n2 cap2] : Array Value).size := size43
  have zg3 : (Try.prog.info? 43).map (·.size) = some (#[.int .i64 t3, .int .u64 ke3, .int .u64 ro3, .slice ao3 n3 cap3] : Array Value).size := size43
  have few2 := fun (W : World) (hk : Below w.heap.size w W) => few_any (t := t2) (ke := ke2) (ro := ro2) (obs_next l2 hk)
  have few3 := fun (W : World) (hk : Below w.heap.size w W) => few_any (t := t3) (ke := ke3) (ro := ro3) (obs_next l3 hk)
  have ft := fun (W : World) (hk : Below w.heap.size w W) => fit_w (t := t2) (ke := ke2) (ro := ro2) (obs_next l2 hk)
  have rft := fun (W : World) (hk : Below w.heap.size w W) => rfit_w (t := t2) (ke := ke2) (ro := ro2) (obs_next l2 hk)
  have sm := fun (W : World) (hk : Below w.heap.size w W) => same_w (t := t2) (ke := ke2) (ro := ro2) (t' := t3) (ke' := ke3) (ro' := ro3) (obs_next l2 hk) (obs_next l3 hk)
  have rsm := fun (W : World) (hk : Below w.heap.size w W) => rsame_w (t := t2) (ke := ke2) (ro := ro2) (t' := t3) (ke' := ke3) (ro' := ro3) (obs_next l2 hk) (obs_next l3 hk)
  have sm0 := fun (W : World) (hk : Below w.heap.size w W) => same_w (t := t2) (ke := ke2) (ro := ro2) (t' := t2) (ke' := ke2) (ro' := ro2) (obs_next l2 hk) (obs_next l2 hk)
  obtain ⟨G2, hG2⟩ : ∃ G : Array Value, G = #[.int .i64 t2, .int .u64 ke2, .int .u64 ro2, .slice ao2 n2 cap2] := ⟨_, rfl⟩
  obtain ⟨G3, hG3⟩ : ∃ G : Array Value, G = #[.int .i64 t3, .int .u64 ke3, .int .u64 ro3, .slice ao3 n3 cap3] := ⟨_, rfl⟩
  rw [← hG2] at zg2 few2 ft rft sm rsm sm0
  rw [← hG3] at zg3 few3 sm rsm
  rw [← hG2, ← hG3]
  clear hG2 hG3
  obtain ⟨b1, hb1⟩ := bool_of (soundB x0 = true)
  obtain ⟨b2, hb2⟩ := bool_of (fitW ⟨t2, ke2, ro2, X2⟩ = true)
  obtain ⟨b3, hb3⟩ := bool_of (x0 = x1)
  obtain ⟨b4, hb4⟩ := bool_of ((⟨t2, ke2, ro2, X2⟩ : Wd) = ⟨t3, ke3, ro3, X3⟩)
  have neq_same : ∀ {S : World → Prop} {x y : Operand} {b : Bool}, Obl.holds Try.prog S (.test .neq 4 x y (.bool b) (.bool b) (.bool false)) := fun {S x y b} w hS => by cases b <;> go_simp
  go_enter Try.func3, Try.ntmps3
  try simp only [List.append]
  go_wp2_with (first
    | go_skip
    | (with_reducible refine wpList_box rfl _ _ rfl C0 rfl ?_; intro B4 W4 hN4 hB4 hk)
    | (with_reducible refine wpList_box rfl _ _ rfl C1 rfl ?_; intro B5 W5 hN5 hB5 hk5; replace hB4 := hB4.next hk5; replace hk := hk.trans (hk5.mono hk.size))
    | (with_reducible refine wpList_box rfl _ _ rfl G2 rfl ?_; intro B6 W6 hN6 hB6 hk6; replace hB4 := hB4.next hk6; replace hB5 := hB5.next hk6; replace hk := hk.trans (hk6.mono hk.size))
    | (with_reducible refine wpList_box rfl _ _ rfl G3 rfl ?_; intro B7 W7 hN7 hB7 hk7; replace hB4 := hB4.next hk7; replace hB5 := hB5.next hk7; replace hB6 := hB6.next hk7; replace hk := hk.trans (hk7.mono hk.size); clear hN4 hN5 hN6 hN7 hk5 hk6 hk7)
    | (with_reducible refine wpList_loadb (by kernel_rfl) 40 _ rfl B4 rfl C0 hB4 _ Try.underlying40 (by kernel_rfl) (size40C hz0) ?_)
    | (with_reducible refine wpList_loadb (by kernel_rfl) 40 _ rfl B5 rfl C1 hB5 _ Try.underlying40 (by kernel_rfl) (size40C hz1) ?_)
    | (with_reducible refine wpList_loadb (by kernel_rfl) 43 _ rfl B6 rfl G2 hB6 _ Try.underlying43 (by kernel_rfl) zg2 ?_)
    | (with_reducible refine wpList_loadb (by kernel_rfl) 43 _ rfl B7 rfl G3 hB7 _ Try.underlying43 (by kernel_rfl) zg3 ?_)
    | (go_at_call 7; (with_reducible refine (brief_any (l0.next hk)).on ?_ ?_) <;> (intro w1 hq1 hb8; replace hB4 := hB4.next hb8; replace hB5 := hB5.next hb8; replace hB6 := hB6.next hb8; replace hB7 := hB7.next hb8; replace hk := hk.trans (hb8.mono hk.size); clear hb8))
    | (go_at_call 7; (with_reducible refine (brief_any (l1.next hk)).on ?_ ?_) <;> (intro w2 hq2 hb8; replace hB4 := hB4.next hb8; replace hB5 := hB5.next hb8; replace hB6 := hB6.next hb8; replace hB7 := hB7.next hb8; replace hk := hk.trans (hb8.mono hk.size); clear hb8))
    | (go_at_call 8; (with_reducible refine (few2 _ hk).on ?_ ?_) <;> (intro w3 hq3 hb8; replace hB4 := hB4.next hb8; replace hB5 := hB5.next hb8; replace hB6 := hB6.next hb8; replace hB7 := hB7.next hb8; replace hk := hk.trans (hb8.mono hk.size); clear hb8))
    | (go_at_call 8; (with_reducible refine (few3 _ hk).on ?_ ?_) <;> (intro w4 hq4 hb8; replace hB4 := hB4.next hb8; replace hB5 := hB5.next hb8; replace hB6 := hB6.next hb8; replace hB7 := hB7.next hb8; replace hk := hk.trans (hb8.mono hk.size); clear hb8))
    | (go_at_call 9; (with_reducible refine (aw _).mono ?_); rintro e w3 ⟨rfl, hb8⟩; replace hk := hk.trans (hb8.mono hk.size)))
  all_goals (try (go_ret; exact ⟨rfl, hk⟩))
  clear few2 few3 hq2 hq3 hq4
  refine PgM.region_out (S := fun W => Blk W B4 C0 40 ∧ Blk W B5 C1 40 ∧ Blk W B6 G2 43 ∧ Blk W B7 G3 43) hmx ⟨hB4.next (Below.refl _ _).drew, hB5.next (Below.refl _ _).drew, hB6.next (Below.refl _ _).drew, hB7.next (Below.refl _ _).drew⟩ (fun hS => ?_)
  replace hk := hk.trans ((Below.refl _ w4).drew.mono hk.size)
  generalize w4.drew = v1 at hS hk ⊢
  clear hB4 hB5 hB6 hB7
  refine wpAnyH_sym (by kernel_rfl) (fun _ _ _ _ _ h => h) hS [(0, some (.agg C0)), (2, some (.agg C0))] (l' := #[true, false, true, false, false, false, false, false, false, false, false, false, false, false, false, false, false, false, false, false, false, false, false, false, false, false, false, false, false, false, false, false, false, false, false, false, false, false, false, false, false, false]) (a' := { tmps := #[.agg C0, .agg C1, .agg G2, .agg G3, .pointer (some ⟨B4, 0, none⟩), .pointer (some ⟨B5, 0, none⟩), .pointer (some ⟨B6, 0, none⟩), .pointer (some ⟨B7, 0, none⟩), .bool false, .agg C0, .bool true, .bool false, .bool false, .agg C1, .bool true, .bool false, .bool false, .bool false, .agg G2, .bool true, .bool false, .bool false, .bool false, .agg G3, .bool true, .bool false, .bool false, undef, .agg C0, undef, .agg C0, undef, undef, undef, undef, undef, undef, undef, undef, undef, undef, undef, undef, undef, undef, undef, undef, undef, undef, undef, undef, undef, undef, undef, undef, undef, undef, undef, undef, undef, undef, undef, undef, undef, undef, undef, undef, undef, undef, undef, undef, undef, undef, undef, undef, undef, undef, undef, undef, undef, undef, undef, undef, undef, undef, undef, undef, undef, undef, undef, undef, undef, undef, undef, undef, undef, undef, undef, undef, undef, undef, undef, undef], defers := [] }) (obs := [.load 40 B4 0 (.agg C0), .load 40 B4 0 (.agg C0)]) (n := 40) (by kernel_rfl) (by kernel_rfl) ⟨ob_loadb (fun _ h => h.1) Try.underlying40 (by kernel_rfl) (size40C hz0), ob_loadb (fun _ h => h.1) Try.underlying40 (by kernel_rfl) (size40C hz0), trivial⟩ ?_
  refine wpAnyH_callL (i := 1) (fuel := 39) (f := 10) (vs := [.agg C0]) (d := some 29) (by kernel_rfl) (by kernel_rfl) (by kernel_rfl) Try.call10 ((sound_any (l0.next hk)).val hb1) ?_
  rintro e v20 ⟨rfl, hb20⟩
  refine ⟨_, rfl, ⟨hS.1.next hb20, hS.2.1.next hb20, hS.2.2.1.next hb20, hS.2.2.2.next hb20⟩, ?_⟩
  replace hS : Blk v20 B4 C0 40 ∧ Blk v20 B5 C1 40 ∧ Blk v20 B6 G2 43 ∧ Blk v20 B7 G3 43 := ⟨hS.1.next hb20, hS.2.1.next hb20, hS.2.2.1.next hb20, hS.2.2.2.next hb20⟩
  replace hk := hk.trans (hb20.mono hk.size)
  refine wpAnyH_callL (i := 3) (fuel := 38) (f := 11) (vs := [.agg C0]) (d := some 31) (by kernel_rfl) (by kernel_rfl) (by kernel_rfl) Try.call11 ((rsound_any (l0.next hk)).val hb1) ?_
  rintro e v21 ⟨rfl, hb21⟩
  refine ⟨_, rfl, ⟨hS.1.next hb21, hS.2.1.next hb21, hS.2.2.1.next hb21, hS.2.2.2.next hb21⟩, ?_⟩
  replace hS : Blk v21 B4 C0 40 ∧ Blk v21 B5 C1 40 ∧ Blk v21 B6 G2 43 ∧ Blk v21 B7 G3 43 := ⟨hS.1.next hb21, hS.2.1.next hb21, hS.2.2.1.next hb21, hS.2.2.2.next hb21⟩
  replace hk := hk.trans (hb21.mono hk.size)
  refine wpAnyH_sym (by kernel_rfl) (fun _ _ _ _ _ h => h) hS [(4, some (.bool false)), (5, none), (6, some (.agg G2)), (8, some (.agg G2))] (l' := #[true, true, true, true, true, true, true, false, true, false, false, false, false, false, false, false, false, false, false, false, false, false, false, false, false, false, false, false, false, false, false, false, false, false, false, false, false, false, false, false, false, false]) (a' := { tmps := #[.agg C0, .agg C1, .agg G2, .agg G3, .pointer (some ⟨B4, 0, none⟩), .pointer (some ⟨B5, 0, none⟩), .pointer (some ⟨B6, 0, none⟩), .pointer (some ⟨B7, 0, none⟩), .bool false, .agg C0, .bool true, .bool false, .bool false, .agg C1, .bool true, .bool false, .bool false, .bool false, .agg G2, .bool true, .bool false, .bool false, .bool false, .agg G3, .bool true, .bool false, .bool false, undef, .agg C0, .bool b1, .agg C0, .bool b1, .bool false, .bool false, .agg G2, undef, .agg G2, undef, undef, undef, undef, undef, undef, undef, undef, undef, undef, undef, undef, undef, undef, undef, undef, undef, undef, undef, undef, undef, undef, undef, undef, undef, undef, undef, undef, undef, undef, undef, undef, undef, undef, undef, undef, undef, undef, undef, undef, undef, undef, undef, undef, undef, undef, undef, undef, undef, undef, undef, undef, undef, undef, undef, undef, undef, undef, undef, undef, undef, undef, undef, undef, undef, undef], defers := [] }) (obs := [.test .neq 4 (.tmp 29) (.tmp 31) (.bool b1) (.bool b1) (.bool false), .load 43 B6 0 (.agg G2), .load 43 B6 0 (.agg G2)]) (n := 34) (by kernel_rfl) (by kernel_rfl) ⟨neq_same, ob_loadb (fun _ h => h.2.2.1) Try.underlying43 (by kernel_rfl) zg2, ob_loadb (fun _ h => h.2.2.1) Try.underlying43 (by kernel_rfl) zg2, trivial⟩ ?_
  refine wpAnyH_callL (i := 7) (fuel := 33) (f := 12) (vs := [.agg G2]) (d := some 35) (by kernel_rfl) (by kernel_rfl) (by kernel_rfl) Try.call12 ((ft _ hk).val hb2) ?_
  rintro e v22 ⟨rfl, hb22⟩
  refine ⟨_, rfl, ⟨hS.1.next hb22, hS.2.1.next hb22, hS.2.2.1.next hb22, hS.2.2.2.next hb22⟩, ?_⟩
  replace hS : Blk v22 B4 C0 40 ∧ Blk v22 B5 C1 40 ∧ Blk v22 B6 G2 43 ∧ Blk v22 B7 G3 43 := ⟨hS.1.next hb22, hS.2.1.next hb22, hS.2.2.1.next hb22, hS.2.2.2.next hb22⟩
  replace hk := hk.trans (hb22.mono hk.size)
  refine wpAnyH_callL (i := 9) (fuel := 32) (f := 13) (vs := [.agg G2]) (d := some 37) (by kernel_rfl) (by kernel_rfl) (by kernel_rfl) Try.call13 ((rft _ hk).val hb2) ?_
  rintro e v23 ⟨rfl, hb23⟩
  refine ⟨_, rfl, ⟨hS.1.next hb23, hS.2.1.next hb23, hS.2.2.1.next hb23, hS.2.2.2.next hb23⟩, ?_⟩
  replace hS : Blk v23 B4 C0 40 ∧ Blk v23 B5 C1 40 ∧ Blk v23 B6 G2 43 ∧ Blk v23 B7 G3 43 := ⟨hS.1.next hb23, hS.2.1.next hb23, hS.2.2.1.next hb23, hS.2.2.2.next hb23⟩
  replace hk := hk.trans (hb23.mono hk.size)
  refine wpAnyH_sym (by kernel_rfl) (fun _ _ _ _ _ h => h) hS [(10, some (.bool false)), (11, none), (12, none), (13, some (.agg C0)), (14, some (.agg C1)), (16, some (.agg C0)), (17, some (.agg C1))] (l' := #[true, true, true, true, true, true, true, true, true, true, true, true, true, true, true, false, true, true, false, false, false, false, false, false, false, false, false, false, false, false, false, false, false, false, false, false, false, false, false, false, false, false]) (a' := { tmps := #[.agg C0, .agg C1, .agg G2, .agg G3, .pointer (some ⟨B4, 0, none⟩), .pointer (some ⟨B5, 0, none⟩), .pointer (some ⟨B6, 0, none⟩), .pointer (some ⟨B7, 0, none⟩), .bool false, .agg C0, .bool true, .bool false, .bool false, .agg C1, .bool true, .bool false, .bool false, .bool false, .agg G2, .bool true, .bool false, .bool false, .bool false, .agg G3, .bool true, .bool false, .bool false, undef, .agg C0, .bool b1, .agg C0, .bool b1, .bool false, .bool false, .agg G2, .bool b2, .agg G2, .bool b2, .bool false, .bool false, .bool false, .agg C0, .agg C1, undef, .agg C0, .agg C1, undef, undef, undef, undef, undef, undef, undef, undef, undef, undef, undef, undef, undef, undef, undef, undef, undef, undef, undef, undef, undef, undef, undef, undef, undef, undef, undef, undef, undef, undef, undef, undef, undef, undef, undef, undef, undef, undef, undef, undef, undef, undef, undef, undef, undef, undef, undef, undef, undef, undef, undef, undef, undef, undef, undef, undef, undef], defers := [] }) (obs := [.test .neq 4 (.tmp 35) (.tmp 37) (.bool b2) (.bool b2) (.bool false), .load 40 B4 0 (.agg C0), .load 40 B5 0 (.agg C1), .load 40 B4 0 (.agg C0), .load 40 B5 0 (.agg C1)]) (n := 25) (by kernel_rfl) (by kernel_rfl) ⟨neq_same, ob_loadb (fun _ h => h.1) Try.underlying40 (by kernel_rfl) (size40C hz0), ob_loadb (fun _ h => h.2.1) Try.underlying40 (by kernel_rfl) (size40C hz1), ob_loadb (fun _ h => h.1) Try.underlying40 (by kernel_rfl) (size40C hz0), ob_loadb (fun _ h => h.2.1) Try.underlying40 (by kernel_rfl) (size40C hz1), trivial⟩ ?_
  refine wpAnyH_callL (i := 15) (fuel := 24) (f := 14) (vs := [.agg C0, .agg C1]) (d := some 43) (by kernel_rfl) (by kernel_rfl) (by kernel_rfl) Try.call14 ((sameOne_any (l0.next hk) (l1.next hk)).val hb3) ?_
  rintro e v24 ⟨rfl, hb24⟩
  refine ⟨_, rfl, ⟨hS.1.next hb24, hS.2.1.next hb24, hS.2.2.1.next hb24, hS.2.2.2.next hb24⟩, ?_⟩
  replace hS : Blk v24 B4 C0 40 ∧ Blk v24 B5 C1 40 ∧ Blk v24 B6 G2 43 ∧ Blk v24 B7 G3 43 := ⟨hS.1.next hb24, hS.2.1.next hb24, hS.2.2.1.next hb24, hS.2.2.2.next hb24⟩
  replace hk := hk.trans (hb24.mono hk.size)
  refine wpAnyH_callL (i := 18) (fuel := 23) (f := 15) (vs := [.agg C0, .agg C1]) (d := some 46) (by kernel_rfl) (by kernel_rfl) (by kernel_rfl) Try.call15 ((rsameOne_any (l0.next hk) (l1.next hk)).val hb3) ?_
  rintro e v25 ⟨rfl, hb25⟩
  refine ⟨_, rfl, ⟨hS.1.next hb25, hS.2.1.next hb25, hS.2.2.1.next hb25, hS.2.2.2.next hb25⟩, ?_⟩
  replace hS : Blk v25 B4 C0 40 ∧ Blk v25 B5 C1 40 ∧ Blk v25 B6 G2 43 ∧ Blk v25 B7 G3 43 := ⟨hS.1.next hb25, hS.2.1.next hb25, hS.2.2.1.next hb25, hS.2.2.2.next hb25⟩
  replace hk := hk.trans (hb25.mono hk.size)
  refine wpAnyH_sym (by kernel_rfl) (fun _ _ _ _ _ h => h) hS [(19, some (.bool false)), (20, none), (21, none), (22, some (.agg G2)), (23, some (.agg G3)), (25, some (.agg G2)), (26, some (.agg G3))] (l' := #[true, true, true, true, true, true, true, true, true, true, true, true, true, true, true, true, true, true, true, true, true, true, true, true, false, true, true, false, false, false, false, false, false, false, false, false, false, false, false, false, false, false]) (a' := { tmps := #[.agg C0, .agg C1, .agg G2, .agg G3, .pointer (some ⟨B4, 0, none⟩), .pointer (some ⟨B5, 0, none⟩), .pointer (some ⟨B6, 0, none⟩), .pointer (some ⟨B7, 0, none⟩), .bool false, .agg C0, .bool true, .bool false, .bool false, .agg C1, .bool true, .bool false, .bool false, .bool false, .agg G2, .bool true, .bool false, .bool false, .bool false, .agg G3, .bool true, .bool false, .bool false, undef, .agg C0, .bool b1, .agg C0, .bool b1, .bool false, .bool false, .agg G2, .bool b2, .agg G2, .bool b2, .bool false, .bool false, .bool false, .agg C0, .agg C1, .bool b3, .agg C0, .agg C1, .bool b3, .bool false, .bool false, .bool false, .agg G2, .agg G3, undef, .agg G2, .agg G3, undef, undef, undef, undef, undef, undef, undef, undef, undef, undef, undef, undef, undef, undef, undef, undef, undef, undef, undef, undef, undef, undef, undef, undef, undef, undef, undef, undef, undef, undef, undef, undef, undef, undef, undef, undef, undef, undef, undef, undef, undef, undef, undef, undef, undef, undef, undef, undef], defers := [] }) (obs := [.test .neq 4 (.tmp 43) (.tmp 46) (.bool b3) (.bool b3) (.bool false), .load 43 B6 0 (.agg G2), .load 43 B7 0 (.agg G3), .load 43 B6 0 (.agg G2), .load 43 B7 0 (.agg G3)]) (n := 16) (by kernel_rfl) (by kernel_rfl) ⟨neq_same, ob_loadb (fun _ h => h.2.2.1) Try.underlying43 (by kernel_rfl) zg2, ob_loadb (fun _ h => h.2.2.2) Try.underlying43 (by kernel_rfl) zg3, ob_loadb (fun _ h => h.2.2.1) Try.underlying43 (by kernel_rfl) zg2, ob_loadb (fun _ h => h.2.2.2) Try.underlying43 (by kernel_rfl) zg3, trivial⟩ ?_
  refine wpAnyH_callL (i := 24) (fuel := 15) (f := 16) (vs := [.agg G2, .agg G3]) (d := some 52) (by kernel_rfl) (by kernel_rfl) (by kernel_rfl) Try.call16 ((sm _ hk).val hb4) ?_
  rintro e v26 ⟨rfl, hb26⟩
  refine ⟨_, rfl, ⟨hS.1.next hb26, hS.2.1.next hb26, hS.2.2.1.next hb26, hS.2.2.2.next hb26⟩, ?_⟩
  replace hS : Blk v26 B4 C0 40 ∧ Blk v26 B5 C1 40 ∧ Blk v26 B6 G2 43 ∧ Blk v26 B7 G3 43 := ⟨hS.1.next hb26, hS.2.1.next hb26, hS.2.2.1.next hb26, hS.2.2.2.next hb26⟩
  replace hk := hk.trans (hb26.mono hk.size)
  refine wpAnyH_callL (i := 27) (fuel := 14) (f := 17) (vs := [.agg G2, .agg G3]) (d := some 55) (by kernel_rfl) (by kernel_rfl) (by kernel_rfl) Try.call17 ((rsm _ hk).val hb4) ?_
  rintro e v27 ⟨rfl, hb27⟩
  refine ⟨_, rfl, ⟨hS.1.next hb27, hS.2.1.next hb27, hS.2.2.1.next hb27, hS.2.2.2.next hb27⟩, ?_⟩
  replace hS : Blk v27 B4 C0 40 ∧ Blk v27 B5 C1 40 ∧ Blk v27 B6 G2 43 ∧ Blk v27 B7 G3 43 := ⟨hS.1.next hb27, hS.2.1.next hb27, hS.2.2.1.next hb27, hS.2.2.2.next hb27⟩
  replace hk := hk.trans (hb27.mono hk.size)
  refine wpAnyH_sym (by kernel_rfl) (fun _ _ _ _ _ h => h) hS [(28, some (.bool false)), (29, none), (30, none), (31, some (.agg C0)), (32, some (.agg C0))] (l' := #[true, true, true, true, true, true, true, true, true, true, true, true, true, true, true, true, true, true, true, true, true, true, true, true, true, true, true, true, true, true, true, true, true, false, false, false, false, false, false, false, false, false]) (a' := { tmps := #[.agg C0, .agg C1, .agg G2, .agg G3, .pointer (some ⟨B4, 0, none⟩), .pointer (some ⟨B5, 0, none⟩), .pointer (some ⟨B6, 0, none⟩), .pointer (some ⟨B7, 0, none⟩), .bool false, .agg C0, .bool true, .bool false, .bool false, .agg C1, .bool true, .bool false, .bool false, .bool false, .agg G2, .bool true, .bool false, .bool false, .bool false, .agg G3, .bool true, .bool false, .bool false, undef, .agg C0, .bool b1, .agg C0, .bool b1, .bool false, .bool false, .agg G2, .bool b2, .agg G2, .bool b2, .bool false, .bool false, .bool false, .agg C0, .agg C1, .bool b3, .agg C0, .agg C1, .bool b3, .bool false, .bool false, .bool false, .agg G2, .agg G3, .bool b4, .agg G2, .agg G3, .bool b4, .bool false, .bool false, .bool false, .agg C0, .agg C0, undef, undef, undef, undef, undef, undef, undef, undef, undef, undef, undef, undef, undef, undef, undef, undef, undef, undef, undef, undef, undef, undef, undef, undef, undef, undef, undef, undef, undef, undef, undef, undef, undef, undef, undef, undef, undef, undef, undef, undef, undef, undef], defers := [] }) (obs := [.test .neq 4 (.tmp 52) (.tmp 55) (.bool b4) (.bool b4) (.bool false), .load 40 B4 0 (.agg C0), .load 40 B4 0 (.agg C0)]) (n := 9) (by kernel_rfl) (by kernel_rfl) ⟨neq_same, ob_loadb (fun _ h => h.1) Try.underlying40 (by kernel_rfl) (size40C hz0), ob_loadb (fun _ h => h.1) Try.underlying40 (by kernel_rfl) (size40C hz0), trivial⟩ ?_
  refine wpAnyH_callL (i := 33) (fuel := 8) (f := 14) (vs := [.agg C0, .agg C0]) (d := some 61) (by kernel_rfl) (by kernel_rfl) (by kernel_rfl) Try.call14 ((sameOne_any (l0.next hk) (l0.next hk)).sure rfl) ?_
  rintro e v28 ⟨rfl, hb28⟩
  refine ⟨_, rfl, ⟨hS.1.next hb28, hS.2.1.next hb28, hS.2.2.1.next hb28, hS.2.2.2.next hb28⟩, ?_⟩
  replace hS : Blk v28 B4 C0 40 ∧ Blk v28 B5 C1 40 ∧ Blk v28 B6 G2 43 ∧ Blk v28 B7 G3 43 := ⟨hS.1.next hb28, hS.2.1.next hb28, hS.2.2.1.next hb28, hS.2.2.2.next hb28⟩
  replace hk := hk.trans (hb28.mono hk.size)
  refine wpAnyH_sym (by kernel_rfl) (fun _ _ _ _ _ h => h) hS [(34, none), (35, none), (36, none), (37, some (.agg G2)), (38, some (.agg G2))] (l' := #[true, true, true, true, true, true, true, true, true, true, true, true, true, true, true, true, true, true, true, true, true, true, true, true, true, true, true, true, true, true, true, true, true, true, true, true, true, true, true, false, false, false]) (a' := { tmps := #[.agg C0, .agg C1, .agg G2, .agg G3, .pointer (some ⟨B4, 0, none⟩), .pointer (some ⟨B5, 0, none⟩), .pointer (some ⟨B6, 0, none⟩), .pointer (some ⟨B7, 0, none⟩), .bool false, .agg C0, .bool true, .bool false, .bool false, .agg C1, .bool true, .bool false, .bool false, .bool false, .agg G2, .bool true, .bool false, .bool false, .bool false, .agg G3, .bool true, .bool false, .bool false, undef, .agg C0, .bool b1, .agg C0, .bool b1, .bool false, .bool false, .agg G2, .bool b2, .agg G2, .bool b2, .bool false, .bool false, .bool false, .agg C0, .agg C1, .bool b3, .agg C0, .agg C1, .bool b3, .bool false, .bool false, .bool false, .agg G2, .agg G3, .bool b4, .agg G2, .agg G3, .bool b4, .bool false, .bool false, .bool false, .agg C0, .agg C0, .bool true, .bool false, .bool false, .bool false, .agg G2, .agg G2, undef, undef, undef, undef, undef, undef, undef, undef, undef, undef, undef, undef, undef, undef, undef, undef, undef, undef, undef, undef, undef, undef, undef, undef, undef, undef, undef, undef, undef, undef, undef, undef, undef, undef, undef, undef], defers := [] }) (obs := [.load 43 B6 0 (.agg G2), .load 43 B6 0 (.agg G2)]) (n := 3) (by kernel_rfl) (by kernel_rfl) ⟨ob_loadb (fun _ h => h.2.2.1) Try.underlying43 (by kernel_rfl) zg2, ob_loadb (fun _ h => h.2.2.1) Try.underlying43 (by kernel_rfl) zg2, trivial⟩ ?_
  refine wpAnyH_callL (i := 39) (fuel := 2) (f := 16) (vs := [.agg G2, .agg G2]) (d := some 67) (by kernel_rfl) (by kernel_rfl) (by kernel_rfl) Try.call16 ((sm0 _ hk).sure (by trivial)) ?_
  rintro e v29 ⟨rfl, hb29⟩
  refine ⟨_, rfl, ⟨hS.1.next hb29, hS.2.1.next hb29, hS.2.2.1.next hb29, hS.2.2.2.next hb29⟩, ?_⟩
  replace hS : Blk v29 B4 C0 40 ∧ Blk v29 B5 C1 40 ∧ Blk v29 B6 G2 43 ∧ Blk v29 B7 G3 43 := ⟨hS.1.next hb29, hS.2.1.next hb29, hS.2.2.1.next hb29, hS.2.2.2.next hb29⟩
  replace hk := hk.trans (hb29.mono hk.size)
  refine wpAnyH_sym (by kernel_rfl) (fun _ _ _ _ _ h => h) hS [(40, none), (41, none)] (l' := #[true, true, true, true, true, true, true, true, true, true, true, true, true, true, true, true, true, true, true, true, true, true, true, true, true, true, true, true, true, true, true, true, true, true, true, true, true, true, true, true, true, true]) (a' := { tmps := #[.agg C0, .agg C1, .agg G2, .agg G3, .pointer (some ⟨B4, 0, none⟩), .pointer (some ⟨B5, 0, none⟩), .pointer (some ⟨B6, 0, none⟩), .pointer (some ⟨B7, 0, none⟩), .bool false, .agg C0, .bool true, .bool false, .bool false, .agg C1, .bool true, .bool false, .bool false, .bool false, .agg G2, .bool true, .bool false, .bool false, .bool false, .agg G3, .bool true, .bool false, .bool false, undef, .agg C0, .bool b1, .agg C0, .bool b1, .bool false, .bool false, .agg G2, .bool b2, .agg G2, .bool b2, .bool false, .bool false, .bool false, .agg C0, .agg C1, .bool b3, .agg C0, .agg C1, .bool b3, .bool false, .bool false, .bool false, .agg G2, .agg G3, .bool b4, .agg G2, .agg G3, .bool b4, .bool false, .bool false, .bool false, .agg C0, .agg C0, .bool true, .bool false, .bool false, .bool false, .agg G2, .agg G2, .bool true, .bool false, .bool false, undef, undef, undef, undef, undef, undef, undef, undef, undef, undef, undef, undef, undef, undef, undef, undef, undef, undef, undef, undef, undef, undef, undef, undef, undef, undef, undef, undef, undef, undef, undef, undef, undef], defers := [] }) (obs := []) (n := 0) (by kernel_rfl) (by kernel_rfl) trivial ?_
  refine wpAnyH_done (by kernel_rfl) ?_ _
  obtain ⟨hB4, hB5, hB6, hB7⟩ := hS
  clear ft rft sm rsm sm0 hb2 hb3 hb4 hb20 hb21 hb22 hb23 hb24 hb25 hb26 hb27 hb28 hb29
  go_wp2_with (first
    | (with_reducible refine wpList_loadb (by kernel_rfl) 40 _ rfl B4 rfl C0 hB4 _ Try.underlying40 (by kernel_rfl) (size40C hz0) ?_)
    | (go_at_call 11; (with_reducible refine (rsound_any (l0.next hk)).on ?_ ?_) <;> (intro w5 hq5 hb8; replace hB4 := hB4.next hb8; replace hB5 := hB5.next hb8; replace hB6 := hB6.next hb8; replace hB7 := hB7.next hb8; replace hk := hk.trans (hb8.mono hk.size); clear hb8))
    | (go_at_call 9; (with_reducible refine (aw _).mono ?_); rintro e w3 ⟨rfl, hb8⟩; replace hk := hk.trans (hb8.mono hk.size)))
  all_goals (try (go_ret; exact ⟨rfl, hk⟩))
  have hso : soundB x0 = true := hq5.out
  have hsm : Small x0 := small_of hq1.out hso
  have hpq : Hid (pagO x0 ≤ x0.quota) := by show _ ≤ _; rw [pag_eq hso]; exact pag_quota hso
  have hpe : pagN x0 = pagO x0 := (pag_eq hso).symm
  have hse : Hid (shoC x0 = shoL x0) := sho_eq hso
  have rpg := fun (W : World) (hk : Below w.heap.size w W) => rpages_any (l0.next hk) hsm
  rw [hpe] at rpg
  clear hso hq1 hq5 hpe hb1
  refine PgM.region_out (S := fun W => Blk W B4 C0 40 ∧ Blk W B5 C1 40 ∧ Blk W B6 G2 43 ∧ Blk W B7 G3 43) hmx ⟨hB4.next (Below.refl _ _).drew, hB5.next (Below.refl _ _).drew, hB6.next (Below.refl _ _).drew, hB7.next (Below.refl _ _).drew⟩ (fun hS => ?_)
  replace hk := hk.trans ((Below.refl _ w5).drew.mono hk.size)
  generalize w5.drew = v2 at hS hk ⊢
  clear hB4 hB5 hB6 hB7
  refine wpAnyH_sym (by kernel_rfl) (fun _ _ _ _ _ h => h) hS [(0, some (.agg C0)), (2, some (.agg C0))] (l' := #[true, false, true, false, false, false, false, false, false, false, false, false, false, false, false, false, false, false, false, false, false, false, false, false, false, false, false, false, false, false]) (a' := { tmps := #[.agg C0, .agg C1, .agg G2, .agg G3, .pointer (some ⟨B4, 0, none⟩), .pointer (some ⟨B5, 0, none⟩), .pointer (some ⟨B6, 0, none⟩), .pointer (some ⟨B7, 0, none⟩), .bool false, .agg C0, .bool true, .bool false, .bool false, .agg C1, .bool true, .bool false, .bool false, .bool false, .agg G2, .bool true, .bool false, .bool false, .bool false, .agg G3, .bool true, .bool false, .bool false, undef, .agg C0, .bool b1, .agg C0, .bool b1, .bool false, .bool false, .agg G2, .bool b2, .agg G2, .bool b2, .bool false, .bool false, .bool false, .agg C0, .agg C1, .bool b3, .agg C0, .agg C1, .bool b3, .bool false, .bool false, .bool false, .agg G2, .agg G3, .bool b4, .agg G2, .agg G3, .bool b4, .bool false, .bool false, .bool false, .agg C0, .agg C0, .bool true, .bool false, .bool false, .bool false, .agg G2, .agg G2, .bool true, .bool false, .bool false, .agg C0, .bool true, .bool false, undef, .agg C0, undef, .agg C0, undef, undef, undef, undef, undef, undef, undef, undef, undef, undef, undef, undef, undef, undef, undef, undef, undef, undef, undef, undef, undef, undef, undef, undef, undef, undef], defers := [] }) (obs := [.load 40 B4 0 (.agg C0), .load 40 B4 0 (.agg C0)]) (n := 28) (by kernel_rfl) (by kernel_rfl) ⟨ob_loadb (fun _ h => h.1) Try.underlying40 (by kernel_rfl) (size40C hz0), ob_loadb (fun _ h => h.1) Try.underlying40 (by kernel_rfl) (size40C hz0), trivial⟩ ?_
  refine wpAnyH_callL (i := 1) (fuel := 27) (f := 18) (vs := [.agg C0]) (d := some 75) (by kernel_rfl) (by kernel_rfl) (by kernel_rfl) Try.call18 (pages_any (l0.next hk) hsm) ?_
  rintro e v30 ⟨rfl, hb30⟩
  refine ⟨_, rfl, ⟨hS.1.next hb30, hS.2.1.next hb30, hS.2.2.1.next hb30, hS.2.2.2.next hb30⟩, ?_⟩
  replace hS : Blk v30 B4 C0 40 ∧ Blk v30 B5 C1 40 ∧ Blk v30 B6 G2 43 ∧ Blk v30 B7 G3 43 := ⟨hS.1.next hb30, hS.2.1.next hb30, hS.2.2.1.next hb30, hS.2.2.2.next hb30⟩
  replace hk := hk.trans (hb30.mono hk.size)
  refine wpAnyH_callL (i := 3) (fuel := 26) (f := 19) (vs := [.agg C0]) (d := some 77) (by kernel_rfl) (by kernel_rfl) (by kernel_rfl) Try.call19 (rpg _ hk) ?_
  rintro e v31 ⟨rfl, hb31⟩
  refine ⟨_, rfl, ⟨hS.1.next hb31, hS.2.1.next hb31, hS.2.2.1.next hb31, hS.2.2.2.next hb31⟩, ?_⟩
  replace hS : Blk v31 B4 C0 40 ∧ Blk v31 B5 C1 40 ∧ Blk v31 B6 G2 43 ∧ Blk v31 B7 G3 43 := ⟨hS.1.next hb31, hS.2.1.next hb31, hS.2.2.1.next hb31, hS.2.2.2.next hb31⟩
  replace hk := hk.trans (hb31.mono hk.size)
  refine wpAnyH_sym (by kernel_rfl) (fun _ _ _ _ _ h => h) hS [(4, some (.bool true)), (5, none), (6, some (.agg C0)), (8, some (.agg C0))] (l' := #[true, true, true, true, true, true, true, false, true, false, false, false, false, false, false, false, false, false, false, false, false, false, false, false, false, false, false, false, false, false]) (a' := { tmps := #[.agg C0, .agg C1, .agg G2, .agg G3, .pointer (some ⟨B4, 0, none⟩), .pointer (some ⟨B5, 0, none⟩), .pointer (some ⟨B6, 0, none⟩), .pointer (some ⟨B7, 0, none⟩), .bool false, .agg C0, .bool true, .bool false, .bool false, .agg C1, .bool true, .bool false, .bool false, .bool false, .agg G2, .bool true, .bool false, .bool false, .bool false, .agg G3, .bool true, .bool false, .bool false, undef, .agg C0, .bool b1, .agg C0, .bool b1, .bool false, .bool false, .agg G2, .bool b2, .agg G2, .bool b2, .bool false, .bool false, .bool false, .agg C0, .agg C1, .bool b3, .agg C0, .agg C1, .bool b3, .bool false, .bool false, .bool false, .agg G2, .agg G3, .bool b4, .agg G2, .agg G3, .bool b4, .bool false, .bool false, .bool false, .agg C0, .agg C0, .bool true, .bool false, .bool false, .bool false, .agg G2, .agg G2, .bool true, .bool false, .bool false, .agg C0, .bool true, .bool false, undef, .agg C0, .int .i64 (pagO x0), .agg C0, .int .i64 (pagO x0), .bool true, .bool true, .agg C0, undef, .agg C0, undef, undef, undef, undef, undef, undef, undef, undef, undef, undef, undef, undef, undef, undef, undef, undef, undef, undef, undef, undef], defers := [] }) (obs := [.test .eql 3 (.tmp 75) (.tmp 77) (.int .i64 (pagO x0)) (.int .i64 (pagO x0)) (.bool true), .load 40 B4 0 (.agg C0), .load 40 B4 0 (.agg C0)]) (n := 22) (by kernel_rfl) (by kernel_rfl) ⟨ob_yes (fun _ => eqg_int _ _ _ _ _ _) (by show _ = _; rfl), ob_loadb (fun _ h => h.1) Try.underlying40 (by kernel_rfl) (size40C hz0), ob_loadb (fun _ h => h.1) Try.underlying40 (by kernel_rfl) (size40C hz0), trivial⟩ ?_
  refine wpAnyH_callL (i := 7) (fuel := 21) (f := 21) (vs := [.agg C0]) (d := some 81) (by kernel_rfl) (by kernel_rfl) (by kernel_rfl) Try.call21 (shown_any (l0.next hk) hsm) ?_
  rintro e v32 ⟨a1, n1, k1, rfl, hl1, hb32⟩
  refine ⟨_, rfl, ⟨hS.1.next hb32, hS.2.1.next hb32, hS.2.2.1.next hb32, hS.2.2.2.next hb32⟩, ?_⟩
  replace hS : Blk v32 B4 C0 40 ∧ Blk v32 B5 C1 40 ∧ Blk v32 B6 G2 43 ∧ Blk v32 B7 G3 43 := ⟨hS.1.next hb32, hS.2.1.next hb32, hS.2.2.1.next hb32, hS.2.2.2.next hb32⟩
  replace hk := hk.trans (hb32.mono hk.size)
  refine wpAnyH_callL (i := 9) (fuel := 20) (f := 22) (vs := [.agg C0]) (d := some 83) (by kernel_rfl) (by kernel_rfl) (by kernel_rfl) Try.call22 (rshown_any (l0.next hk) hsm) ?_
  rintro e v33 ⟨a2, n2, k2, rfl, hl2, hb33⟩
  refine ⟨_, rfl, ⟨hS.1.next hb33, hS.2.1.next hb33, hS.2.2.1.next hb33, hS.2.2.2.next hb33⟩, ?_⟩
  replace hS : Blk v33 B4 C0 40 ∧ Blk v33 B5 C1 40 ∧ Blk v33 B6 G2 43 ∧ Blk v33 B7 G3 43 := ⟨hS.1.next hb33, hS.2.1.next hb33, hS.2.2.1.next hb33, hS.2.2.2.next hb33⟩
  replace hk := hk.trans (hb33.mono hk.size)
  rw [hse.out] at hl1
  have hl1n := (hl1.wide (fun b hb => hb.2) : LabD (LtN v32) v32 a1 n1 k1 (shoL x0))
  refine wpAnyH_callL (i := 10) (fuel := 19) (f := 20) (vs := [.slice a1 n1 k1, .slice a2 n2 k2]) (d := some 84) (by kernel_rfl) (by kernel_rfl) (by kernel_rfl) Try.call20 ((sameLabel_any (labD_next hl1n hb33) hl2 (Below.refl _ _)).sure rfl) ?_
  rintro e v34 ⟨rfl, hb34⟩
  refine ⟨_, rfl, ⟨hS.1.next hb34, hS.2.1.next hb34, hS.2.2.1.next hb34, hS.2.2.2.next hb34⟩, ?_⟩
  replace hS : Blk v34 B4 C0 40 ∧ Blk v34 B5 C1 40 ∧ Blk v34 B6 G2 43 ∧ Blk v34 B7 G3 43 := ⟨hS.1.next hb34, hS.2.1.next hb34, hS.2.2.1.next hb34, hS.2.2.2.next hb34⟩
  replace hk := hk.trans (hb34.mono hk.size)
  refine wpAnyH_sym (by kernel_rfl) (fun _ _ _ _ _ h => h) hS [(11, none), (12, none), (13, some (.agg C0)), (15, some (.agg C0))] (l' := #[true, true, true, true, true, true, true, true, true, true, true, true, true, true, false, true, false, false, false, false, false, false, false, false, false, false, false, false, false, false]) (a' := { tmps := #[.agg C0, .agg C1, .agg G2, .agg G3, .pointer (some ⟨B4, 0, none⟩), .pointer (some ⟨B5, 0, none⟩), .pointer (some ⟨B6, 0, none⟩), .pointer (some ⟨B7, 0, none⟩), .bool false, .agg C0, .bool true, .bool false, .bool false, .agg C1, .bool true, .bool false, .bool false, .bool false, .agg G2, .bool true, .bool false, .bool false, .bool false, .agg G3, .bool true, .bool false, .bool false, undef, .agg C0, .bool b1, .agg C0, .bool b1, .bool false, .bool false, .agg G2, .bool b2, .agg G2, .bool b2, .bool false, .bool false, .bool false, .agg C0, .agg C1, .bool b3, .agg C0, .agg C1, .bool b3, .bool false, .bool false, .bool false, .agg G2, .agg G3, .bool b4, .agg G2, .agg G3, .bool b4, .bool false, .bool false, .bool false, .agg C0, .agg C0, .bool true, .bool false, .bool false, .bool false, .agg G2, .agg G2, .bool true, .bool false, .bool false, .agg C0, .bool true, .bool false, undef, .agg C0, .int .i64 (pagO x0), .agg C0, .int .i64 (pagO x0), .bool true, .bool true, .agg C0, .slice a1 n1 k1, .agg C0, .slice a2 n2 k2, .bool true, .bool true, .bool true, .agg C0, undef, .agg C0, undef, undef, undef, undef, undef, undef, undef, undef, undef, undef, undef, undef, undef], defers := [] }) (obs := [.load 40 B4 0 (.agg C0), .load 40 B4 0 (.agg C0)]) (n := 15) (by kernel_rfl) (by kernel_rfl) ⟨ob_loadb (fun _ h => h.1) Try.underlying40 (by kernel_rfl) (size40C hz0), ob_loadb (fun _ h => h.1) Try.underlying40 (by kernel_rfl) (size40C hz0), trivial⟩ ?_
  refine wpAnyH_callL (i := 14) (fuel := 14) (f := 23) (vs := [.agg C0]) (d := some 88) (by kernel_rfl) (by kernel_rfl) (by kernel_rfl) Try.call23 (head_any (l0.next hk) hsm) ?_
  rintro e v35 ⟨C2, rfl, ho2, hb35⟩
  refine ⟨_, rfl, ⟨hS.1.next hb35, hS.2.1.next hb35, hS.2.2.1.next hb35, hS.2.2.2.next hb35⟩, ?_⟩
  replace hS : Blk v35 B4 C0 40 ∧ Blk v35 B5 C1 40 ∧ Blk v35 B6 G2 43 ∧ Blk v35 B7 G3 43 := ⟨hS.1.next hb35, hS.2.1.next hb35, hS.2.2.1.next hb35, hS.2.2.2.next hb35⟩
  replace hk := hk.trans (hb35.mono hk.size)
  refine wpAnyH_callL (i := 16) (fuel := 13) (f := 24) (vs := [.agg C0]) (d := some 90) (by kernel_rfl) (by kernel_rfl) (by kernel_rfl) Try.call24 (rhead_any (l0.next hk)) ?_
  rintro e v36 ⟨C3, rfl, ho3, hb36⟩
  refine ⟨_, rfl, ⟨hS.1.next hb36, hS.2.1.next hb36, hS.2.2.1.next hb36, hS.2.2.2.next hb36⟩, ?_⟩
  replace hS : Blk v36 B4 C0 40 ∧ Blk v36 B5 C1 40 ∧ Blk v36 B6 G2 43 ∧ Blk v36 B7 G3 43 := ⟨hS.1.next hb36, hS.2.1.next hb36, hS.2.2.1.next hb36, hS.2.2.2.next hb36⟩
  replace hk := hk.trans (hb36.mono hk.size)
  refine wpAnyH_callL (i := 17) (fuel := 12) (f := 15) (vs := [.agg C2, .agg C3]) (d := some 91) (by kernel_rfl) (by kernel_rfl) (by kernel_rfl) Try.call15 ((rsameOne_any (ObD.next (ho2.wide fun b hb => hb.2) hb36) ho3).sure rfl) ?_
  rintro e v37 ⟨rfl, hb37⟩
  refine ⟨_, rfl, ⟨hS.1.next hb37, hS.2.1.next hb37, hS.2.2.1.next hb37, hS.2.2.2.next hb37⟩, ?_⟩
  replace hS : Blk v37 B4 C0 40 ∧ Blk v37 B5 C1 40 ∧ Blk v37 B6 G2 43 ∧ Blk v37 B7 G3 43 := ⟨hS.1.next hb37, hS.2.1.next hb37, hS.2.2.1.next hb37, hS.2.2.2.next hb37⟩
  replace hk := hk.trans (hb37.mono hk.size)
  refine wpAnyH_sym (by kernel_rfl) (fun _ _ _ _ _ h => h) hS [(18, none), (19, none), (20, some (.agg C0)), (22, none), (23, some (.int .i64 x0.quota))] (l' := #[true, true, true, true, true, true, true, true, true, true, true, true, true, true, true, true, true, true, true, true, true, false, true, true, false, false, false, false, false, false]) (a' := { tmps := #[.agg C0, .agg C1, .agg G2, .agg G3, .pointer (some ⟨B4, 0, none⟩), .pointer (some ⟨B5, 0, none⟩), .pointer (some ⟨B6, 0, none⟩), .pointer (some ⟨B7, 0, none⟩), .bool false, .agg C0, .bool true, .bool false, .bool false, .agg C1, .bool true, .bool false, .bool false, .bool false, .agg G2, .bool true, .bool false, .bool false, .bool false, .agg G3, .bool true, .bool false, .bool false, undef, .agg C0, .bool b1, .agg C0, .bool b1, .bool false, .bool false, .agg G2, .bool b2, .agg G2, .bool b2, .bool false, .bool false, .bool false, .agg C0, .agg C1, .bool b3, .agg C0, .agg C1, .bool b3, .bool false, .bool false, .bool false, .agg G2, .agg G3, .bool b4, .agg G2, .agg G3, .bool b4, .bool false, .bool false, .bool false, .agg C0, .agg C0, .bool true, .bool false, .bool false, .bool false, .agg G2, .agg G2, .bool true, .bool false, .bool false, .agg C0, .bool true, .bool false, undef, .agg C0, .int .i64 (pagO x0), .agg C0, .int .i64 (pagO x0), .bool true, .bool true, .agg C0, .slice a1 n1 k1, .agg C0, .slice a2 n2 k2, .bool true, .bool true, .bool true, .agg C0, .agg C2, .agg C0, .agg C3, .bool true, .bool true, .bool true, .agg C0, undef, .pointer (some ⟨B4, 3, none⟩), .int .i64 x0.quota, undef, undef, undef, undef, undef], defers := [] }) (obs := [.load 40 B4 0 (.agg C0), .load 3 B4 3 (.int .i64 x0.quota)]) (n := 7) (by kernel_rfl) (by kernel_rfl) ⟨ob_loadb (fun _ h => h.1) Try.underlying40 (by kernel_rfl) (size40C hz0), ob_load1 (fun _ h => h.1) q0 Try.isAgg3, trivial⟩ ?_
  refine wpAnyH_callL (i := 21) (fuel := 6) (f := 18) (vs := [.agg C0]) (d := some 95) (by kernel_rfl) (by kernel_rfl) (by kernel_rfl) Try.call18 (pages_any (l0.next hk) hsm) ?_
  rintro e v38 ⟨rfl, hb38⟩
  refine ⟨_, rfl, ⟨hS.1.next hb38, hS.2.1.next hb38, hS.2.2.1.next hb38, hS.2.2.2.next hb38⟩, ?_⟩
  replace hS : Blk v38 B4 C0 40 ∧ Blk v38 B5 C1 40 ∧ Blk v38 B6 G2 43 ∧ Blk v38 B7 G3 43 := ⟨hS.1.next hb38, hS.2.1.next hb38, hS.2.2.1.next hb38, hS.2.2.2.next hb38⟩
  replace hk := hk.trans (hb38.mono hk.size)
  refine wpAnyH_sym (by kernel_rfl) (fun _ _ _ _ _ h => h) hS [(24, some (.bool true)), (25, none), (26, none)] (l' := #[true, true, true, true, true, true, true, true, true, true, true, true, true, true, true, true, true, true, true, true, true, true, true, true, true, true, true, false, false, false]) (a' := { tmps := #[.agg C0, .agg C1, .agg G2, .agg G3, .pointer (some ⟨B4, 0, none⟩), .pointer (some ⟨B5, 0, none⟩), .pointer (some ⟨B6, 0, none⟩), .pointer (some ⟨B7, 0, none⟩), .bool false, .agg C0, .bool true, .bool false, .bool false, .agg C1, .bool true, .bool false, .bool false, .bool false, .agg G2, .bool true, .bool false, .bool false, .bool false, .agg G3, .bool true, .bool false, .bool false, undef, .agg C0, .bool b1, .agg C0, .bool b1, .bool false, .bool false, .agg G2, .bool b2, .agg G2, .bool b2, .bool false, .bool false, .bool false, .agg C0, .agg C1, .bool b3, .agg C0, .agg C1, .bool b3, .bool false, .bool false, .bool false, .agg G2, .agg G3, .bool b4, .agg G2, .agg G3, .bool b4, .bool false, .bool false, .bool false, .agg C0, .agg C0, .bool true, .bool false, .bool false, .bool false, .agg G2, .agg G2, .bool true, .bool false, .bool false, .agg C0, .bool true, .bool false, undef, .agg C0, .int .i64 (pagO x0), .agg C0, .int .i64 (pagO x0), .bool true, .bool true, .agg C0, .slice a1 n1 k1, .agg C0, .slice a2 n2 k2, .bool true, .bool true, .bool true, .agg C0, .agg C2, .agg C0, .agg C3, .bool true, .bool true, .bool true, .agg C0, .int .i64 (pagO x0), .pointer (some ⟨B4, 3, none⟩), .int .i64 x0.quota, .bool true, .bool true, .bool true, undef, undef], defers := [] }) (obs := [.test .leq 3 (.tmp 95) (.tmp 97) (.int .i64 (pagO x0)) (.int .i64 x0.quota) (.bool true)]) (n := 3) (by kernel_rfl) (by kernel_rfl) ⟨ob_yes (fun _ => tle_int _ _ _ _ _ _) hpq, trivial⟩ ?_
  refine wpAnyH_callL (i := 27) (fuel := 2) (f := 9) (vs := []) (d := some 101) (by kernel_rfl) (by kernel_rfl) (by kernel_rfl) Try.call9 (aw _) ?_
  rintro e v39 ⟨rfl, hb39⟩
  refine ⟨_, rfl, ⟨hS.1.next hb39, hS.2.1.next hb39, hS.2.2.1.next hb39, hS.2.2.2.next hb39⟩, ?_⟩
  replace hS : Blk v39 B4 C0 40 ∧ Blk v39 B5 C1 40 ∧ Blk v39 B6 G2 43 ∧ Blk v39 B7 G3 43 := ⟨hS.1.next hb39, hS.2.1.next hb39, hS.2.2.1.next hb39, hS.2.2.2.next hb39⟩
  replace hk := hk.trans (hb39.mono hk.size)
  refine wpAnyH_sym (by kernel_rfl) (fun _ _ _ _ _ h => h) hS [(28, none), (29, none)] (l' := #[true, true, true, true, true, true, true, true, true, true, true, true, true, true, true, true, true, true, true, true, true, true, true, true, true, true, true, true, true, true]) (a' := { tmps := #[.agg C0, .agg C1, .agg G2, .agg G3, .pointer (some ⟨B4, 0, none⟩), .pointer (some ⟨B5, 0, none⟩), .pointer (some ⟨B6, 0, none⟩), .pointer (some ⟨B7, 0, none⟩), .bool true, .agg C0, .bool true, .bool false, .bool false, .agg C1, .bool true, .bool false, .bool false, .bool false, .agg G2, .bool true, .bool false, .bool false, .bool false, .agg G3, .bool true, .bool false, .bool false, undef, .agg C0, .bool b1, .agg C0, .bool b1, .bool false, .bool false, .agg G2, .bool b2, .agg G2, .bool b2, .bool false, .bool false, .bool false, .agg C0, .agg C1, .bool b3, .agg C0, .agg C1, .bool b3, .bool false, .bool false, .bool false, .agg G2, .agg G3, .bool b4, .agg G2, .agg G3, .bool b4, .bool false, .bool false, .bool false, .agg C0, .agg C0, .bool true, .bool false, .bool false, .bool false, .agg G2, .agg G2, .bool true, .bool false, .bool false, .agg C0, .bool true, .bool false, undef, .agg C0, .int .i64 (pagO x0), .agg C0, .int .i64 (pagO x0), .bool true, .bool true, .agg C0, .slice a1 n1 k1, .agg C0, .slice a2 n2 k2, .bool true, .bool true, .bool true, .agg C0, .agg C2, .agg C0, .agg C3, .bool true, .bool true, .bool true, .agg C0, .int .i64 (pagO x0), .pointer (some ⟨B4, 3, none⟩), .int .i64 x0.quota, .bool true, .bool true, .bool true, .bool true, .bool true], defers := [] }) (obs := []) (n := 0) (by kernel_rfl) (by kernel_rfl) trivial ?_
  refine wpAnyH_done (by kernel_rfl) ?_ _
  go_wp2
  go_ret
  exact ⟨rfl, hk⟩

set_option maxRecDepth 100000 in
theorem lifted (os : Os) (started : os.Started) (H : Type) (enc : TypeId × Value → H) :
    ReturnsInHanded {} Try.checked os 3 .any (Rows.objTellsSpec.pre6 enc Try.prog Try.f3 Rows.objTellsRow.domain false) (Rows.objTellsSpec.post enc Try.prog Try.f3 false true false false) := by
  refine returnsInHanded_of_change (C := Try.checked) own started (by kernel_rfl) Try.func3
    (ChangeSpec.witness6 (enc := enc) (C := Try.checked) false ⟨#[], #[.agg zC, .agg zC, .agg #[.int .i64 0, .int .u64 0, .int .u64 0, .slice none 0 0], .agg #[.int .i64 0, .int .u64 0, .int .u64 0, .slice none 0 0]], []⟩ 8 (by kernel_rfl) (by kernel_rfl) (by kernel_rfl) (by kernel_rfl)) ?_
  intro W base args ds gs before hval0 hW hcnd _
  have hval : ∀ (j : Nat) t v, Try.f3.params[j]? = some t → args[j]? = some v → Value.okWide Try.prog W .any base t v := hval0
  have hW' := hW
  obtain ⟨p, q, hA0, hV, rfl, hfz, hnd⟩ := hW
  have hA : DataW.TrodAll enc Try.prog W 0 (fun _ => true) true Try.f3.params.toList args.toList ds p := hA0
  rw [Try.params3] at hA hval
  obtain ⟨v0, vs0, d0, ds0, p0, q0, hargs, rfl, rfl, h0, r0⟩ := trodAll_cons hA
  obtain ⟨v1, vs1, d1, ds1, p1, q1, rfl, rfl, rfl, h1, r1⟩ := trodAll_cons r0
  obtain ⟨v2, vs2, d2, ds2, p2, q2, rfl, rfl, rfl, h2, r2⟩ := trodAll_cons r1
  obtain ⟨v3, vs3, d3, ds3, p3, q3, rfl, rfl, rfl, h3, r3⟩ := trodAll_cons r2
  obtain ⟨rfl, rfl, rfl⟩ := trodAll_nil r3
  obtain rfl : args = #[v0, v1, v2, v3] := by cases args; simp_all
  obtain ⟨rfl, rfl⟩ := trodVars_none hV
  obtain ⟨C0, x0, rfl, l0⟩ := obj_of_trod (hval 0 40 v0 rfl rfl) h0
  have k0 := h0
  have lt0 : ∀ x ∈ p0, x.block < W.heap.size := by obtain ⟨m, hm⟩ := k0; exact DataW.trod_lt m _ _ _ hm
  obtain ⟨C1, x1, rfl, l1⟩ := obj_of_trod (hval 1 40 v1 rfl rfl) h1
  have k1 := h1
  have lt1 : ∀ x ∈ p1, x.block < W.heap.size := by obtain ⟨m, hm⟩ := k1; exact DataW.trod_lt m _ _ _ hm
  obtain ⟨t2, ke2, ro2, ao2, n2, cap2, X2, rfl, l2⟩ := world_of_trod (hval 2 43 v2 rfl rfl) h2
  have k2 := h2
  have lt2 : ∀ x ∈ p2, x.block < W.heap.size := by obtain ⟨m, hm⟩ := k2; exact DataW.trod_lt m _ _ _ hm
  obtain ⟨t3, ke3, ro3, ao3, n3, cap3, X3, rfl, l3⟩ := world_of_trod (hval 3 43 v3 rfl rfl) h3
  have k3 := h3
  have lt3 : ∀ x ∈ p3, x.block < W.heap.size := by obtain ⟨m, hm⟩ := k3; exact DataW.trod_lt m _ _ _ hm
  clear hA0 hval0
  refine (walk C0 x0 C1 x1 t2 ke2 ro2 ao2 n2 cap2 X2 t3 ke3 ro3 ao3 n3 cap3 X3 W l0 l1 l2 l3).mono fun e W' ⟨he, bel⟩ => ?_
  subst he
  exact ⟨_, rfl, _, _, _, [], _, [], hW', trodAll_mk1 (shut_bool Try.underlying4 _), (trodAll_cons_mk (Below.trod laidOut (by kernel_rfl) (of_decide_eq_true (by kernel_rfl)) k0 bel lt0) (trodAll_cons_mk (Below.trod laidOut (by kernel_rfl) (of_decide_eq_true (by kernel_rfl)) k1 bel lt1) (trodAll_cons_mk (Below.trod laidOut (by kernel_rfl) (of_decide_eq_true (by kernel_rfl)) k2 bel lt2) (trodAll_cons_mk (Below.trod laidOut (by kernel_rfl) (of_decide_eq_true (by kernel_rfl)) k3 bel lt3) trodAll_mk0)))), rfl, bel.frame _, fun h => by cases h⟩

theorem over : Rows.objTellsRow.holds Try.pinned (OpenSpec.ofChange Rows.objTellsSpec) :=
  OpenClaim.holds_of_wide 3 Try.f3 rfl rfl rfl rfl rfl rfl rfl ⟨rfl, rfl, rfl, rfl, rfl⟩ rfl rfl rfl rfl rfl (by kernel_rfl) Try.func3 (by kernel_rfl)
    (of_decide_eq_true (by kernel_rfl)) (by unfold Func.isWrapper; first | (rw [if_pos (by decide +kernel)]; kernel_rfl) | (rw [if_neg (by decide +kernel)]; exact ⟨rfl, rfl⟩))
    (fun os started H enc _ => lifted os started H enc)

end objTells
/-- The statement. -/
theorem objTells_holds : Rows.ObjTellsSaid :=
  objTells.over
#print axioms objTells_holds
end Go.Proofs.Ytfpmkihlfhpgdaa
