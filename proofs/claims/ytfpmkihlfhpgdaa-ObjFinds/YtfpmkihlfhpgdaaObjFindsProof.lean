/-
  PROVED HERE: what was put is found, all others stay; what was dropped is not; what is found, and put again, changes nothing (ObjFinds), over the landed code. No condition.
-/
import Derived.Test.YtfpmkihlfhpgdaaRows
import Derived.Test.YtfpmkihlfhpgdaaObOpen
import Derived.Test.YtfpmkihlfhpgdaaObJ
import Derived.WalkKit
import Derived.ProofKit
import Derived.OpenShut
import Derived.Below
import Derived.ShutString
import Derived.Deep.QuietTactic
namespace Go.Proofs.Ytfpmkihlfhpgdaa
namespace objFinds
open Go.ChangeShapes Go.WideShapes Go.ChangeAt Go.RowKit
open Go.ChangeMaps (open_string shut_string)
set_option linter.unusedVariables false

theorem own : ownKnob Try.prog.godebug = none := by kernel_rfl

set_option maxRecDepth 100000 in
set_option maxHeartbeats 8000000 in
theorem walk (t0 ke0 ro0 : Int) (ao0 : Option Addr) (n0 cap0 : Nat) (X0 : List Ob) (C1 : Array Value) (x1 : Ob) (a2 : Int) (w : World) (l0 : ObsD (LtN w) (LtN w) w ao0 n0 cap0 X0) (l1 : ObD (LtN w) w C1 x1) (w2 : (Lit.int .u64 a2).wf = true) :
    Calls Try.prog 5 #[.agg #[.int .i64 t0, .int .u64 ke0, .int .u64 ro0, .slice ao0 n0 cap0], .agg C1, .int .u64 a2] w fun e w' => e = .returned (.bool true) ∧ Below w.heap.size w w' := by
  have hmx : Try.prog.follows .mixedOrders = true := by kernel_rfl
  have hz1 := l1.size
  have d1 := l1.id
  have ga1 := Try.isAgg22
  have aw := awake_any
  have zg0 : (Try.prog.info? 43).map (·.size) = some (#[.int .i64 t0, .int .u64 ke0, .int .u64 ro0, .slice ao0 n0 cap0] : Array Value).size := size43
  have hz2 : ∀ v, (Try.prog.info? 43).map (·.size) = some (#[.int .i64 t0, .int .u64 ke0, .int .u64 ro0, v] : Array Value).size := fun _ => size43
  have hs2 : ∀ v, zW.size = (#[.int .i64 t0, .int .u64 ke0, .int .u64 ro0, v] : Array Value).size := fun _ => rfl
  have h12 : ∀ ao n cap, (#[.int .i64 t0, .int .u64 ke0, .int .u64 ro0, .slice ao n cap] : Array Value).all (·.oneCell') = true := fun _ _ _ => by kernel_rfl
  have few0 := fun (W : World) (hk : Below w.heap.size w W) => few_any (t := t0) (ke := ke0) (ro := ro0) (obs_next l0 hk)
  have rft := fun (W : World) (hk : Below w.heap.size w W) => rfit_w (t := t0) (ke := ke0) (ro := ro0) (obs_next l0 hk)
  have fw := fun {W : World} (hk : Below w.heap.size w W) (hs : Srt X0) (hn : n0 ≤ 4096) (hm : Smalls X0) => find_w (t := t0) (ke := ke0) (ro := ro0) (i := a2) (obs_next l0 hk) hs hn hm
  have pw := fun {W : World} {C : Array Value} {x : Ob} (hk : Below w.heap.size w W) (hs : Srt X0) (hn : n0 < 1024) (hm : Smalls X0) (hx : ObD (LtN W) W C x) (hxs : Small x) => put_w (t := t0) (ke := ke0) (ro := ro0) (D0 := LtN W) (fun _ h => h) (obs_next l0 hk) hs hn hm hx hxs
  have dw := fun {W : World} (hk : Below w.heap.size w W) (hs : Srt X0) (hn : n0 < 1024) (hm : Smalls X0) => drop_w (t := t0) (ke := ke0) (ro := ro0) (i := a2) (D0 := LtN W) (fun _ h => h) (obs_next l0 hk) hs hn hm
  have rsm := fun {W : World} {a : Option Addr} {n c : Nat} {Y : List Ob} (o : Obs W a n c Y) (hk : Below w.heap.size w W) => rsame_w (t := t0) (ke := ke0) (ro := ro0) (t' := t0) (ke' := ke0) (ro' := ro0) o (obs_next l0 hk)
  obtain ⟨G0, hG0⟩ : ∃ G : Array Value, G = #[.int .i64 t0, .int .u64 ke0, .int .u64 ro0, .slice ao0 n0 cap0] := ⟨_, rfl⟩
  rw [← hG0] at zg0 few0 rft fw pw dw rsm
  rw [← hG0]
  clear hG0
  obtain ⟨y1, hy1⟩ : ∃ y, Hid (fnd X0 a2 = y) := ⟨_, rfl⟩
  obtain ⟨y2, hy2⟩ : ∃ y, Hid (fnd (puR X0 x1) a2 = y) := ⟨_, rfl⟩
  rw [hy1.out] at fw
  go_enter Try.func5, Try.ntmps5
  try simp only [List.append]
  go_wp2_with (first
    | go_skip
    | (with_reducible refine wpList_box rfl _ _ rfl G0 rfl ?_; intro B3 W3 hN3 hB3 hk)
    | (with_reducible refine wpList_box rfl _ _ rfl C1 rfl ?_; intro B4 W4 hN4 hB4 hk4; replace hB3 := hB3.next hk4; replace hk := hk.trans (hk4.mono hk.size); clear hN3 hN4 hk4)
    | (with_reducible refine wpList_loadb (by kernel_rfl) 43 _ rfl B3 rfl G0 hB3 _ Try.underlying43 (by kernel_rfl) zg0 ?_)
    | (with_reducible refine wpList_loadb (by kernel_rfl) 40 _ rfl B4 rfl C1 hB4 _ Try.underlying40 (by kernel_rfl) (size40C hz1) ?_)
    | (with_reducible refine wpList_load1 (by kernel_rfl) _ _ rfl B4 _ rfl _ _ hB4 _ d1 ga1 ?_)
    | (with_reducible refine wpList_loadb (by kernel_rfl) 43 _ rfl P7 rfl _ hP7 _ Try.underlying43 (by kernel_rfl) (hz2 _) ?_)
    | (with_reducible refine wpList_loadb (by kernel_rfl) 40 _ rfl R8 rfl C8 hR8 _ Try.underlying40 (by kernel_rfl) (size40C o8.size) ?_)
    | (with_reducible refine wpList_loadb (by kernel_rfl) 40 _ rfl R10 rfl C10 hR10 _ Try.underlying40 (by kernel_rfl) (size40C o10.size) ?_)
    | (with_reducible refine wpList_loadb (by kernel_rfl) 40 _ rfl R12 rfl C12 hR12 _ Try.underlying40 (by kernel_rfl) (size40C o12.size) ?_)
    | (go_at_call 8; (with_reducible refine (few0 _ hk).on ?_ ?_) <;> (intro w1 hq1 hb8; replace hB3 := hB3.next hb8; replace hB4 := hB4.next hb8; replace hk := hk.trans (hb8.mono hk.size); clear hb8))
    | (go_at_call 7; (with_reducible refine (brief_any (l1.next hk)).on ?_ ?_) <;> (intro w4 hq2 hb8; replace hB3 := hB3.next hb8; replace hB4 := hB4.next hb8; replace hk := hk.trans (hb8.mono hk.size); clear hb8))
    | (go_at_call 13; (with_reducible refine (rft _ hk).on ?_ ?_) <;> (intro w5 hq4 hb8; replace hB3 := hB3.next hb8; replace hB4 := hB4.next hb8; replace hk := hk.trans (hb8.mono hk.size); clear hb8))
    | (go_at_call 11; (with_reducible refine (rsound_any (l1.next hk)).on ?_ ?_) <;> (intro w6 hq5 hb8; replace hB3 := hB3.next hb8; replace hB4 := hB4.next hb8; replace hk := hk.trans (hb8.mono hk.size); clear hb8; first | (have hso : soundB x1 = true := hq5.out; have hs0 : Srt X0 := fit_srt hq4.out; have sm0 : Smalls X0 := smalls_of hq1.out hq4.out; have sm1 : Small x1 := small_of hq2.out hq5.out; have hn20 : X0.length ≤ 20 := hq1.out.1; have hn0 : n0 < 1024 := (by rw [← l0.1]; omega); have hn4 : n0 ≤ 4096 := (by omega); have hyy : Hid (a2 ≠ x1.id → y2 = y1) := (by refine (?_ : a2 ≠ x1.id → y2 = y1); intro q; rw [← hy1.out, ← hy2.out, fnd_put_ne hs0 q]); have fx1 := fun {W : World} {a : Option Addr} {n c : Nat} (o : Obs W a n c (puR X0 x1)) => find_w (t := t0) (ke := ke0) (ro := ro0) (i := x1.id) o (srt_put hs0 x1) (by rw [← o.1]; have := puR_len X0 x1; omega) (smalls_put sm0 sm1); have fx2 := fun {W : World} {a : Option Addr} {n c : Nat} (o : Obs W a n c (puR X0 x1)) => find_w (t := t0) (ke := ke0) (ro := ro0) (i := a2) o (srt_put hs0 x1) (by rw [← o.1]; have := puR_len X0 x1; omega) (smalls_put sm0 sm1); simp only [fnd_put hs0 x1, Option.isSome_some, Option.getD_some] at fx1; simp only [hy2.out] at fx2; clear hq1 hq2 hq4 hq5 few0 rft) | skip))
    | (go_at_call 9; (with_reducible refine (aw _).mono ?_); rintro e w9 ⟨rfl, hb8⟩; replace hk := hk.trans (hb8.mono hk.size))
    | (go_at_call 27; (with_reducible refine (pw hk hs0 hn0 sm0 (l1.next hk) sm1).mono ?_); rintro e w7 ⟨aX, nX, cX, rfl, oX, hb8⟩; replace oX := obs_mk oX hb8; replace hB3 := hB3.next hb8; replace hB4 := hB4.next hb8; replace hk := hk.trans (hb8.mono hk.size); clear hb8)
    | ((with_reducible refine wpList_alloc rfl _ rfl zW zero43 ?_); intro P7 W7 hN7 hP7a hk7)
    | ((with_reducible refine wpList_store_blk rfl _ _ _ rfl P7 rfl _ rfl zW hP7a (hz2 _) (hs2 _) (h12 aX nX cX) ?_); intro V7 hP7 q7; have hb8 : Below w7.heap.size w7 V7 := q7.below w7.heap.size w7 (by have := hN7.out; omega) hk7; replace hB3 := hB3.next hb8; replace hB4 := hB4.next hb8; replace oX := obs_next oX hb8; replace hk := hk.trans (hb8.mono hk.size); clear hb8; clear hN7 hP7a hk7 q7)
    | (go_at_call 25; (with_reducible refine (fx1 oX).mono ?_); rintro e w8 ⟨C8, rfl, o8, hb8⟩; replace hB3 := hB3.next hb8; replace hB4 := hB4.next hb8; replace hP7 := hP7.next hb8; replace oX := obs_next oX hb8; replace hk := hk.trans (hb8.mono hk.size); clear hb8)
    | (go_at_call 25; (with_reducible refine (fw hk hs0 hn4 sm0).mono ?_); rintro e w10 ⟨C10, rfl, o10, hb8⟩; replace hB3 := hB3.next hb8; replace hB4 := hB4.next hb8; replace hP7 := hP7.next hb8; replace oX := obs_next oX hb8; replace o8 := o8.next hb8; replace hR8 := hR8.next hb8; replace hk := hk.trans (hb8.mono hk.size); clear hb8)
    | (go_at_call 25; (with_reducible refine (fx2 oX).mono ?_); rintro e w12 ⟨C12, rfl, o12, hb8⟩; replace hB3 := hB3.next hb8; replace hB4 := hB4.next hb8; replace hP7 := hP7.next hb8; replace oX := obs_next oX hb8; replace o8 := o8.next hb8; replace hR8 := hR8.next hb8; replace o10 := o10.next hb8; replace hR10 := hR10.next hb8; replace hk := hk.trans (hb8.mono hk.size); clear hb8)
    | ((with_reducible refine wpList_alloc rfl _ rfl zC zero40 ?_); intro R12 W12 hN12 hR12a hk12; have hx12 := hR10)
    | ((with_reducible refine wpList_alloc rfl _ rfl zC zero40 ?_); intro R10 W10 hN10 hR10a hk10; have hx10 := hR8)
    | ((with_reducible refine wpList_alloc rfl _ rfl zC zero40 ?_); intro R8 W8 hN8 hR8a hk8)
    | ((with_reducible refine wpList_store_blk rfl _ _ _ rfl R8 rfl C8 rfl zC hR8a (size40C o8.size) (zC_size.trans o8.size.symm) o8.one ?_); intro V8 hR8 q8; have hb8 : Below w8.heap.size w8 V8 := q8.below w8.heap.size w8 (by have := hN8.out; omega) hk8; replace hB3 := hB3.next hb8; replace hB4 := hB4.next hb8; replace hP7 := hP7.next hb8; replace oX := obs_next oX hb8; replace o8 := o8.next hb8; replace hk := hk.trans (hb8.mono hk.size); clear hb8; clear hN8 hR8a hk8 q8)
    | ((with_reducible refine wpList_store_blk rfl _ _ _ rfl R10 rfl C10 rfl zC hR10a (size40C o10.size) (zC_size.trans o10.size.symm) o10.one ?_); intro V10 hR10 q10; have hb8 : Below w10.heap.size w10 V10 := q10.below w10.heap.size w10 (by have := hN10.out; omega) hk10; replace hB3 := hB3.next hb8; replace hB4 := hB4.next hb8; replace hP7 := hP7.next hb8; replace oX := obs_next oX hb8; replace o8 := o8.next hb8; replace hR8 := hR8.next hb8; replace o10 := o10.next hb8; replace hk := hk.trans (hb8.mono hk.size); clear hb8; clear hN10 hR10a hk10 q10)
    | ((with_reducible refine wpList_store_blk rfl _ _ _ rfl R12 rfl C12 rfl zC hR12a (size40C o12.size) (zC_size.trans o12.size.symm) o12.one ?_); intro V12 hR12 q12; have hb8 : Below w12.heap.size w12 V12 := q12.below w12.heap.size w12 (by have := hN12.out; omega) hk12; replace hB3 := hB3.next hb8; replace hB4 := hB4.next hb8; replace hP7 := hP7.next hb8; replace oX := obs_next oX hb8; replace o8 := o8.next hb8; replace hR8 := hR8.next hb8; replace o10 := o10.next hb8; replace hR10 := hR10.next hb8; replace o12 := o12.next hb8; replace hk := hk.trans (hb8.mono hk.size); clear hb8; clear hN12 hR12a hk12 q12)
    | (go_at_call 15; (with_reducible refine ((rsameOne_any o8 (l1.next hk)).yes rfl).mono ?_); rintro e w9 ⟨rfl, hb8⟩; replace hB3 := hB3.next hb8; replace hB4 := hB4.next hb8; replace hP7 := hP7.next hb8; replace oX := obs_next oX hb8; replace o8 := o8.next hb8; replace hR8 := hR8.next hb8; replace hk := hk.trans (hb8.mono hk.size); clear hb8)
    | ((with_reducible refine wpList_test (by kernel_rfl) .neq 22 _ _ _ rfl _ _ rfl rfl (neg_int _ _ _ _ _ _) ?_ ?_) <;> intro hqi)
    | ((with_reducible refine wpList_test (by kernel_rfl) .neq 4 _ _ _ rfl _ _ rfl rfl (neg_bool _ _ _ _) ?_ ?_) <;> first | (intro hqb; exfalso; have h9 : ¬ y1.isSome = y2.isSome := hqb.out; exact h9 (by rw [hyy.out hqi.out])) | (intro hqb))
    | (go_at_call 15; (with_reducible refine ((rsameOne_any o10 o12).yes (by rw [hyy.out hqi.out])).mono ?_); rintro e w14 ⟨rfl, hb8⟩; replace hB3 := hB3.next hb8; replace hB4 := hB4.next hb8; replace hP7 := hP7.next hb8; replace oX := obs_next oX hb8; replace o8 := o8.next hb8; replace hR8 := hR8.next hb8; replace o10 := o10.next hb8; replace hR10 := hR10.next hb8; replace o12 := o12.next hb8; replace hR12 := hR12.next hb8; replace hk := hk.trans (hb8.mono hk.size); clear hb8))
  all_goals (try (go_ret; exact ⟨rfl, hk⟩))
  · have fx3 := fun {W : World} {a : Option Addr} {n c : Nat} (o : Obs W a n c (drpL (puR X0 x1) x1.id)) => find_w (t := t0) (ke := ke0) (ro := ro0) (i := x1.id) o (srt_drp (srt_put hs0 x1) x1.id) (by rw [← o.1]; have := puR_len X0 x1; have := drp_len (puR X0 x1) x1.id; omega) (smalls_drp (smalls_put sm0 sm1))
    simp only [fnd_drp, Option.isSome_none, Option.getD_none] at fx3
    have dx := fun {W : World} {a : Option Addr} {n c : Nat} (o : Obs W a n c (puR X0 x1)) => drop_w (t := t0) (ke := ke0) (ro := ro0) (i := x1.id) (D0 := LtN W) (fun _ h => h) o (srt_put hs0 x1) (by rw [← o.1]; have := puR_len X0 x1; omega) (smalls_put sm0 sm1)
    refine PgM.region_out (S := fun W => Blk W P7 #[.int .i64 t0, .int .u64 ke0, .int .u64 ro0, .slice aX nX cX] 43 ∧ Blk W B4 C1 40) hmx ⟨hP7.next (Below.refl _ _).drew, hB4.next (Below.refl _ _).drew⟩ (fun hS => ?_)
    have hkd := (Below.refl w14.heap.size w14).drew
    replace hk := hk.trans (hkd.mono hk.size)
    replace oX := obs_next oX hkd
    replace hB3 := hB3.next hkd
    replace hR10 := hR10.next hkd
    replace o10 := o10.next hkd
    generalize w14.drew = v1 at hS hk oX hB3 hR10 o10 ⊢
    clear hkd hP7 hB4
    refine wpAnyH_sym (by kernel_rfl) (fun _ _ _ _ _ h => h) hS [(0, some (.agg #[.int .i64 t0, .int .u64 ke0, .int .u64 ro0, .slice aX nX cX])), (1, none), (2, some (.int .u64 x1.id)), (4, none), (5, some (.int .u64 x1.id))] (l' := #[true, true, true, false, true, true, false, false, false, false, false, false, false]) (a' := { tmps := #[.agg G0, .agg C1, .int .u64 a2, .pointer (some ⟨B3, 0, none⟩), .pointer (some ⟨B4, 0, none⟩), undef, .bool false, .pointer (some ⟨P7, 0, none⟩), .pointer (some ⟨R8, 0, none⟩), .bool true, .pointer (some ⟨R10, 0, none⟩), .bool y1.isSome, .pointer (some ⟨R12, 0, none⟩), .bool y2.isSome, undef, undef, .agg G0, .bool true, .bool false, .bool false, .agg C1, .bool true, .bool false, .bool false, .bool false, .agg G0, .bool true, .bool false, .bool false, .bool false, .agg C1, .bool true, .bool false, .bool false, undef, .agg G0, .agg C1, .agg #[.int .i64 t0, .int .u64 ke0, .int .u64 ro0, .slice aX nX cX], .tuple #[.agg C8, .bool true], .agg #[.int .i64 t0, .int .u64 ke0, .int .u64 ro0, .slice aX nX cX], .pointer (some ⟨B4, 0, none⟩), .int .u64 x1.id, .tuple #[.agg C8, .bool true], .agg C8, .bool true, .bool true, .bool false, .bool false, .agg C8, .agg C1, .bool true, .bool false, .bool false, .tuple #[.agg C10, .bool y1.isSome], .agg G0, .int .u64 a2, .tuple #[.agg C10, .bool y1.isSome], .agg C10, .bool y1.isSome, .tuple #[.agg C12, .bool y2.isSome], .agg #[.int .i64 t0, .int .u64 ke0, .int .u64 ro0, .slice aX nX cX], .int .u64 a2, .tuple #[.agg C12, .bool y2.isSome], .agg C12, .bool y2.isSome, .int .u64 a2, .pointer (some ⟨B4, 0, none⟩), .int .u64 x1.id, .bool true, .bool true, .bool y1.isSome, .bool y2.isSome, .bool false, .bool false, .agg C10, .agg C12, .bool true, .bool false, .bool false, .bool false, undef, .agg #[.int .i64 t0, .int .u64 ke0, .int .u64 ro0, .slice aX nX cX], .pointer (some ⟨B4, 0, none⟩), .int .u64 x1.id, undef, .pointer (some ⟨B4, 0, none⟩), .int .u64 x1.id, undef, undef, undef, undef, undef, undef, undef, undef, undef, undef, undef, undef, undef, undef, undef, undef, undef, undef, undef, undef, undef, undef, undef, undef, undef, undef], defers := [] }) (obs := [.load 43 P7 0 (.agg #[.int .i64 t0, .int .u64 ke0, .int .u64 ro0, .slice aX nX cX]), .load 22 B4 0 (.int .u64 x1.id), .load 22 B4 0 (.int .u64 x1.id)]) (n := 8) (by kernel_rfl) (by kernel_rfl) ⟨ob_loadb (fun _ h => h.1) Try.underlying43 (by kernel_rfl) (hz2 _), ob_load1 (fun _ h => h.2) d1 Try.isAgg22, ob_load1 (fun _ h => h.2) d1 Try.isAgg22, trivial⟩ ?_
    refine share 2 #[true, true, true, true, true, true, true, true, true, true, true, false, false] (fun A W => ∃ (P14 : Nat) (aE : Option Addr) (nE cE : Nat) (C14 : Array Value), A = { tmps := #[.agg G0, .agg C1, .int .u64 a2, .pointer (some ⟨B3, 0, none⟩), .pointer (some ⟨B4, 0, none⟩), undef, .bool false, .pointer (some ⟨P7, 0, none⟩), .pointer (some ⟨R8, 0, none⟩), .bool true, .pointer (some ⟨R10, 0, none⟩), .bool y1.isSome, .pointer (some ⟨R12, 0, none⟩), .bool y2.isSome, .pointer (some ⟨P14, 0, none⟩), undef, .agg G0, .bool true, .bool false, .bool false, .agg C1, .bool true, .bool false, .bool false, .bool false, .agg G0, .bool true, .bool false, .bool false, .bool false, .agg C1, .bool true, .bool false, .bool false, undef, .agg G0, .agg C1, .agg #[.int .i64 t0, .int .u64 ke0, .int .u64 ro0, .slice aX nX cX], .tuple #[.agg C8, .bool true], .agg #[.int .i64 t0, .int .u64 ke0, .int .u64 ro0, .slice aX nX cX], .pointer (some ⟨B4, 0, none⟩), .int .u64 x1.id, .tuple #[.agg C8, .bool true], .agg C8, .bool true, .bool true, .bool false, .bool false, .agg C8, .agg C1, .bool true, .bool false, .bool false, .tuple #[.agg C10, .bool y1.isSome], .agg G0, .int .u64 a2, .tuple #[.agg C10, .bool y1.isSome], .agg C10, .bool y1.isSome, .tuple #[.agg C12, .bool y2.isSome], .agg #[.int .i64 t0, .int .u64 ke0, .int .u64 ro0, .slice aX nX cX], .int .u64 a2, .tuple #[.agg C12, .bool y2.isSome], .agg C12, .bool y2.isSome, .int .u64 a2, .pointer (some ⟨B4, 0, none⟩), .int .u64 x1.id, .bool true, .bool true, .bool y1.isSome, .bool y2.isSome, .bool false, .bool false, .agg C10, .agg C12, .bool true, .bool false, .bool false, .bool false, .tuple #[.agg C14, .bool false], .agg #[.int .i64 t0, .int .u64 ke0, .int .u64 ro0, .slice aX nX cX], .pointer (some ⟨B4, 0, none⟩), .int .u64 x1.id, .agg #[.int .i64 t0, .int .u64 ke0, .int .u64 ro0, .slice aE nE cE], .pointer (some ⟨B4, 0, none⟩), .int .u64 x1.id, .tuple #[.agg C14, .bool false], .agg C14, .bool false, undef, undef, undef, undef, undef, undef, undef, undef, undef, undef, undef, undef, undef, undef, undef, undef, undef, undef, undef, undef, undef, undef, undef], defers := [] } ∧ (Blk W P7 #[.int .i64 t0, .int .u64 ke0, .int .u64 ro0, .slice aX nX cX] 43 ∧ Blk W B4 C1 40) ∧ Blk W P14 zC 40 ∧ v1.heap.size ≤ P14 ∧ (C14.size = 51 ∧ C14.all (·.oneCell') = true) ∧ Below v1.heap.size v1 W) ?_ (fun rest => ?_)
    · rintro A W ⟨P14, aE, nE, cE, C14, rfl, hS1, hP14, hgP, hC14, kv⟩
      obtain ⟨W6, hr6, hP146, q6⟩ := run_store_blk hP14 (size40C hC14.1) (zC_size.trans hC14.1.symm) hC14.2
      refine wpAnyH_single (i := 11) (n := 1) rfl (by kernel_rfl) ?_
      refine wpOp_storeL (ty := 40) (B := P14) (off := 0) (v := .agg C14) (d := none) (by kernel_rfl) hr6 ?_
      have hBl : P7 ≠ P14 ∧ B4 ≠ P14 := by have := hS.1.lt; have := hS.2.lt; omega
      have hS6 : Blk W6 P7 #[.int .i64 t0, .int .u64 ke0, .int .u64 ro0, .slice aX nX cX] 43 ∧ Blk W6 B4 C1 40 := ⟨hS1.1.other q6 hBl.1, hS1.2.other q6 hBl.2⟩
      refine ⟨hS6, ?_⟩
      refine wpAnyH_sym (by kernel_rfl) (fun _ _ _ _ _ h => h) hS6 [(12, none)] (l' := #[true, true, true, true, true, true, true, true, true, true, true, true, true]) (a' := { tmps := #[.agg G0, .agg C1, .int .u64 a2, .pointer (some ⟨B3, 0, none⟩), .pointer (some ⟨B4, 0, none⟩), undef, .bool false, .pointer (some ⟨P7, 0, none⟩), .pointer (some ⟨R8, 0, none⟩), .bool true, .pointer (some ⟨R10, 0, none⟩), .bool y1.isSome, .pointer (some ⟨R12, 0, none⟩), .bool y2.isSome, .pointer (some ⟨P14, 0, none⟩), .bool false, .agg G0, .bool true, .bool false, .bool false, .agg C1, .bool true, .bool false, .bool false, .bool false, .agg G0, .bool true, .bool false, .bool false, .bool false, .agg C1, .bool true, .bool false, .bool false, undef, .agg G0, .agg C1, .agg #[.int .i64 t0, .int .u64 ke0, .int .u64 ro0, .slice aX nX cX], .tuple #[.agg C8, .bool true], .agg #[.int .i64 t0, .int .u64 ke0, .int .u64 ro0, .slice aX nX cX], .pointer (some ⟨B4, 0, none⟩), .int .u64 x1.id, .tuple #[.agg C8, .bool true], .agg C8, .bool true, .bool true, .bool false, .bool false, .agg C8, .agg C1, .bool true, .bool false, .bool false, .tuple #[.agg C10, .bool y1.isSome], .agg G0, .int .u64 a2, .tuple #[.agg C10, .bool y1.isSome], .agg C10, .bool y1.isSome, .tuple #[.agg C12, .bool y2.isSome], .agg #[.int .i64 t0, .int .u64 ke0, .int .u64 ro0, .slice aX nX cX], .int .u64 a2, .tuple #[.agg C12, .bool y2.isSome], .agg C12, .bool y2.isSome, .int .u64 a2, .pointer (some ⟨B4, 0, none⟩), .int .u64 x1.id, .bool true, .bool true, .bool y1.isSome, .bool y2.isSome, .bool false, .bool false, .agg C10, .agg C12, .bool true, .bool false, .bool false, .bool false, .tuple #[.agg C14, .bool false], .agg #[.int .i64 t0, .int .u64 ke0, .int .u64 ro0, .slice aX nX cX], .pointer (some ⟨B4, 0, none⟩), .int .u64 x1.id, .agg #[.int .i64 t0, .int .u64 ke0, .int .u64 ro0, .slice aE nE cE], .pointer (some ⟨B4, 0, none⟩), .int .u64 x1.id, .tuple #[.agg C14, .bool false], .agg C14, .bool false, undef, undef, undef, undef, undef, undef, undef, undef, undef, undef, undef, undef, undef, undef, undef, undef, undef, undef, undef, undef, undef, undef, undef], defers := [] }) (obs := []) (n := 0) (by kernel_rfl) (by kernel_rfl) trivial ?_
      refine wpAnyH_done (by kernel_rfl) ?_ _
      have kv6 := q6.below _ _ hgP kv
      have hk6 := hk.trans (kv6.mono hk.size)
      replace hB3 := hB3.next kv6
      replace hR10 := hR10.next kv6
      replace o10 := o10.next kv6
      clear hS hS1 hS6 hP14 hP146 hr6 q6 kv kv6 hk hBl hgP hC14 fx1 fx2 fx3 dx fw oX hyy hy2
      have hk := hk6
      clear hk6
      cases y1 with
      | none =>
        have hz10 := o10.size
        go_wp2
        refine PgM.region_out (S := fun W => Blk W B3 G0 43 ∧ Blk W R10 C10 40) hmx ⟨hB3.next (Below.refl _ _).drew, hR10.next (Below.refl _ _).drew⟩ (fun hS => ?_)
        have hkd := (Below.refl W6.heap.size W6).drew
        replace hk := hk.trans (hkd.mono hk.size)
        replace o10 := o10.next hkd
        generalize W6.drew = v2 at hS hk o10 ⊢
        clear hkd hB3 hR10
        refine wpAnyH_sym (by kernel_rfl) (fun _ _ _ _ _ h => h) hS [(0, none), (1, none), (2, none), (3, none), (4, none), (5, none), (6, none), (7, none), (8, none), (9, none), (10, none), (11, none), (12, some (.agg G0)), (13, none), (15, some (.agg G0))] (l' := #[true, true, true, true, true, true, true, true, true, true, true, true, true, true, false, true, false, false, false, false, false, false, false]) (a' := { tmps := #[.agg G0, .agg C1, .int .u64 a2, .pointer (some ⟨B3, 0, none⟩), .pointer (some ⟨B4, 0, none⟩), undef, .bool false, .pointer (some ⟨P7, 0, none⟩), .pointer (some ⟨R8, 0, none⟩), .bool true, .pointer (some ⟨R10, 0, none⟩), .bool false, .pointer (some ⟨R12, 0, none⟩), .bool y2.isSome, .pointer (some ⟨P14, 0, none⟩), .bool false, .agg G0, .bool true, .bool false, .bool false, .agg C1, .bool true, .bool false, .bool false, .bool false, .agg G0, .bool true, .bool false, .bool false, .bool false, .agg C1, .bool true, .bool false, .bool false, undef, .agg G0, .agg C1, .agg #[.int .i64 t0, .int .u64 ke0, .int .u64 ro0, .slice aX nX cX], .tuple #[.agg C8, .bool true], .agg #[.int .i64 t0, .int .u64 ke0, .int .u64 ro0, .slice aX nX cX], .pointer (some ⟨B4, 0, none⟩), .int .u64 x1.id, .tuple #[.agg C8, .bool true], .agg C8, .bool true, .bool true, .bool false, .bool false, .agg C8, .agg C1, .bool true, .bool false, .bool false, .tuple #[.agg C10, .bool false], .agg G0, .int .u64 a2, .tuple #[.agg C10, .bool false], .agg C10, .bool false, .tuple #[.agg C12, .bool y2.isSome], .agg #[.int .i64 t0, .int .u64 ke0, .int .u64 ro0, .slice aX nX cX], .int .u64 a2, .tuple #[.agg C12, .bool y2.isSome], .agg C12, .bool y2.isSome, .int .u64 a2, .pointer (some ⟨B4, 0, none⟩), .int .u64 x1.id, .bool true, .bool true, .bool false, .bool y2.isSome, .bool false, .bool false, .agg C10, .agg C12, .bool true, .bool false, .bool false, .bool false, .tuple #[.agg C14, .bool false], .agg #[.int .i64 t0, .int .u64 ke0, .int .u64 ro0, .slice aX nX cX], .pointer (some ⟨B4, 0, none⟩), .int .u64 x1.id, .agg #[.int .i64 t0, .int .u64 ke0, .int .u64 ro0, .slice aE nE cE], .pointer (some ⟨B4, 0, none⟩), .int .u64 x1.id, .tuple #[.agg C14, .bool false], .agg C14, .bool false, .bool false, .bool false, .bool true, .bool true, undef, undef, undef, undef, undef, .bool true, .bool true, .bool false, .bool false, .agg G0, .int .u64 a2, undef, .agg G0, undef, undef, undef, undef, undef, undef], defers := [] }) (obs := [.load 43 B3 0 (.agg G0), .load 43 B3 0 (.agg G0)]) (n := 8) (by kernel_rfl) (by kernel_rfl) ⟨ob_loadb (fun _ h => h.1) Try.underlying43 (by kernel_rfl) zg0, ob_loadb (fun _ h => h.1) Try.underlying43 (by kernel_rfl) zg0, trivial⟩ ?_
        refine wpAnyH_callL (i := 14) (fuel := 7) (f := 28) (vs := [.agg G0, .int .u64 a2]) (d := some 105) (by kernel_rfl) (by kernel_rfl) (by kernel_rfl) Try.call28 (dw hk hs0 hn0 sm0) ?_
        rintro e v60 ⟨aZ, nZ, cZ, rfl, oZ, hb60⟩
        refine ⟨_, rfl, ⟨hS.1.next hb60, hS.2.next hb60⟩, ?_⟩
        replace hS : Blk v60 B3 G0 43 ∧ Blk v60 R10 C10 40 := ⟨hS.1.next hb60, hS.2.next hb60⟩
        replace hk := hk.trans (hb60.mono hk.size)
        replace o10 := o10.next hb60
        replace oZ := obs_mk oZ hb60
        clear hb60
        refine wpAnyH_callL (i := 16) (fuel := 6) (f := 17) (vs := [.agg #[.int .i64 t0, .int .u64 ke0, .int .u64 ro0, .slice aZ nZ cZ], .agg G0]) (d := some 107) (by kernel_rfl) (by kernel_rfl) (by kernel_rfl) Try.call17 ((rsm oZ hk).sure (by rw [drp_none hs0 hy1.out])) ?_
        rintro e v61 ⟨rfl, hb61⟩
        refine ⟨_, rfl, ⟨hS.1.next hb61, hS.2.next hb61⟩, ?_⟩
        replace hS : Blk v61 B3 G0 43 ∧ Blk v61 R10 C10 40 := ⟨hS.1.next hb61, hS.2.next hb61⟩
        replace hk := hk.trans (hb61.mono hk.size)
        replace oZ := obs_next oZ hb61
        replace o10 := o10.next hb61
        clear hb61
        refine wpAnyH_sym (by kernel_rfl) (fun _ _ _ _ _ h => h) hS [(17, none), (18, none), (19, none)] (l' := #[true, true, true, true, true, true, true, true, true, true, true, true, true, true, true, true, true, true, true, true, false, false, false]) (a' := { tmps := #[.agg G0, .agg C1, .int .u64 a2, .pointer (some ⟨B3, 0, none⟩), .pointer (some ⟨B4, 0, none⟩), undef, .bool false, .pointer (some ⟨P7, 0, none⟩), .pointer (some ⟨R8, 0, none⟩), .bool true, .pointer (some ⟨R10, 0, none⟩), .bool false, .pointer (some ⟨R12, 0, none⟩), .bool y2.isSome, .pointer (some ⟨P14, 0, none⟩), .bool false, .agg G0, .bool true, .bool false, .bool false, .agg C1, .bool true, .bool false, .bool false, .bool false, .agg G0, .bool true, .bool false, .bool false, .bool false, .agg C1, .bool true, .bool false, .bool false, undef, .agg G0, .agg C1, .agg #[.int .i64 t0, .int .u64 ke0, .int .u64 ro0, .slice aX nX cX], .tuple #[.agg C8, .bool true], .agg #[.int .i64 t0, .int .u64 ke0, .int .u64 ro0, .slice aX nX cX], .pointer (some ⟨B4, 0, none⟩), .int .u64 x1.id, .tuple #[.agg C8, .bool true], .agg C8, .bool true, .bool true, .bool false, .bool false, .agg C8, .agg C1, .bool true, .bool false, .bool false, .tuple #[.agg C10, .bool false], .agg G0, .int .u64 a2, .tuple #[.agg C10, .bool false], .agg C10, .bool false, .tuple #[.agg C12, .bool y2.isSome], .agg #[.int .i64 t0, .int .u64 ke0, .int .u64 ro0, .slice aX nX cX], .int .u64 a2, .tuple #[.agg C12, .bool y2.isSome], .agg C12, .bool y2.isSome, .int .u64 a2, .pointer (some ⟨B4, 0, none⟩), .int .u64 x1.id, .bool true, .bool true, .bool false, .bool y2.isSome, .bool false, .bool false, .agg C10, .agg C12, .bool true, .bool false, .bool false, .bool false, .tuple #[.agg C14, .bool false], .agg #[.int .i64 t0, .int .u64 ke0, .int .u64 ro0, .slice aX nX cX], .pointer (some ⟨B4, 0, none⟩), .int .u64 x1.id, .agg #[.int .i64 t0, .int .u64 ke0, .int .u64 ro0, .slice aE nE cE], .pointer (some ⟨B4, 0, none⟩), .int .u64 x1.id, .tuple #[.agg C14, .bool false], .agg C14, .bool false, .bool false, .bool false, .bool true, .bool true, undef, undef, undef, undef, undef, .bool true, .bool true, .bool false, .bool false, .agg G0, .int .u64 a2, .agg #[.int .i64 t0, .int .u64 ke0, .int .u64 ro0, .slice aZ nZ cZ], .agg G0, .bool true, .bool true, .bool true, .bool true, undef, undef], defers := [] }) (obs := []) (n := 3) (by kernel_rfl) (by kernel_rfl) trivial ?_
        refine wpAnyH_callL (i := 20) (fuel := 2) (f := 9) (vs := []) (d := some 111) (by kernel_rfl) (by kernel_rfl) (by kernel_rfl) Try.call9 (aw _) ?_
        rintro e v62 ⟨rfl, hb62⟩
        refine ⟨_, rfl, ⟨hS.1.next hb62, hS.2.next hb62⟩, ?_⟩
        replace hS : Blk v62 B3 G0 43 ∧ Blk v62 R10 C10 40 := ⟨hS.1.next hb62, hS.2.next hb62⟩
        replace hk := hk.trans (hb62.mono hk.size)
        replace oZ := obs_next oZ hb62
        replace o10 := o10.next hb62
        clear hb62
        refine wpAnyH_sym (by kernel_rfl) (fun _ _ _ _ _ h => h) hS [(21, none), (22, none)] (l' := #[true, true, true, true, true, true, true, true, true, true, true, true, true, true, true, true, true, true, true, true, true, true, true]) (a' := { tmps := #[.agg G0, .agg C1, .int .u64 a2, .pointer (some ⟨B3, 0, none⟩), .pointer (some ⟨B4, 0, none⟩), undef, .bool true, .pointer (some ⟨P7, 0, none⟩), .pointer (some ⟨R8, 0, none⟩), .bool true, .pointer (some ⟨R10, 0, none⟩), .bool false, .pointer (some ⟨R12, 0, none⟩), .bool y2.isSome, .pointer (some ⟨P14, 0, none⟩), .bool false, .agg G0, .bool true, .bool false, .bool false, .agg C1, .bool true, .bool false, .bool false, .bool false, .agg G0, .bool true, .bool false, .bool false, .bool false, .agg C1, .bool true, .bool false, .bool false, undef, .agg G0, .agg C1, .agg #[.int .i64 t0, .int .u64 ke0, .int .u64 ro0, .slice aX nX cX], .tuple #[.agg C8, .bool true], .agg #[.int .i64 t0, .int .u64 ke0, .int .u64 ro0, .slice aX nX cX], .pointer (some ⟨B4, 0, none⟩), .int .u64 x1.id, .tuple #[.agg C8, .bool true], .agg C8, .bool true, .bool true, .bool false, .bool false, .agg C8, .agg C1, .bool true, .bool false, .bool false, .tuple #[.agg C10, .bool false], .agg G0, .int .u64 a2, .tuple #[.agg C10, .bool false], .agg C10, .bool false, .tuple #[.agg C12, .bool y2.isSome], .agg #[.int .i64 t0, .int .u64 ke0, .int .u64 ro0, .slice aX nX cX], .int .u64 a2, .tuple #[.agg C12, .bool y2.isSome], .agg C12, .bool y2.isSome, .int .u64 a2, .pointer (some ⟨B4, 0, none⟩), .int .u64 x1.id, .bool true, .bool true, .bool false, .bool y2.isSome, .bool false, .bool false, .agg C10, .agg C12, .bool true, .bool false, .bool false, .bool false, .tuple #[.agg C14, .bool false], .agg #[.int .i64 t0, .int .u64 ke0, .int .u64 ro0, .slice aX nX cX], .pointer (some ⟨B4, 0, none⟩), .int .u64 x1.id, .agg #[.int .i64 t0, .int .u64 ke0, .int .u64 ro0, .slice aE nE cE], .pointer (some ⟨B4, 0, none⟩), .int .u64 x1.id, .tuple #[.agg C14, .bool false], .agg C14, .bool false, .bool false, .bool false, .bool true, .bool true, undef, undef, undef, undef, undef, .bool true, .bool true, .bool false, .bool false, .agg G0, .int .u64 a2, .agg #[.int .i64 t0, .int .u64 ke0, .int .u64 ro0, .slice aZ nZ cZ], .agg G0, .bool true, .bool true, .bool true, .bool true, .bool true, .bool true], defers := [] }) (obs := []) (n := 0) (by kernel_rfl) (by kernel_rfl) trivial ?_
        refine wpAnyH_done (by kernel_rfl) ?_ _
        go_wp2
        go_ret
        exact ⟨rfl, hk⟩
      | some y =>
        simp only [Option.getD_some] at o10
        have hz10 := o10.size
        go_wp2
        refine PgM.region_out (S := fun W => Blk W B3 G0 43 ∧ Blk W R10 C10 40) hmx ⟨hB3.next (Below.refl _ _).drew, hR10.next (Below.refl _ _).drew⟩ (fun hS => ?_)
        have hkd := (Below.refl W6.heap.size W6).drew
        replace hk := hk.trans (hkd.mono hk.size)
        replace o10 := o10.next hkd
        generalize W6.drew = v2 at hS hk o10 ⊢
        clear hkd hB3 hR10
        refine wpAnyH_sym (by kernel_rfl) (fun _ _ _ _ _ h => h) hS [(0, none), (1, none), (2, none), (3, some (.agg G0)), (4, some (.agg C10)), (6, some (.agg G0))] (l' := #[true, true, true, true, true, false, true, false, false, false, false, false, false, false, false, false, false, false, false, false, false, false, false]) (a' := { tmps := #[.agg G0, .agg C1, .int .u64 a2, .pointer (some ⟨B3, 0, none⟩), .pointer (some ⟨B4, 0, none⟩), undef, .bool false, .pointer (some ⟨P7, 0, none⟩), .pointer (some ⟨R8, 0, none⟩), .bool true, .pointer (some ⟨R10, 0, none⟩), .bool true, .pointer (some ⟨R12, 0, none⟩), .bool y2.isSome, .pointer (some ⟨P14, 0, none⟩), .bool false, .agg G0, .bool true, .bool false, .bool false, .agg C1, .bool true, .bool false, .bool false, .bool false, .agg G0, .bool true, .bool false, .bool false, .bool false, .agg C1, .bool true, .bool false, .bool false, undef, .agg G0, .agg C1, .agg #[.int .i64 t0, .int .u64 ke0, .int .u64 ro0, .slice aX nX cX], .tuple #[.agg C8, .bool true], .agg #[.int .i64 t0, .int .u64 ke0, .int .u64 ro0, .slice aX nX cX], .pointer (some ⟨B4, 0, none⟩), .int .u64 x1.id, .tuple #[.agg C8, .bool true], .agg C8, .bool true, .bool true, .bool false, .bool false, .agg C8, .agg C1, .bool true, .bool false, .bool false, .tuple #[.agg C10, .bool true], .agg G0, .int .u64 a2, .tuple #[.agg C10, .bool true], .agg C10, .bool true, .tuple #[.agg C12, .bool y2.isSome], .agg #[.int .i64 t0, .int .u64 ke0, .int .u64 ro0, .slice aX nX cX], .int .u64 a2, .tuple #[.agg C12, .bool y2.isSome], .agg C12, .bool y2.isSome, .int .u64 a2, .pointer (some ⟨B4, 0, none⟩), .int .u64 x1.id, .bool true, .bool true, .bool true, .bool y2.isSome, .bool false, .bool false, .agg C10, .agg C12, .bool true, .bool false, .bool false, .bool false, .tuple #[.agg C14, .bool false], .agg #[.int .i64 t0, .int .u64 ke0, .int .u64 ro0, .slice aX nX cX], .pointer (some ⟨B4, 0, none⟩), .int .u64 x1.id, .agg #[.int .i64 t0, .int .u64 ke0, .int .u64 ro0, .slice aE nE cE], .pointer (some ⟨B4, 0, none⟩), .int .u64 x1.id, .tuple #[.agg C14, .bool false], .agg C14, .bool false, .bool false, .bool true, .bool false, .bool false, .agg G0, .agg C10, undef, .agg G0, undef, undef, undef, undef, undef, undef, undef, undef, undef, undef, undef, undef, undef, undef, undef], defers := [] }) (obs := [.load 43 B3 0 (.agg G0), .load 40 R10 0 (.agg C10), .load 43 B3 0 (.agg G0)]) (n := 17) (by kernel_rfl) (by kernel_rfl) ⟨ob_loadb (fun _ h => h.1) Try.underlying43 (by kernel_rfl) zg0, ob_loadb (fun _ h => h.2) Try.underlying40 (by kernel_rfl) (size40C hz10), ob_loadb (fun _ h => h.1) Try.underlying43 (by kernel_rfl) zg0, trivial⟩ ?_
        have hym := ((fnd_some hs0).1 hy1.out).1
        refine wpAnyH_callL (i := 5) (fuel := 16) (f := 27) (vs := [.agg G0, .agg C10]) (d := some 96) (by kernel_rfl) (by kernel_rfl) (by kernel_rfl) Try.call27 (pw hk hs0 hn0 sm0 o10 (sm0 y hym)) ?_
        rintro e v60 ⟨aZ, nZ, cZ, rfl, oZ, hb60⟩
        refine ⟨_, rfl, ⟨hS.1.next hb60, hS.2.next hb60⟩, ?_⟩
        replace hS : Blk v60 B3 G0 43 ∧ Blk v60 R10 C10 40 := ⟨hS.1.next hb60, hS.2.next hb60⟩
        replace hk := hk.trans (hb60.mono hk.size)
        replace o10 := o10.next hb60
        replace oZ := obs_mk oZ hb60
        clear hb60
        refine wpAnyH_callL (i := 7) (fuel := 15) (f := 17) (vs := [.agg #[.int .i64 t0, .int .u64 ke0, .int .u64 ro0, .slice aZ nZ cZ], .agg G0]) (d := some 98) (by kernel_rfl) (by kernel_rfl) (by kernel_rfl) Try.call17 ((rsm oZ hk).sure (by rw [put_again hs0 hy1.out])) ?_
        rintro e v61 ⟨rfl, hb61⟩
        refine ⟨_, rfl, ⟨hS.1.next hb61, hS.2.next hb61⟩, ?_⟩
        replace hS : Blk v61 B3 G0 43 ∧ Blk v61 R10 C10 40 := ⟨hS.1.next hb61, hS.2.next hb61⟩
        replace hk := hk.trans (hb61.mono hk.size)
        replace oZ := obs_next oZ hb61
        replace o10 := o10.next hb61
        clear hb61
        refine wpAnyH_sym (by kernel_rfl) (fun _ _ _ _ _ h => h) hS [(8, none), (9, none), (10, none), (11, none), (12, none), (13, none), (14, none), (15, none), (16, none), (17, none), (18, none), (19, none)] (l' := #[true, true, true, true, true, true, true, true, true, true, true, true, true, true, true, true, true, true, true, true, false, false, false]) (a' := { tmps := #[.agg G0, .agg C1, .int .u64 a2, .pointer (some ⟨B3, 0, none⟩), .pointer (some ⟨B4, 0, none⟩), undef, .bool false, .pointer (some ⟨P7, 0, none⟩), .pointer (some ⟨R8, 0, none⟩), .bool true, .pointer (some ⟨R10, 0, none⟩), .bool true, .pointer (some ⟨R12, 0, none⟩), .bool y2.isSome, .pointer (some ⟨P14, 0, none⟩), .bool false, .agg G0, .bool true, .bool false, .bool false, .agg C1, .bool true, .bool false, .bool false, .bool false, .agg G0, .bool true, .bool false, .bool false, .bool false, .agg C1, .bool true, .bool false, .bool false, undef, .agg G0, .agg C1, .agg #[.int .i64 t0, .int .u64 ke0, .int .u64 ro0, .slice aX nX cX], .tuple #[.agg C8, .bool true], .agg #[.int .i64 t0, .int .u64 ke0, .int .u64 ro0, .slice aX nX cX], .pointer (some ⟨B4, 0, none⟩), .int .u64 x1.id, .tuple #[.agg C8, .bool true], .agg C8, .bool true, .bool true, .bool false, .bool false, .agg C8, .agg C1, .bool true, .bool false, .bool false, .tuple #[.agg C10, .bool true], .agg G0, .int .u64 a2, .tuple #[.agg C10, .bool true], .agg C10, .bool true, .tuple #[.agg C12, .bool y2.isSome], .agg #[.int .i64 t0, .int .u64 ke0, .int .u64 ro0, .slice aX nX cX], .int .u64 a2, .tuple #[.agg C12, .bool y2.isSome], .agg C12, .bool y2.isSome, .int .u64 a2, .pointer (some ⟨B4, 0, none⟩), .int .u64 x1.id, .bool true, .bool true, .bool true, .bool y2.isSome, .bool false, .bool false, .agg C10, .agg C12, .bool true, .bool false, .bool false, .bool false, .tuple #[.agg C14, .bool false], .agg #[.int .i64 t0, .int .u64 ke0, .int .u64 ro0, .slice aX nX cX], .pointer (some ⟨B4, 0, none⟩), .int .u64 x1.id, .agg #[.int .i64 t0, .int .u64 ke0, .int .u64 ro0, .slice aE nE cE], .pointer (some ⟨B4, 0, none⟩), .int .u64 x1.id, .tuple #[.agg C14, .bool false], .agg C14, .bool false, .bool false, .bool true, .bool false, .bool false, .agg G0, .agg C10, .agg #[.int .i64 t0, .int .u64 ke0, .int .u64 ro0, .slice aZ nZ cZ], .agg G0, .bool true, .bool true, .bool true, .bool true, .bool true, undef, undef, undef, undef, undef, .bool true, .bool true, .bool true, undef, undef], defers := [] }) (obs := []) (n := 3) (by kernel_rfl) (by kernel_rfl) trivial ?_
        refine wpAnyH_callL (i := 20) (fuel := 2) (f := 9) (vs := []) (d := some 111) (by kernel_rfl) (by kernel_rfl) (by kernel_rfl) Try.call9 (aw _) ?_
        rintro e v62 ⟨rfl, hb62⟩
        refine ⟨_, rfl, ⟨hS.1.next hb62, hS.2.next hb62⟩, ?_⟩
        replace hS : Blk v62 B3 G0 43 ∧ Blk v62 R10 C10 40 := ⟨hS.1.next hb62, hS.2.next hb62⟩
        replace hk := hk.trans (hb62.mono hk.size)
        replace oZ := obs_next oZ hb62
        replace o10 := o10.next hb62
        clear hb62
        refine wpAnyH_sym (by kernel_rfl) (fun _ _ _ _ _ h => h) hS [(21, none), (22, none)] (l' := #[true, true, true, true, true, true, true, true, true, true, true, true, true, true, true, true, true, true, true, true, true, true, true]) (a' := { tmps := #[.agg G0, .agg C1, .int .u64 a2, .pointer (some ⟨B3, 0, none⟩), .pointer (some ⟨B4, 0, none⟩), undef, .bool true, .pointer (some ⟨P7, 0, none⟩), .pointer (some ⟨R8, 0, none⟩), .bool true, .pointer (some ⟨R10, 0, none⟩), .bool true, .pointer (some ⟨R12, 0, none⟩), .bool y2.isSome, .pointer (some ⟨P14, 0, none⟩), .bool false, .agg G0, .bool true, .bool false, .bool false, .agg C1, .bool true, .bool false, .bool false, .bool false, .agg G0, .bool true, .bool false, .bool false, .bool false, .agg C1, .bool true, .bool false, .bool false, undef, .agg G0, .agg C1, .agg #[.int .i64 t0, .int .u64 ke0, .int .u64 ro0, .slice aX nX cX], .tuple #[.agg C8, .bool true], .agg #[.int .i64 t0, .int .u64 ke0, .int .u64 ro0, .slice aX nX cX], .pointer (some ⟨B4, 0, none⟩), .int .u64 x1.id, .tuple #[.agg C8, .bool true], .agg C8, .bool true, .bool true, .bool false, .bool false, .agg C8, .agg C1, .bool true, .bool false, .bool false, .tuple #[.agg C10, .bool true], .agg G0, .int .u64 a2, .tuple #[.agg C10, .bool true], .agg C10, .bool true, .tuple #[.agg C12, .bool y2.isSome], .agg #[.int .i64 t0, .int .u64 ke0, .int .u64 ro0, .slice aX nX cX], .int .u64 a2, .tuple #[.agg C12, .bool y2.isSome], .agg C12, .bool y2.isSome, .int .u64 a2, .pointer (some ⟨B4, 0, none⟩), .int .u64 x1.id, .bool true, .bool true, .bool true, .bool y2.isSome, .bool false, .bool false, .agg C10, .agg C12, .bool true, .bool false, .bool false, .bool false, .tuple #[.agg C14, .bool false], .agg #[.int .i64 t0, .int .u64 ke0, .int .u64 ro0, .slice aX nX cX], .pointer (some ⟨B4, 0, none⟩), .int .u64 x1.id, .agg #[.int .i64 t0, .int .u64 ke0, .int .u64 ro0, .slice aE nE cE], .pointer (some ⟨B4, 0, none⟩), .int .u64 x1.id, .tuple #[.agg C14, .bool false], .agg C14, .bool false, .bool false, .bool true, .bool false, .bool false, .agg G0, .agg C10, .agg #[.int .i64 t0, .int .u64 ke0, .int .u64 ro0, .slice aZ nZ cZ], .agg G0, .bool true, .bool true, .bool true, .bool true, .bool true, undef, undef, undef, undef, undef, .bool true, .bool true, .bool true, .bool true, .bool true], defers := [] }) (obs := []) (n := 0) (by kernel_rfl) (by kernel_rfl) trivial ?_
        refine wpAnyH_done (by kernel_rfl) ?_ _
        go_wp2
        go_ret
        exact ⟨rfl, hk⟩
    · refine wpAnyH_two (i := 3) (j := 10) (n := 7) rfl (by kernel_rfl) ?_ ?_
      · refine wpOp_callL (f := 28) (vs := [.agg #[.int .i64 t0, .int .u64 ke0, .int .u64 ro0, .slice aX nX cX], .int .u64 x1.id]) (d := some 84) (by kernel_rfl) Try.call28 (dx (obs_next oX (Below.refl v1.heap.size v1))) ?_
        rintro e z1 ⟨aE, nE, cE, rfl, oE, hb101⟩
        replace oE := obs_mk oE hb101
        have k1 := (Below.refl v1.heap.size v1).trans (hb101.mono (Below.refl v1.heap.size v1).size)
        have hS1 : Blk z1 P7 #[.int .i64 t0, .int .u64 ke0, .int .u64 ro0, .slice aX nX cX] 43 ∧ Blk z1 B4 C1 40 := ⟨hS.1.next hb101, hS.2.next hb101⟩
        refine ⟨_, rfl, hS1, ?_⟩
        refine wpAnyH_two (i := 6) (j := 10) (n := 6) rfl (by kernel_rfl) ?_ ?_
        · refine wpOp_callL (f := 25) (vs := [.agg #[.int .i64 t0, .int .u64 ke0, .int .u64 ro0, .slice aE nE cE], .int .u64 x1.id]) (d := some 87) (by kernel_rfl) Try.call25 (fx3 oE) ?_
          rintro e z2 ⟨C14, rfl, o14, hb102⟩
          have hC14 : C14.size = 51 ∧ C14.all (·.oneCell') = true := ⟨o14.size, o14.one⟩
          have k2 := k1.trans (hb102.mono k1.size)
          have hS2 : Blk z2 P7 #[.int .i64 t0, .int .u64 ke0, .int .u64 ro0, .slice aX nX cX] 43 ∧ Blk z2 B4 C1 40 := ⟨hS1.1.next hb102, hS1.2.next hb102⟩
          refine ⟨_, rfl, hS2, ?_⟩
          refine wpAnyH_pure (by kernel_rfl) (fun _ _ _ _ _ h => h) hS2 [7, 8, 9] (l' := #[true, true, true, true, true, true, true, true, true, true, false, false, false]) (a' := { tmps := #[.agg G0, .agg C1, .int .u64 a2, .pointer (some ⟨B3, 0, none⟩), .pointer (some ⟨B4, 0, none⟩), undef, .bool false, .pointer (some ⟨P7, 0, none⟩), .pointer (some ⟨R8, 0, none⟩), .bool true, .pointer (some ⟨R10, 0, none⟩), .bool y1.isSome, .pointer (some ⟨R12, 0, none⟩), .bool y2.isSome, undef, undef, .agg G0, .bool true, .bool false, .bool false, .agg C1, .bool true, .bool false, .bool false, .bool false, .agg G0, .bool true, .bool false, .bool false, .bool false, .agg C1, .bool true, .bool false, .bool false, undef, .agg G0, .agg C1, .agg #[.int .i64 t0, .int .u64 ke0, .int .u64 ro0, .slice aX nX cX], .tuple #[.agg C8, .bool true], .agg #[.int .i64 t0, .int .u64 ke0, .int .u64 ro0, .slice aX nX cX], .pointer (some ⟨B4, 0, none⟩), .int .u64 x1.id, .tuple #[.agg C8, .bool true], .agg C8, .bool true, .bool true, .bool false, .bool false, .agg C8, .agg C1, .bool true, .bool false, .bool false, .tuple #[.agg C10, .bool y1.isSome], .agg G0, .int .u64 a2, .tuple #[.agg C10, .bool y1.isSome], .agg C10, .bool y1.isSome, .tuple #[.agg C12, .bool y2.isSome], .agg #[.int .i64 t0, .int .u64 ke0, .int .u64 ro0, .slice aX nX cX], .int .u64 a2, .tuple #[.agg C12, .bool y2.isSome], .agg C12, .bool y2.isSome, .int .u64 a2, .pointer (some ⟨B4, 0, none⟩), .int .u64 x1.id, .bool true, .bool true, .bool y1.isSome, .bool y2.isSome, .bool false, .bool false, .agg C10, .agg C12, .bool true, .bool false, .bool false, .bool false, .tuple #[.agg C14, .bool false], .agg #[.int .i64 t0, .int .u64 ke0, .int .u64 ro0, .slice aX nX cX], .pointer (some ⟨B4, 0, none⟩), .int .u64 x1.id, .agg #[.int .i64 t0, .int .u64 ke0, .int .u64 ro0, .slice aE nE cE], .pointer (some ⟨B4, 0, none⟩), .int .u64 x1.id, .tuple #[.agg C14, .bool false], .agg C14, .bool false, undef, undef, undef, undef, undef, undef, undef, undef, undef, undef, undef, undef, undef, undef, undef, undef, undef, undef, undef, undef, undef, undef, undef], defers := [] }) (n := 3) (by kernel_rfl) (by kernel_rfl) ?_
          refine wpAnyH_single (i := 10) (n := 2) rfl (by kernel_rfl) ?_
          refine wpOp_allocL (ty := 40) (z := zC) (d := some 14) (by kernel_rfl) zero40 ?_
          intro P14 z3 hN hP14 hb103
          have hgP : v1.heap.size ≤ P14 := by have := hN.out; have := k2.size; omega
          have k3 := k2.trans (hb103.mono k2.size)
          have hS3 : Blk z3 P7 #[.int .i64 t0, .int .u64 ke0, .int .u64 ro0, .slice aX nX cX] 43 ∧ Blk z3 B4 C1 40 := ⟨hS2.1.next hb103, hS2.2.next hb103⟩
          refine ⟨hS3, ?_⟩
          exact rest _ _ ⟨P14, aE, nE, cE, C14, rfl, hS3, hP14, hgP, hC14, k3⟩
        · refine wpOp_allocL (ty := 40) (z := zC) (d := some 14) (by kernel_rfl) zero40 ?_
          intro P14 z4 hN hP14 hb104
          have hgP : v1.heap.size ≤ P14 := by have := hN.out; have := k1.size; omega
          replace oE := obs_next oE hb104
          have k4 := k1.trans (hb104.mono k1.size)
          have hS4 : Blk z4 P7 #[.int .i64 t0, .int .u64 ke0, .int .u64 ro0, .slice aX nX cX] 43 ∧ Blk z4 B4 C1 40 := ⟨hS1.1.next hb104, hS1.2.next hb104⟩
          refine ⟨hS4, ?_⟩
          refine wpAnyH_single (i := 6) (n := 5) rfl (by kernel_rfl) ?_
          refine wpOp_callL (f := 25) (vs := [.agg #[.int .i64 t0, .int .u64 ke0, .int .u64 ro0, .slice aE nE cE], .int .u64 x1.id]) (d := some 87) (by kernel_rfl) Try.call25 (fx3 oE) ?_
          rintro e z5 ⟨C14, rfl, o14, hb105⟩
          have hC14 : C14.size = 51 ∧ C14.all (·.oneCell') = true := ⟨o14.size, o14.one⟩
          replace hP14 := hP14.next hb105
          have k5 := k4.trans (hb105.mono k4.size)
          have hS5 : Blk z5 P7 #[.int .i64 t0, .int .u64 ke0, .int .u64 ro0, .slice aX nX cX] 43 ∧ Blk z5 B4 C1 40 := ⟨hS4.1.next hb105, hS4.2.next hb105⟩
          refine ⟨_, rfl, hS5, ?_⟩
          refine wpAnyH_pure (by kernel_rfl) (fun _ _ _ _ _ h => h) hS5 [7, 8, 9] (l' := #[true, true, true, true, true, true, true, true, true, true, true, false, false]) (a' := { tmps := #[.agg G0, .agg C1, .int .u64 a2, .pointer (some ⟨B3, 0, none⟩), .pointer (some ⟨B4, 0, none⟩), undef, .bool false, .pointer (some ⟨P7, 0, none⟩), .pointer (some ⟨R8, 0, none⟩), .bool true, .pointer (some ⟨R10, 0, none⟩), .bool y1.isSome, .pointer (some ⟨R12, 0, none⟩), .bool y2.isSome, .pointer (some ⟨P14, 0, none⟩), undef, .agg G0, .bool true, .bool false, .bool false, .agg C1, .bool true, .bool false, .bool false, .bool false, .agg G0, .bool true, .bool false, .bool false, .bool false, .agg C1, .bool true, .bool false, .bool false, undef, .agg G0, .agg C1, .agg #[.int .i64 t0, .int .u64 ke0, .int .u64 ro0, .slice aX nX cX], .tuple #[.agg C8, .bool true], .agg #[.int .i64 t0, .int .u64 ke0, .int .u64 ro0, .slice aX nX cX], .pointer (some ⟨B4, 0, none⟩), .int .u64 x1.id, .tuple #[.agg C8, .bool true], .agg C8, .bool true, .bool true, .bool false, .bool false, .agg C8, .agg C1, .bool true, .bool false, .bool false, .tuple #[.agg C10, .bool y1.isSome], .agg G0, .int .u64 a2, .tuple #[.agg C10, .bool y1.isSome], .agg C10, .bool y1.isSome, .tuple #[.agg C12, .bool y2.isSome], .agg #[.int .i64 t0, .int .u64 ke0, .int .u64 ro0, .slice aX nX cX], .int .u64 a2, .tuple #[.agg C12, .bool y2.isSome], .agg C12, .bool y2.isSome, .int .u64 a2, .pointer (some ⟨B4, 0, none⟩), .int .u64 x1.id, .bool true, .bool true, .bool y1.isSome, .bool y2.isSome, .bool false, .bool false, .agg C10, .agg C12, .bool true, .bool false, .bool false, .bool false, .tuple #[.agg C14, .bool false], .agg #[.int .i64 t0, .int .u64 ke0, .int .u64 ro0, .slice aX nX cX], .pointer (some ⟨B4, 0, none⟩), .int .u64 x1.id, .agg #[.int .i64 t0, .int .u64 ke0, .int .u64 ro0, .slice aE nE cE], .pointer (some ⟨B4, 0, none⟩), .int .u64 x1.id, .tuple #[.agg C14, .bool false], .agg C14, .bool false, undef, undef, undef, undef, undef, undef, undef, undef, undef, undef, undef, undef, undef, undef, undef, undef, undef, undef, undef, undef, undef, undef, undef], defers := [] }) (n := 2) (by kernel_rfl) (by kernel_rfl) ?_
          exact rest _ _ ⟨P14, aE, nE, cE, C14, rfl, hS5, hP14, hgP, hC14, k5⟩
      · refine wpOp_allocL (ty := 40) (z := zC) (d := some 14) (by kernel_rfl) zero40 ?_
        intro P14 z6 hN hP14 hb106
        have hgP : v1.heap.size ≤ P14 := by have := hN.out; have := (Below.refl v1.heap.size v1).size; omega
        have k6 := (Below.refl v1.heap.size v1).trans (hb106.mono (Below.refl v1.heap.size v1).size)
        have hS6 : Blk z6 P7 #[.int .i64 t0, .int .u64 ke0, .int .u64 ro0, .slice aX nX cX] 43 ∧ Blk z6 B4 C1 40 := ⟨hS.1.next hb106, hS.2.next hb106⟩
        refine ⟨hS6, ?_⟩
        refine wpAnyH_single (i := 3) (n := 6) rfl (by kernel_rfl) ?_
        refine wpOp_callL (f := 28) (vs := [.agg #[.int .i64 t0, .int .u64 ke0, .int .u64 ro0, .slice aX nX cX], .int .u64 x1.id]) (d := some 84) (by kernel_rfl) Try.call28 (dx (obs_next oX k6)) ?_
        rintro e z7 ⟨aE, nE, cE, rfl, oE, hb107⟩
        replace oE := obs_mk oE hb107
        replace hP14 := hP14.next hb107
        have k7 := k6.trans (hb107.mono k6.size)
        have hS7 : Blk z7 P7 #[.int .i64 t0, .int .u64 ke0, .int .u64 ro0, .slice aX nX cX] 43 ∧ Blk z7 B4 C1 40 := ⟨hS6.1.next hb107, hS6.2.next hb107⟩
        refine ⟨_, rfl, hS7, ?_⟩
        refine wpAnyH_single (i := 6) (n := 5) rfl (by kernel_rfl) ?_
        refine wpOp_callL (f := 25) (vs := [.agg #[.int .i64 t0, .int .u64 ke0, .int .u64 ro0, .slice aE nE cE], .int .u64 x1.id]) (d := some 87) (by kernel_rfl) Try.call25 (fx3 oE) ?_
        rintro e z8 ⟨C14, rfl, o14, hb108⟩
        have hC14 : C14.size = 51 ∧ C14.all (·.oneCell') = true := ⟨o14.size, o14.one⟩
        replace hP14 := hP14.next hb108
        have k8 := k7.trans (hb108.mono k7.size)
        have hS8 : Blk z8 P7 #[.int .i64 t0, .int .u64 ke0, .int .u64 ro0, .slice aX nX cX] 43 ∧ Blk z8 B4 C1 40 := ⟨hS7.1.next hb108, hS7.2.next hb108⟩
        refine ⟨_, rfl, hS8, ?_⟩
        refine wpAnyH_pure (by kernel_rfl) (fun _ _ _ _ _ h => h) hS8 [7, 8, 9] (l' := #[true, true, true, true, true, true, true, true, true, true, true, false, false]) (a' := { tmps := #[.agg G0, .agg C1, .int .u64 a2, .pointer (some ⟨B3, 0, none⟩), .pointer (some ⟨B4, 0, none⟩), undef, .bool false, .pointer (some ⟨P7, 0, none⟩), .pointer (some ⟨R8, 0, none⟩), .bool true, .pointer (some ⟨R10, 0, none⟩), .bool y1.isSome, .pointer (some ⟨R12, 0, none⟩), .bool y2.isSome, .pointer (some ⟨P14, 0, none⟩), undef, .agg G0, .bool true, .bool false, .bool false, .agg C1, .bool true, .bool false, .bool false, .bool false, .agg G0, .bool true, .bool false, .bool false, .bool false, .agg C1, .bool true, .bool false, .bool false, undef, .agg G0, .agg C1, .agg #[.int .i64 t0, .int .u64 ke0, .int .u64 ro0, .slice aX nX cX], .tuple #[.agg C8, .bool true], .agg #[.int .i64 t0, .int .u64 ke0, .int .u64 ro0, .slice aX nX cX], .pointer (some ⟨B4, 0, none⟩), .int .u64 x1.id, .tuple #[.agg C8, .bool true], .agg C8, .bool true, .bool true, .bool false, .bool false, .agg C8, .agg C1, .bool true, .bool false, .bool false, .tuple #[.agg C10, .bool y1.isSome], .agg G0, .int .u64 a2, .tuple #[.agg C10, .bool y1.isSome], .agg C10, .bool y1.isSome, .tuple #[.agg C12, .bool y2.isSome], .agg #[.int .i64 t0, .int .u64 ke0, .int .u64 ro0, .slice aX nX cX], .int .u64 a2, .tuple #[.agg C12, .bool y2.isSome], .agg C12, .bool y2.isSome, .int .u64 a2, .pointer (some ⟨B4, 0, none⟩), .int .u64 x1.id, .bool true, .bool true, .bool y1.isSome, .bool y2.isSome, .bool false, .bool false, .agg C10, .agg C12, .bool true, .bool false, .bool false, .bool false, .tuple #[.agg C14, .bool false], .agg #[.int .i64 t0, .int .u64 ke0, .int .u64 ro0, .slice aX nX cX], .pointer (some ⟨B4, 0, none⟩), .int .u64 x1.id, .agg #[.int .i64 t0, .int .u64 ke0, .int .u64 ro0, .slice aE nE cE], .pointer (some ⟨B4, 0, none⟩), .int .u64 x1.id, .tuple #[.agg C14, .bool false], .agg C14, .bool false, undef, undef, undef, undef, undef, undef, undef, undef, undef, undef, undef, undef, undef, undef, undef, undef, undef, undef, undef, undef, undef, undef, undef], defers := [] }) (n := 2) (by kernel_rfl) (by kernel_rfl) ?_
        exact rest _ _ ⟨P14, aE, nE, cE, C14, rfl, hS8, hP14, hgP, hC14, k8⟩
  · have fx3 := fun {W : World} {a : Option Addr} {n c : Nat} (o : Obs W a n c (drpL (puR X0 x1) x1.id)) => find_w (t := t0) (ke := ke0) (ro := ro0) (i := x1.id) o (srt_drp (srt_put hs0 x1) x1.id) (by rw [← o.1]; have := puR_len X0 x1; have := drp_len (puR X0 x1) x1.id; omega) (smalls_drp (smalls_put sm0 sm1))
    simp only [fnd_drp, Option.isSome_none, Option.getD_none] at fx3
    have dx := fun {W : World} {a : Option Addr} {n c : Nat} (o : Obs W a n c (puR X0 x1)) => drop_w (t := t0) (ke := ke0) (ro := ro0) (i := x1.id) (D0 := LtN W) (fun _ h => h) o (srt_put hs0 x1) (by rw [← o.1]; have := puR_len X0 x1; omega) (smalls_put sm0 sm1)
    refine PgM.region_out (S := fun W => Blk W P7 #[.int .i64 t0, .int .u64 ke0, .int .u64 ro0, .slice aX nX cX] 43 ∧ Blk W B4 C1 40) hmx ⟨hP7.next (Below.refl _ _).drew, hB4.next (Below.refl _ _).drew⟩ (fun hS => ?_)
    have hkd := (Below.refl V12.heap.size V12).drew
    replace hk := hk.trans (hkd.mono hk.size)
    replace oX := obs_next oX hkd
    replace hB3 := hB3.next hkd
    replace hR10 := hR10.next hkd
    replace o10 := o10.next hkd
    generalize V12.drew = v1 at hS hk oX hB3 hR10 o10 ⊢
    clear hkd hP7 hB4
    refine wpAnyH_sym (by kernel_rfl) (fun _ _ _ _ _ h => h) hS [(0, some (.agg #[.int .i64 t0, .int .u64 ke0, .int .u64 ro0, .slice aX nX cX])), (1, none), (2, some (.int .u64 x1.id)), (4, none), (5, some (.int .u64 x1.id))] (l' := #[true, true, true, false, true, true, false, false, false, false, false, false, false]) (a' := { tmps := #[.agg G0, .agg C1, .int .u64 a2, .pointer (some ⟨B3, 0, none⟩), .pointer (some ⟨B4, 0, none⟩), undef, .bool false, .pointer (some ⟨P7, 0, none⟩), .pointer (some ⟨R8, 0, none⟩), .bool true, .pointer (some ⟨R10, 0, none⟩), .bool y1.isSome, .pointer (some ⟨R12, 0, none⟩), .bool y2.isSome, undef, undef, .agg G0, .bool true, .bool false, .bool false, .agg C1, .bool true, .bool false, .bool false, .bool false, .agg G0, .bool true, .bool false, .bool false, .bool false, .agg C1, .bool true, .bool false, .bool false, undef, .agg G0, .agg C1, .agg #[.int .i64 t0, .int .u64 ke0, .int .u64 ro0, .slice aX nX cX], .tuple #[.agg C8, .bool true], .agg #[.int .i64 t0, .int .u64 ke0, .int .u64 ro0, .slice aX nX cX], .pointer (some ⟨B4, 0, none⟩), .int .u64 x1.id, .tuple #[.agg C8, .bool true], .agg C8, .bool true, .bool true, .bool false, .bool false, .agg C8, .agg C1, .bool true, .bool false, .bool false, .tuple #[.agg C10, .bool y1.isSome], .agg G0, .int .u64 a2, .tuple #[.agg C10, .bool y1.isSome], .agg C10, .bool y1.isSome, .tuple #[.agg C12, .bool y2.isSome], .agg #[.int .i64 t0, .int .u64 ke0, .int .u64 ro0, .slice aX nX cX], .int .u64 a2, .tuple #[.agg C12, .bool y2.isSome], .agg C12, .bool y2.isSome, .int .u64 a2, .pointer (some ⟨B4, 0, none⟩), .int .u64 x1.id, .bool false, .bool false, undef, undef, undef, undef, undef, undef, undef, undef, undef, .bool false, undef, .agg #[.int .i64 t0, .int .u64 ke0, .int .u64 ro0, .slice aX nX cX], .pointer (some ⟨B4, 0, none⟩), .int .u64 x1.id, undef, .pointer (some ⟨B4, 0, none⟩), .int .u64 x1.id, undef, undef, undef, undef, undef, undef, undef, undef, undef, undef, undef, undef, undef, undef, undef, undef, undef, undef, undef, undef, undef, undef, undef, undef, undef, undef], defers := [] }) (obs := [.load 43 P7 0 (.agg #[.int .i64 t0, .int .u64 ke0, .int .u64 ro0, .slice aX nX cX]), .load 22 B4 0 (.int .u64 x1.id), .load 22 B4 0 (.int .u64 x1.id)]) (n := 8) (by kernel_rfl) (by kernel_rfl) ⟨ob_loadb (fun _ h => h.1) Try.underlying43 (by kernel_rfl) (hz2 _), ob_load1 (fun _ h => h.2) d1 Try.isAgg22, ob_load1 (fun _ h => h.2) d1 Try.isAgg22, trivial⟩ ?_
    refine share 2 #[true, true, true, true, true, true, true, true, true, true, true, false, false] (fun A W => ∃ (P14 : Nat) (aE : Option Addr) (nE cE : Nat) (C14 : Array Value), A = { tmps := #[.agg G0, .agg C1, .int .u64 a2, .pointer (some ⟨B3, 0, none⟩), .pointer (some ⟨B4, 0, none⟩), undef, .bool false, .pointer (some ⟨P7, 0, none⟩), .pointer (some ⟨R8, 0, none⟩), .bool true, .pointer (some ⟨R10, 0, none⟩), .bool y1.isSome, .pointer (some ⟨R12, 0, none⟩), .bool y2.isSome, .pointer (some ⟨P14, 0, none⟩), undef, .agg G0, .bool true, .bool false, .bool false, .agg C1, .bool true, .bool false, .bool false, .bool false, .agg G0, .bool true, .bool false, .bool false, .bool false, .agg C1, .bool true, .bool false, .bool false, undef, .agg G0, .agg C1, .agg #[.int .i64 t0, .int .u64 ke0, .int .u64 ro0, .slice aX nX cX], .tuple #[.agg C8, .bool true], .agg #[.int .i64 t0, .int .u64 ke0, .int .u64 ro0, .slice aX nX cX], .pointer (some ⟨B4, 0, none⟩), .int .u64 x1.id, .tuple #[.agg C8, .bool true], .agg C8, .bool true, .bool true, .bool false, .bool false, .agg C8, .agg C1, .bool true, .bool false, .bool false, .tuple #[.agg C10, .bool y1.isSome], .agg G0, .int .u64 a2, .tuple #[.agg C10, .bool y1.isSome], .agg C10, .bool y1.isSome, .tuple #[.agg C12, .bool y2.isSome], .agg #[.int .i64 t0, .int .u64 ke0, .int .u64 ro0, .slice aX nX cX], .int .u64 a2, .tuple #[.agg C12, .bool y2.isSome], .agg C12, .bool y2.isSome, .int .u64 a2, .pointer (some ⟨B4, 0, none⟩), .int .u64 x1.id, .bool false, .bool false, undef, undef, undef, undef, undef, undef, undef, undef, undef, .bool false, .tuple #[.agg C14, .bool false], .agg #[.int .i64 t0, .int .u64 ke0, .int .u64 ro0, .slice aX nX cX], .pointer (some ⟨B4, 0, none⟩), .int .u64 x1.id, .agg #[.int .i64 t0, .int .u64 ke0, .int .u64 ro0, .slice aE nE cE], .pointer (some ⟨B4, 0, none⟩), .int .u64 x1.id, .tuple #[.agg C14, .bool false], .agg C14, .bool false, undef, undef, undef, undef, undef, undef, undef, undef, undef, undef, undef, undef, undef, undef, undef, undef, undef, undef, undef, undef, undef, undef, undef], defers := [] } ∧ (Blk W P7 #[.int .i64 t0, .int .u64 ke0, .int .u64 ro0, .slice aX nX cX] 43 ∧ Blk W B4 C1 40) ∧ Blk W P14 zC 40 ∧ v1.heap.size ≤ P14 ∧ (C14.size = 51 ∧ C14.all (·.oneCell') = true) ∧ Below v1.heap.size v1 W) ?_ (fun rest => ?_)
    · rintro A W ⟨P14, aE, nE, cE, C14, rfl, hS1, hP14, hgP, hC14, kv⟩
      obtain ⟨W6, hr6, hP146, q6⟩ := run_store_blk hP14 (size40C hC14.1) (zC_size.trans hC14.1.symm) hC14.2
      refine wpAnyH_single (i := 11) (n := 1) rfl (by kernel_rfl) ?_
      refine wpOp_storeL (ty := 40) (B := P14) (off := 0) (v := .agg C14) (d := none) (by kernel_rfl) hr6 ?_
      have hBl : P7 ≠ P14 ∧ B4 ≠ P14 := by have := hS.1.lt; have := hS.2.lt; omega
      have hS6 : Blk W6 P7 #[.int .i64 t0, .int .u64 ke0, .int .u64 ro0, .slice aX nX cX] 43 ∧ Blk W6 B4 C1 40 := ⟨hS1.1.other q6 hBl.1, hS1.2.other q6 hBl.2⟩
      refine ⟨hS6, ?_⟩
      refine wpAnyH_sym (by kernel_rfl) (fun _ _ _ _ _ h => h) hS6 [(12, none)] (l' := #[true, true, true, true, true, true, true, true, true, true, true, true, true]) (a' := { tmps := #[.agg G0, .agg C1, .int .u64 a2, .pointer (some ⟨B3, 0, none⟩), .pointer (some ⟨B4, 0, none⟩), undef, .bool false, .pointer (some ⟨P7, 0, none⟩), .pointer (some ⟨R8, 0, none⟩), .bool true, .pointer (some ⟨R10, 0, none⟩), .bool y1.isSome, .pointer (some ⟨R12, 0, none⟩), .bool y2.isSome, .pointer (some ⟨P14, 0, none⟩), .bool false, .agg G0, .bool true, .bool false, .bool false, .agg C1, .bool true, .bool false, .bool false, .bool false, .agg G0, .bool true, .bool false, .bool false, .bool false, .agg C1, .bool true, .bool false, .bool false, undef, .agg G0, .agg C1, .agg #[.int .i64 t0, .int .u64 ke0, .int .u64 ro0, .slice aX nX cX], .tuple #[.agg C8, .bool true], .agg #[.int .i64 t0, .int .u64 ke0, .int .u64 ro0, .slice aX nX cX], .pointer (some ⟨B4, 0, none⟩), .int .u64 x1.id, .tuple #[.agg C8, .bool true], .agg C8, .bool true, .bool true, .bool false, .bool false, .agg C8, .agg C1, .bool true, .bool false, .bool false, .tuple #[.agg C10, .bool y1.isSome], .agg G0, .int .u64 a2, .tuple #[.agg C10, .bool y1.isSome], .agg C10, .bool y1.isSome, .tuple #[.agg C12, .bool y2.isSome], .agg #[.int .i64 t0, .int .u64 ke0, .int .u64 ro0, .slice aX nX cX], .int .u64 a2, .tuple #[.agg C12, .bool y2.isSome], .agg C12, .bool y2.isSome, .int .u64 a2, .pointer (some ⟨B4, 0, none⟩), .int .u64 x1.id, .bool false, .bool false, undef, undef, undef, undef, undef, undef, undef, undef, undef, .bool false, .tuple #[.agg C14, .bool false], .agg #[.int .i64 t0, .int .u64 ke0, .int .u64 ro0, .slice aX nX cX], .pointer (some ⟨B4, 0, none⟩), .int .u64 x1.id, .agg #[.int .i64 t0, .int .u64 ke0, .int .u64 ro0, .slice aE nE cE], .pointer (some ⟨B4, 0, none⟩), .int .u64 x1.id, .tuple #[.agg C14, .bool false], .agg C14, .bool false, undef, undef, undef, undef, undef, undef, undef, undef, undef, undef, undef, undef, undef, undef, undef, undef, undef, undef, undef, undef, undef, undef, undef], defers := [] }) (obs := []) (n := 0) (by kernel_rfl) (by kernel_rfl) trivial ?_
      refine wpAnyH_done (by kernel_rfl) ?_ _
      have kv6 := q6.below _ _ hgP kv
      have hk6 := hk.trans (kv6.mono hk.size)
      replace hB3 := hB3.next kv6
      replace hR10 := hR10.next kv6
      replace o10 := o10.next kv6
      clear hS hS1 hS6 hP14 hP146 hr6 q6 kv kv6 hk hBl hgP hC14 fx1 fx2 fx3 dx fw oX hyy hy2
      have hk := hk6
      clear hk6
      cases y1 with
      | none =>
        have hz10 := o10.size
        go_wp2
        refine PgM.region_out (S := fun W => Blk W B3 G0 43 ∧ Blk W R10 C10 40) hmx ⟨hB3.next (Below.refl _ _).drew, hR10.next (Below.refl _ _).drew⟩ (fun hS => ?_)
        have hkd := (Below.refl W6.heap.size W6).drew
        replace hk := hk.trans (hkd.mono hk.size)
        replace o10 := o10.next hkd
        generalize W6.drew = v2 at hS hk o10 ⊢
        clear hkd hB3 hR10
        refine wpAnyH_sym (by kernel_rfl) (fun _ _ _ _ _ h => h) hS [(0, none), (1, none), (2, none), (3, none), (4, none), (5, none), (6, none), (7, none), (8, none), (9, none), (10, none), (11, none), (12, some (.agg G0)), (13, none), (15, some (.agg G0))] (l' := #[true, true, true, true, true, true, true, true, true, true, true, true, true, true, false, true, false, false, false, false, false, false, false]) (a' := { tmps := #[.agg G0, .agg C1, .int .u64 a2, .pointer (some ⟨B3, 0, none⟩), .pointer (some ⟨B4, 0, none⟩), undef, .bool false, .pointer (some ⟨P7, 0, none⟩), .pointer (some ⟨R8, 0, none⟩), .bool true, .pointer (some ⟨R10, 0, none⟩), .bool false, .pointer (some ⟨R12, 0, none⟩), .bool y2.isSome, .pointer (some ⟨P14, 0, none⟩), .bool false, .agg G0, .bool true, .bool false, .bool false, .agg C1, .bool true, .bool false, .bool false, .bool false, .agg G0, .bool true, .bool false, .bool false, .bool false, .agg C1, .bool true, .bool false, .bool false, undef, .agg G0, .agg C1, .agg #[.int .i64 t0, .int .u64 ke0, .int .u64 ro0, .slice aX nX cX], .tuple #[.agg C8, .bool true], .agg #[.int .i64 t0, .int .u64 ke0, .int .u64 ro0, .slice aX nX cX], .pointer (some ⟨B4, 0, none⟩), .int .u64 x1.id, .tuple #[.agg C8, .bool true], .agg C8, .bool true, .bool true, .bool false, .bool false, .agg C8, .agg C1, .bool true, .bool false, .bool false, .tuple #[.agg C10, .bool false], .agg G0, .int .u64 a2, .tuple #[.agg C10, .bool false], .agg C10, .bool false, .tuple #[.agg C12, .bool y2.isSome], .agg #[.int .i64 t0, .int .u64 ke0, .int .u64 ro0, .slice aX nX cX], .int .u64 a2, .tuple #[.agg C12, .bool y2.isSome], .agg C12, .bool y2.isSome, .int .u64 a2, .pointer (some ⟨B4, 0, none⟩), .int .u64 x1.id, .bool false, .bool false, undef, undef, undef, undef, undef, undef, undef, undef, undef, .bool false, .tuple #[.agg C14, .bool false], .agg #[.int .i64 t0, .int .u64 ke0, .int .u64 ro0, .slice aX nX cX], .pointer (some ⟨B4, 0, none⟩), .int .u64 x1.id, .agg #[.int .i64 t0, .int .u64 ke0, .int .u64 ro0, .slice aE nE cE], .pointer (some ⟨B4, 0, none⟩), .int .u64 x1.id, .tuple #[.agg C14, .bool false], .agg C14, .bool false, .bool false, .bool false, .bool true, .bool true, undef, undef, undef, undef, undef, .bool true, .bool true, .bool false, .bool false, .agg G0, .int .u64 a2, undef, .agg G0, undef, undef, undef, undef, undef, undef], defers := [] }) (obs := [.load 43 B3 0 (.agg G0), .load 43 B3 0 (.agg G0)]) (n := 8) (by kernel_rfl) (by kernel_rfl) ⟨ob_loadb (fun _ h => h.1) Try.underlying43 (by kernel_rfl) zg0, ob_loadb (fun _ h => h.1) Try.underlying43 (by kernel_rfl) zg0, trivial⟩ ?_
        refine wpAnyH_callL (i := 14) (fuel := 7) (f := 28) (vs := [.agg G0, .int .u64 a2]) (d := some 105) (by kernel_rfl) (by kernel_rfl) (by kernel_rfl) Try.call28 (dw hk hs0 hn0 sm0) ?_
        rintro e v60 ⟨aZ, nZ, cZ, rfl, oZ, hb60⟩
        refine ⟨_, rfl, ⟨hS.1.next hb60, hS.2.next hb60⟩, ?_⟩
        replace hS : Blk v60 B3 G0 43 ∧ Blk v60 R10 C10 40 := ⟨hS.1.next hb60, hS.2.next hb60⟩
        replace hk := hk.trans (hb60.mono hk.size)
        replace o10 := o10.next hb60
        replace oZ := obs_mk oZ hb60
        clear hb60
        refine wpAnyH_callL (i := 16) (fuel := 6) (f := 17) (vs := [.agg #[.int .i64 t0, .int .u64 ke0, .int .u64 ro0, .slice aZ nZ cZ], .agg G0]) (d := some 107) (by kernel_rfl) (by kernel_rfl) (by kernel_rfl) Try.call17 ((rsm oZ hk).sure (by rw [drp_none hs0 hy1.out])) ?_
        rintro e v61 ⟨rfl, hb61⟩
        refine ⟨_, rfl, ⟨hS.1.next hb61, hS.2.next hb61⟩, ?_⟩
        replace hS : Blk v61 B3 G0 43 ∧ Blk v61 R10 C10 40 := ⟨hS.1.next hb61, hS.2.next hb61⟩
        replace hk := hk.trans (hb61.mono hk.size)
        replace oZ := obs_next oZ hb61
        replace o10 := o10.next hb61
        clear hb61
        refine wpAnyH_sym (by kernel_rfl) (fun _ _ _ _ _ h => h) hS [(17, none), (18, none), (19, none)] (l' := #[true, true, true, true, true, true, true, true, true, true, true, true, true, true, true, true, true, true, true, true, false, false, false]) (a' := { tmps := #[.agg G0, .agg C1, .int .u64 a2, .pointer (some ⟨B3, 0, none⟩), .pointer (some ⟨B4, 0, none⟩), undef, .bool false, .pointer (some ⟨P7, 0, none⟩), .pointer (some ⟨R8, 0, none⟩), .bool true, .pointer (some ⟨R10, 0, none⟩), .bool false, .pointer (some ⟨R12, 0, none⟩), .bool y2.isSome, .pointer (some ⟨P14, 0, none⟩), .bool false, .agg G0, .bool true, .bool false, .bool false, .agg C1, .bool true, .bool false, .bool false, .bool false, .agg G0, .bool true, .bool false, .bool false, .bool false, .agg C1, .bool true, .bool false, .bool false, undef, .agg G0, .agg C1, .agg #[.int .i64 t0, .int .u64 ke0, .int .u64 ro0, .slice aX nX cX], .tuple #[.agg C8, .bool true], .agg #[.int .i64 t0, .int .u64 ke0, .int .u64 ro0, .slice aX nX cX], .pointer (some ⟨B4, 0, none⟩), .int .u64 x1.id, .tuple #[.agg C8, .bool true], .agg C8, .bool true, .bool true, .bool false, .bool false, .agg C8, .agg C1, .bool true, .bool false, .bool false, .tuple #[.agg C10, .bool false], .agg G0, .int .u64 a2, .tuple #[.agg C10, .bool false], .agg C10, .bool false, .tuple #[.agg C12, .bool y2.isSome], .agg #[.int .i64 t0, .int .u64 ke0, .int .u64 ro0, .slice aX nX cX], .int .u64 a2, .tuple #[.agg C12, .bool y2.isSome], .agg C12, .bool y2.isSome, .int .u64 a2, .pointer (some ⟨B4, 0, none⟩), .int .u64 x1.id, .bool false, .bool false, undef, undef, undef, undef, undef, undef, undef, undef, undef, .bool false, .tuple #[.agg C14, .bool false], .agg #[.int .i64 t0, .int .u64 ke0, .int .u64 ro0, .slice aX nX cX], .pointer (some ⟨B4, 0, none⟩), .int .u64 x1.id, .agg #[.int .i64 t0, .int .u64 ke0, .int .u64 ro0, .slice aE nE cE], .pointer (some ⟨B4, 0, none⟩), .int .u64 x1.id, .tuple #[.agg C14, .bool false], .agg C14, .bool false, .bool false, .bool false, .bool true, .bool true, undef, undef, undef, undef, undef, .bool true, .bool true, .bool false, .bool false, .agg G0, .int .u64 a2, .agg #[.int .i64 t0, .int .u64 ke0, .int .u64 ro0, .slice aZ nZ cZ], .agg G0, .bool true, .bool true, .bool true, .bool true, undef, undef], defers := [] }) (obs := []) (n := 3) (by kernel_rfl) (by kernel_rfl) trivial ?_
        refine wpAnyH_callL (i := 20) (fuel := 2) (f := 9) (vs := []) (d := some 111) (by kernel_rfl) (by kernel_rfl) (by kernel_rfl) Try.call9 (aw _) ?_
        rintro e v62 ⟨rfl, hb62⟩
        refine ⟨_, rfl, ⟨hS.1.next hb62, hS.2.next hb62⟩, ?_⟩
        replace hS : Blk v62 B3 G0 43 ∧ Blk v62 R10 C10 40 := ⟨hS.1.next hb62, hS.2.next hb62⟩
        replace hk := hk.trans (hb62.mono hk.size)
        replace oZ := obs_next oZ hb62
        replace o10 := o10.next hb62
        clear hb62
        refine wpAnyH_sym (by kernel_rfl) (fun _ _ _ _ _ h => h) hS [(21, none), (22, none)] (l' := #[true, true, true, true, true, true, true, true, true, true, true, true, true, true, true, true, true, true, true, true, true, true, true]) (a' := { tmps := #[.agg G0, .agg C1, .int .u64 a2, .pointer (some ⟨B3, 0, none⟩), .pointer (some ⟨B4, 0, none⟩), undef, .bool true, .pointer (some ⟨P7, 0, none⟩), .pointer (some ⟨R8, 0, none⟩), .bool true, .pointer (some ⟨R10, 0, none⟩), .bool false, .pointer (some ⟨R12, 0, none⟩), .bool y2.isSome, .pointer (some ⟨P14, 0, none⟩), .bool false, .agg G0, .bool true, .bool false, .bool false, .agg C1, .bool true, .bool false, .bool false, .bool false, .agg G0, .bool true, .bool false, .bool false, .bool false, .agg C1, .bool true, .bool false, .bool false, undef, .agg G0, .agg C1, .agg #[.int .i64 t0, .int .u64 ke0, .int .u64 ro0, .slice aX nX cX], .tuple #[.agg C8, .bool true], .agg #[.int .i64 t0, .int .u64 ke0, .int .u64 ro0, .slice aX nX cX], .pointer (some ⟨B4, 0, none⟩), .int .u64 x1.id, .tuple #[.agg C8, .bool true], .agg C8, .bool true, .bool true, .bool false, .bool false, .agg C8, .agg C1, .bool true, .bool false, .bool false, .tuple #[.agg C10, .bool false], .agg G0, .int .u64 a2, .tuple #[.agg C10, .bool false], .agg C10, .bool false, .tuple #[.agg C12, .bool y2.isSome], .agg #[.int .i64 t0, .int .u64 ke0, .int .u64 ro0, .slice aX nX cX], .int .u64 a2, .tuple #[.agg C12, .bool y2.isSome], .agg C12, .bool y2.isSome, .int .u64 a2, .pointer (some ⟨B4, 0, none⟩), .int .u64 x1.id, .bool false, .bool false, undef, undef, undef, undef, undef, undef, undef, undef, undef, .bool false, .tuple #[.agg C14, .bool false], .agg #[.int .i64 t0, .int .u64 ke0, .int .u64 ro0, .slice aX nX cX], .pointer (some ⟨B4, 0, none⟩), .int .u64 x1.id, .agg #[.int .i64 t0, .int .u64 ke0, .int .u64 ro0, .slice aE nE cE], .pointer (some ⟨B4, 0, none⟩), .int .u64 x1.id, .tuple #[.agg C14, .bool false], .agg C14, .bool false, .bool false, .bool false, .bool true, .bool true, undef, undef, undef, undef, undef, .bool true, .bool true, .bool false, .bool false, .agg G0, .int .u64 a2, .agg #[.int .i64 t0, .int .u64 ke0, .int .u64 ro0, .slice aZ nZ cZ], .agg G0, .bool true, .bool true, .bool true, .bool true, .bool true, .bool true], defers := [] }) (obs := []) (n := 0) (by kernel_rfl) (by kernel_rfl) trivial ?_
        refine wpAnyH_done (by kernel_rfl) ?_ _
        go_wp2
        go_ret
        exact ⟨rfl, hk⟩
      | some y =>
        simp only [Option.getD_some] at o10
        have hz10 := o10.size
        go_wp2
        refine PgM.region_out (S := fun W => Blk W B3 G0 43 ∧ Blk W R10 C10 40) hmx ⟨hB3.next (Below.refl _ _).drew, hR10.next (Below.refl _ _).drew⟩ (fun hS => ?_)
        have hkd := (Below.refl W6.heap.size W6).drew
        replace hk := hk.trans (hkd.mono hk.size)
        replace o10 := o10.next hkd
        generalize W6.drew = v2 at hS hk o10 ⊢
        clear hkd hB3 hR10
        refine wpAnyH_sym (by kernel_rfl) (fun _ _ _ _ _ h => h) hS [(0, none), (1, none), (2, none), (3, some (.agg G0)), (4, some (.agg C10)), (6, some (.agg G0))] (l' := #[true, true, true, true, true, false, true, false, false, false, false, false, false, false, false, false, false, false, false, false, false, false, false]) (a' := { tmps := #[.agg G0, .agg C1, .int .u64 a2, .pointer (some ⟨B3, 0, none⟩), .pointer (some ⟨B4, 0, none⟩), undef, .bool false, .pointer (some ⟨P7, 0, none⟩), .pointer (some ⟨R8, 0, none⟩), .bool true, .pointer (some ⟨R10, 0, none⟩), .bool true, .pointer (some ⟨R12, 0, none⟩), .bool y2.isSome, .pointer (some ⟨P14, 0, none⟩), .bool false, .agg G0, .bool true, .bool false, .bool false, .agg C1, .bool true, .bool false, .bool false, .bool false, .agg G0, .bool true, .bool false, .bool false, .bool false, .agg C1, .bool true, .bool false, .bool false, undef, .agg G0, .agg C1, .agg #[.int .i64 t0, .int .u64 ke0, .int .u64 ro0, .slice aX nX cX], .tuple #[.agg C8, .bool true], .agg #[.int .i64 t0, .int .u64 ke0, .int .u64 ro0, .slice aX nX cX], .pointer (some ⟨B4, 0, none⟩), .int .u64 x1.id, .tuple #[.agg C8, .bool true], .agg C8, .bool true, .bool true, .bool false, .bool false, .agg C8, .agg C1, .bool true, .bool false, .bool false, .tuple #[.agg C10, .bool true], .agg G0, .int .u64 a2, .tuple #[.agg C10, .bool true], .agg C10, .bool true, .tuple #[.agg C12, .bool y2.isSome], .agg #[.int .i64 t0, .int .u64 ke0, .int .u64 ro0, .slice aX nX cX], .int .u64 a2, .tuple #[.agg C12, .bool y2.isSome], .agg C12, .bool y2.isSome, .int .u64 a2, .pointer (some ⟨B4, 0, none⟩), .int .u64 x1.id, .bool false, .bool false, undef, undef, undef, undef, undef, undef, undef, undef, undef, .bool false, .tuple #[.agg C14, .bool false], .agg #[.int .i64 t0, .int .u64 ke0, .int .u64 ro0, .slice aX nX cX], .pointer (some ⟨B4, 0, none⟩), .int .u64 x1.id, .agg #[.int .i64 t0, .int .u64 ke0, .int .u64 ro0, .slice aE nE cE], .pointer (some ⟨B4, 0, none⟩), .int .u64 x1.id, .tuple #[.agg C14, .bool false], .agg C14, .bool false, .bool false, .bool true, .bool false, .bool false, .agg G0, .agg C10, undef, .agg G0, undef, undef, undef, undef, undef, undef, undef, undef, undef, undef, undef, undef, undef, undef, undef], defers := [] }) (obs := [.load 43 B3 0 (.agg G0), .load 40 R10 0 (.agg C10), .load 43 B3 0 (.agg G0)]) (n := 17) (by kernel_rfl) (by kernel_rfl) ⟨ob_loadb (fun _ h => h.1) Try.underlying43 (by kernel_rfl) zg0, ob_loadb (fun _ h => h.2) Try.underlying40 (by kernel_rfl) (size40C hz10), ob_loadb (fun _ h => h.1) Try.underlying43 (by kernel_rfl) zg0, trivial⟩ ?_
        have hym := ((fnd_some hs0).1 hy1.out).1
        refine wpAnyH_callL (i := 5) (fuel := 16) (f := 27) (vs := [.agg G0, .agg C10]) (d := some 96) (by kernel_rfl) (by kernel_rfl) (by kernel_rfl) Try.call27 (pw hk hs0 hn0 sm0 o10 (sm0 y hym)) ?_
        rintro e v60 ⟨aZ, nZ, cZ, rfl, oZ, hb60⟩
        refine ⟨_, rfl, ⟨hS.1.next hb60, hS.2.next hb60⟩, ?_⟩
        replace hS : Blk v60 B3 G0 43 ∧ Blk v60 R10 C10 40 := ⟨hS.1.next hb60, hS.2.next hb60⟩
        replace hk := hk.trans (hb60.mono hk.size)
        replace o10 := o10.next hb60
        replace oZ := obs_mk oZ hb60
        clear hb60
        refine wpAnyH_callL (i := 7) (fuel := 15) (f := 17) (vs := [.agg #[.int .i64 t0, .int .u64 ke0, .int .u64 ro0, .slice aZ nZ cZ], .agg G0]) (d := some 98) (by kernel_rfl) (by kernel_rfl) (by kernel_rfl) Try.call17 ((rsm oZ hk).sure (by rw [put_again hs0 hy1.out])) ?_
        rintro e v61 ⟨rfl, hb61⟩
        refine ⟨_, rfl, ⟨hS.1.next hb61, hS.2.next hb61⟩, ?_⟩
        replace hS : Blk v61 B3 G0 43 ∧ Blk v61 R10 C10 40 := ⟨hS.1.next hb61, hS.2.next hb61⟩
        replace hk := hk.trans (hb61.mono hk.size)
        replace oZ := obs_next oZ hb61
        replace o10 := o10.next hb61
        clear hb61
        refine wpAnyH_sym (by kernel_rfl) (fun _ _ _ _ _ h => h) hS [(8, none), (9, none), (10, none), (11, none), (12, none), (13, none), (14, none), (15, none), (16, none), (17, none), (18, none), (19, none)] (l' := #[true, true, true, true, true, true, true, true, true, true, true, true, true, true, true, true, true, true, true, true, false, false, false]) (a' := { tmps := #[.agg G0, .agg C1, .int .u64 a2, .pointer (some ⟨B3, 0, none⟩), .pointer (some ⟨B4, 0, none⟩), undef, .bool false, .pointer (some ⟨P7, 0, none⟩), .pointer (some ⟨R8, 0, none⟩), .bool true, .pointer (some ⟨R10, 0, none⟩), .bool true, .pointer (some ⟨R12, 0, none⟩), .bool y2.isSome, .pointer (some ⟨P14, 0, none⟩), .bool false, .agg G0, .bool true, .bool false, .bool false, .agg C1, .bool true, .bool false, .bool false, .bool false, .agg G0, .bool true, .bool false, .bool false, .bool false, .agg C1, .bool true, .bool false, .bool false, undef, .agg G0, .agg C1, .agg #[.int .i64 t0, .int .u64 ke0, .int .u64 ro0, .slice aX nX cX], .tuple #[.agg C8, .bool true], .agg #[.int .i64 t0, .int .u64 ke0, .int .u64 ro0, .slice aX nX cX], .pointer (some ⟨B4, 0, none⟩), .int .u64 x1.id, .tuple #[.agg C8, .bool true], .agg C8, .bool true, .bool true, .bool false, .bool false, .agg C8, .agg C1, .bool true, .bool false, .bool false, .tuple #[.agg C10, .bool true], .agg G0, .int .u64 a2, .tuple #[.agg C10, .bool true], .agg C10, .bool true, .tuple #[.agg C12, .bool y2.isSome], .agg #[.int .i64 t0, .int .u64 ke0, .int .u64 ro0, .slice aX nX cX], .int .u64 a2, .tuple #[.agg C12, .bool y2.isSome], .agg C12, .bool y2.isSome, .int .u64 a2, .pointer (some ⟨B4, 0, none⟩), .int .u64 x1.id, .bool false, .bool false, undef, undef, undef, undef, undef, undef, undef, undef, undef, .bool false, .tuple #[.agg C14, .bool false], .agg #[.int .i64 t0, .int .u64 ke0, .int .u64 ro0, .slice aX nX cX], .pointer (some ⟨B4, 0, none⟩), .int .u64 x1.id, .agg #[.int .i64 t0, .int .u64 ke0, .int .u64 ro0, .slice aE nE cE], .pointer (some ⟨B4, 0, none⟩), .int .u64 x1.id, .tuple #[.agg C14, .bool false], .agg C14, .bool false, .bool false, .bool true, .bool false, .bool false, .agg G0, .agg C10, .agg #[.int .i64 t0, .int .u64 ke0, .int .u64 ro0, .slice aZ nZ cZ], .agg G0, .bool true, .bool true, .bool true, .bool true, .bool true, undef, undef, undef, undef, undef, .bool true, .bool true, .bool true, undef, undef], defers := [] }) (obs := []) (n := 3) (by kernel_rfl) (by kernel_rfl) trivial ?_
        refine wpAnyH_callL (i := 20) (fuel := 2) (f := 9) (vs := []) (d := some 111) (by kernel_rfl) (by kernel_rfl) (by kernel_rfl) Try.call9 (aw _) ?_
        rintro e v62 ⟨rfl, hb62⟩
        refine ⟨_, rfl, ⟨hS.1.next hb62, hS.2.next hb62⟩, ?_⟩
        replace hS : Blk v62 B3 G0 43 ∧ Blk v62 R10 C10 40 := ⟨hS.1.next hb62, hS.2.next hb62⟩
        replace hk := hk.trans (hb62.mono hk.size)
        replace oZ := obs_next oZ hb62
        replace o10 := o10.next hb62
        clear hb62
        refine wpAnyH_sym (by kernel_rfl) (fun _ _ _ _ _ h => h) hS [(21, none), (22, none)] (l' := #[true, true, true, true, true, true, true, true, true, true, true, true, true, true, true, true, true, true, true, true, true, true, true]) (a' := { tmps := #[.agg G0, .agg C1, .int .u64 a2, .pointer (some ⟨B3, 0, none⟩), .pointer (some ⟨B4, 0, none⟩), undef, .bool true, .pointer (some ⟨P7, 0, none⟩), .pointer (some ⟨R8, 0, none⟩), .bool true, .pointer (some ⟨R10, 0, none⟩), .bool true, .pointer (some ⟨R12, 0, none⟩), .bool y2.isSome, .pointer (some ⟨P14, 0, none⟩), .bool false, .agg G0, .bool true, .bool false, .bool false, .agg C1, .bool true, .bool false, .bool false, .bool false, .agg G0, .bool true, .bool false, .bool false, .bool false, .agg C1, .bool true, .bool false, .bool false, undef, .agg G0, .agg C1, .agg #[.int .i64 t0, .int .u64 ke0, .int .u64 ro0, .slice aX nX cX], .tuple #[.agg C8, .bool true], .agg #[.int .i64 t0, .int .u64 ke0, .int .u64 ro0, .slice aX nX cX], .pointer (some ⟨B4, 0, none⟩), .int .u64 x1.id, .tuple #[.agg C8, .bool true], .agg C8, .bool true, .bool true, .bool false, .bool false, .agg C8, .agg C1, .bool true, .bool false, .bool false, .tuple #[.agg C10, .bool true], .agg G0, .int .u64 a2, .tuple #[.agg C10, .bool true], .agg C10, .bool true, .tuple #[.agg C12, .bool y2.isSome], .agg #[.int .i64 t0, .int .u64 ke0, .int .u64 ro0, .slice aX nX cX], .int .u64 a2, .tuple #[.agg C12, .bool y2.isSome], .agg C12, .bool y2.isSome, .int .u64 a2, .pointer (some ⟨B4, 0, none⟩), .int .u64 x1.id, .bool false, .bool false, undef, undef, undef, undef, undef, undef, undef, undef, undef, .bool false, .tuple #[.agg C14, .bool false], .agg #[.int .i64 t0, .int .u64 ke0, .int .u64 ro0, .slice aX nX cX], .pointer (some ⟨B4, 0, none⟩), .int .u64 x1.id, .agg #[.int .i64 t0, .int .u64 ke0, .int .u64 ro0, .slice aE nE cE], .pointer (some ⟨B4, 0, none⟩), .int .u64 x1.id, .tuple #[.agg C14, .bool false], .agg C14, .bool false, .bool false, .bool true, .bool false, .bool false, .agg G0, .agg C10, .agg #[.int .i64 t0, .int .u64 ke0, .int .u64 ro0, .slice aZ nZ cZ], .agg G0, .bool true, .bool true, .bool true, .bool true, .bool true, undef, undef, undef, undef, undef, .bool true, .bool true, .bool true, .bool true, .bool true], defers := [] }) (obs := []) (n := 0) (by kernel_rfl) (by kernel_rfl) trivial ?_
        refine wpAnyH_done (by kernel_rfl) ?_ _
        go_wp2
        go_ret
        exact ⟨rfl, hk⟩
    · refine wpAnyH_two (i := 3) (j := 10) (n := 7) rfl (by kernel_rfl) ?_ ?_
      · refine wpOp_callL (f := 28) (vs := [.agg #[.int .i64 t0, .int .u64 ke0, .int .u64 ro0, .slice aX nX cX], .int .u64 x1.id]) (d := some 84) (by kernel_rfl) Try.call28 (dx (obs_next oX (Below.refl v1.heap.size v1))) ?_
        rintro e z9 ⟨aE, nE, cE, rfl, oE, hb109⟩
        replace oE := obs_mk oE hb109
        have k9 := (Below.refl v1.heap.size v1).trans (hb109.mono (Below.refl v1.heap.size v1).size)
        have hS9 : Blk z9 P7 #[.int .i64 t0, .int .u64 ke0, .int .u64 ro0, .slice aX nX cX] 43 ∧ Blk z9 B4 C1 40 := ⟨hS.1.next hb109, hS.2.next hb109⟩
        refine ⟨_, rfl, hS9, ?_⟩
        refine wpAnyH_two (i := 6) (j := 10) (n := 6) rfl (by kernel_rfl) ?_ ?_
        · refine wpOp_callL (f := 25) (vs := [.agg #[.int .i64 t0, .int .u64 ke0, .int .u64 ro0, .slice aE nE cE], .int .u64 x1.id]) (d := some 87) (by kernel_rfl) Try.call25 (fx3 oE) ?_
          rintro e z10 ⟨C14, rfl, o14, hb110⟩
          have hC14 : C14.size = 51 ∧ C14.all (·.oneCell') = true := ⟨o14.size, o14.one⟩
          have k10 := k9.trans (hb110.mono k9.size)
          have hS10 : Blk z10 P7 #[.int .i64 t0, .int .u64 ke0, .int .u64 ro0, .slice aX nX cX] 43 ∧ Blk z10 B4 C1 40 := ⟨hS9.1.next hb110, hS9.2.next hb110⟩
          refine ⟨_, rfl, hS10, ?_⟩
          refine wpAnyH_pure (by kernel_rfl) (fun _ _ _ _ _ h => h) hS10 [7, 8, 9] (l' := #[true, true, true, true, true, true, true, true, true, true, false, false, false]) (a' := { tmps := #[.agg G0, .agg C1, .int .u64 a2, .pointer (some ⟨B3, 0, none⟩), .pointer (some ⟨B4, 0, none⟩), undef, .bool false, .pointer (some ⟨P7, 0, none⟩), .pointer (some ⟨R8, 0, none⟩), .bool true, .pointer (some ⟨R10, 0, none⟩), .bool y1.isSome, .pointer (some ⟨R12, 0, none⟩), .bool y2.isSome, undef, undef, .agg G0, .bool true, .bool false, .bool false, .agg C1, .bool true, .bool false, .bool false, .bool false, .agg G0, .bool true, .bool false, .bool false, .bool false, .agg C1, .bool true, .bool false, .bool false, undef, .agg G0, .agg C1, .agg #[.int .i64 t0, .int .u64 ke0, .int .u64 ro0, .slice aX nX cX], .tuple #[.agg C8, .bool true], .agg #[.int .i64 t0, .int .u64 ke0, .int .u64 ro0, .slice aX nX cX], .pointer (some ⟨B4, 0, none⟩), .int .u64 x1.id, .tuple #[.agg C8, .bool true], .agg C8, .bool true, .bool true, .bool false, .bool false, .agg C8, .agg C1, .bool true, .bool false, .bool false, .tuple #[.agg C10, .bool y1.isSome], .agg G0, .int .u64 a2, .tuple #[.agg C10, .bool y1.isSome], .agg C10, .bool y1.isSome, .tuple #[.agg C12, .bool y2.isSome], .agg #[.int .i64 t0, .int .u64 ke0, .int .u64 ro0, .slice aX nX cX], .int .u64 a2, .tuple #[.agg C12, .bool y2.isSome], .agg C12, .bool y2.isSome, .int .u64 a2, .pointer (some ⟨B4, 0, none⟩), .int .u64 x1.id, .bool false, .bool false, undef, undef, undef, undef, undef, undef, undef, undef, undef, .bool false, .tuple #[.agg C14, .bool false], .agg #[.int .i64 t0, .int .u64 ke0, .int .u64 ro0, .slice aX nX cX], .pointer (some ⟨B4, 0, none⟩), .int .u64 x1.id, .agg #[.int .i64 t0, .int .u64 ke0, .int .u64 ro0, .slice aE nE cE], .pointer (some ⟨B4, 0, none⟩), .int .u64 x1.id, .tuple #[.agg C14, .bool false], .agg C14, .bool false, undef, undef, undef, undef, undef, undef, undef, undef, undef, undef, undef, undef, undef, undef, undef, undef, undef, undef, undef, undef, undef, undef, undef], defers := [] }) (n := 3) (by kernel_rfl) (by kernel_rfl) ?_
          refine wpAnyH_single (i := 10) (n := 2) rfl (by kernel_rfl) ?_
          refine wpOp_allocL (ty := 40) (z := zC) (d := some 14) (by kernel_rfl) zero40 ?_
          intro P14 z11 hN hP14 hb111
          have hgP : v1.heap.size ≤ P14 := by have := hN.out; have := k10.size; omega
          have k11 := k10.trans (hb111.mono k10.size)
          have hS11 : Blk z11 P7 #[.int .i64 t0, .int .u64 ke0, .int .u64 ro0, .slice aX nX cX] 43 ∧ Blk z11 B4 C1 40 := ⟨hS10.1.next hb111, hS10.2.next hb111⟩
          refine ⟨hS11, ?_⟩
          exact rest _ _ ⟨P14, aE, nE, cE, C14, rfl, hS11, hP14, hgP, hC14, k11⟩
        · refine wpOp_allocL (ty := 40) (z := zC) (d := some 14) (by kernel_rfl) zero40 ?_
          intro P14 z12 hN hP14 hb112
          have hgP : v1.heap.size ≤ P14 := by have := hN.out; have := k9.size; omega
          replace oE := obs_next oE hb112
          have k12 := k9.trans (hb112.mono k9.size)
          have hS12 : Blk z12 P7 #[.int .i64 t0, .int .u64 ke0, .int .u64 ro0, .slice aX nX cX] 43 ∧ Blk z12 B4 C1 40 := ⟨hS9.1.next hb112, hS9.2.next hb112⟩
          refine ⟨hS12, ?_⟩
          refine wpAnyH_single (i := 6) (n := 5) rfl (by kernel_rfl) ?_
          refine wpOp_callL (f := 25) (vs := [.agg #[.int .i64 t0, .int .u64 ke0, .int .u64 ro0, .slice aE nE cE], .int .u64 x1.id]) (d := some 87) (by kernel_rfl) Try.call25 (fx3 oE) ?_
          rintro e z13 ⟨C14, rfl, o14, hb113⟩
          have hC14 : C14.size = 51 ∧ C14.all (·.oneCell') = true := ⟨o14.size, o14.one⟩
          replace hP14 := hP14.next hb113
          have k13 := k12.trans (hb113.mono k12.size)
          have hS13 : Blk z13 P7 #[.int .i64 t0, .int .u64 ke0, .int .u64 ro0, .slice aX nX cX] 43 ∧ Blk z13 B4 C1 40 := ⟨hS12.1.next hb113, hS12.2.next hb113⟩
          refine ⟨_, rfl, hS13, ?_⟩
          refine wpAnyH_pure (by kernel_rfl) (fun _ _ _ _ _ h => h) hS13 [7, 8, 9] (l' := #[true, true, true, true, true, true, true, true, true, true, true, false, false]) (a' := { tmps := #[.agg G0, .agg C1, .int .u64 a2, .pointer (some ⟨B3, 0, none⟩), .pointer (some ⟨B4, 0, none⟩), undef, .bool false, .pointer (some ⟨P7, 0, none⟩), .pointer (some ⟨R8, 0, none⟩), .bool true, .pointer (some ⟨R10, 0, none⟩), .bool y1.isSome, .pointer (some ⟨R12, 0, none⟩), .bool y2.isSome, .pointer (some ⟨P14, 0, none⟩), undef, .agg G0, .bool true, .bool false, .bool false, .agg C1, .bool true, .bool false, .bool false, .bool false, .agg G0, .bool true, .bool false, .bool false, .bool false, .agg C1, .bool true, .bool false, .bool false, undef, .agg G0, .agg C1, .agg #[.int .i64 t0, .int .u64 ke0, .int .u64 ro0, .slice aX nX cX], .tuple #[.agg C8, .bool true], .agg #[.int .i64 t0, .int .u64 ke0, .int .u64 ro0, .slice aX nX cX], .pointer (some ⟨B4, 0, none⟩), .int .u64 x1.id, .tuple #[.agg C8, .bool true], .agg C8, .bool true, .bool true, .bool false, .bool false, .agg C8, .agg C1, .bool true, .bool false, .bool false, .tuple #[.agg C10, .bool y1.isSome], .agg G0, .int .u64 a2, .tuple #[.agg C10, .bool y1.isSome], .agg C10, .bool y1.isSome, .tuple #[.agg C12, .bool y2.isSome], .agg #[.int .i64 t0, .int .u64 ke0, .int .u64 ro0, .slice aX nX cX], .int .u64 a2, .tuple #[.agg C12, .bool y2.isSome], .agg C12, .bool y2.isSome, .int .u64 a2, .pointer (some ⟨B4, 0, none⟩), .int .u64 x1.id, .bool false, .bool false, undef, undef, undef, undef, undef, undef, undef, undef, undef, .bool false, .tuple #[.agg C14, .bool false], .agg #[.int .i64 t0, .int .u64 ke0, .int .u64 ro0, .slice aX nX cX], .pointer (some ⟨B4, 0, none⟩), .int .u64 x1.id, .agg #[.int .i64 t0, .int .u64 ke0, .int .u64 ro0, .slice aE nE cE], .pointer (some ⟨B4, 0, none⟩), .int .u64 x1.id, .tuple #[.agg C14, .bool false], .agg C14, .bool false, undef, undef, undef, undef, undef, undef, undef, undef, undef, undef, undef, undef, undef, undef, undef, undef, undef, undef, undef, undef, undef, undef, undef], defers := [] }) (n := 2) (by kernel_rfl) (by kernel_rfl) ?_
          exact rest _ _ ⟨P14, aE, nE, cE, C14, rfl, hS13, hP14, hgP, hC14, k13⟩
      · refine wpOp_allocL (ty := 40) (z := zC) (d := some 14) (by kernel_rfl) zero40 ?_
        intro P14 z14 hN hP14 hb114
        have hgP : v1.heap.size ≤ P14 := by have := hN.out; have := (Below.refl v1.heap.size v1).size; omega
        have k14 := (Below.refl v1.heap.size v1).trans (hb114.mono (Below.refl v1.heap.size v1).size)
        have hS14 : Blk z14 P7 #[.int .i64 t0, .int .u64 ke0, .int .u64 ro0, .slice aX nX cX] 43 ∧ Blk z14 B4 C1 40 := ⟨hS.1.next hb114, hS.2.next hb114⟩
        refine ⟨hS14, ?_⟩
        refine wpAnyH_single (i := 3) (n := 6) rfl (by kernel_rfl) ?_
        refine wpOp_callL (f := 28) (vs := [.agg #[.int .i64 t0, .int .u64 ke0, .int .u64 ro0, .slice aX nX cX], .int .u64 x1.id]) (d := some 84) (by kernel_rfl) Try.call28 (dx (obs_next oX k14)) ?_
        rintro e z15 ⟨aE, nE, cE, rfl, oE, hb115⟩
        replace oE := obs_mk oE hb115
        replace hP14 := hP14.next hb115
        have k15 := k14.trans (hb115.mono k14.size)
        have hS15 : Blk z15 P7 #[.int .i64 t0, .int .u64 ke0, .int .u64 ro0, .slice aX nX cX] 43 ∧ Blk z15 B4 C1 40 := ⟨hS14.1.next hb115, hS14.2.next hb115⟩
        refine ⟨_, rfl, hS15, ?_⟩
        refine wpAnyH_single (i := 6) (n := 5) rfl (by kernel_rfl) ?_
        refine wpOp_callL (f := 25) (vs := [.agg #[.int .i64 t0, .int .u64 ke0, .int .u64 ro0, .slice aE nE cE], .int .u64 x1.id]) (d := some 87) (by kernel_rfl) Try.call25 (fx3 oE) ?_
        rintro e z16 ⟨C14, rfl, o14, hb116⟩
        have hC14 : C14.size = 51 ∧ C14.all (·.oneCell') = true := ⟨o14.size, o14.one⟩
        replace hP14 := hP14.next hb116
        have k16 := k15.trans (hb116.mono k15.size)
        have hS16 : Blk z16 P7 #[.int .i64 t0, .int .u64 ke0, .int .u64 ro0, .slice aX nX cX] 43 ∧ Blk z16 B4 C1 40 := ⟨hS15.1.next hb116, hS15.2.next hb116⟩
        refine ⟨_, rfl, hS16, ?_⟩
        refine wpAnyH_pure (by kernel_rfl) (fun _ _ _ _ _ h => h) hS16 [7, 8, 9] (l' := #[true, true, true, true, true, true, true, true, true, true, true, false, false]) (a' := { tmps := #[.agg G0, .agg C1, .int .u64 a2, .pointer (some ⟨B3, 0, none⟩), .pointer (some ⟨B4, 0, none⟩), undef, .bool false, .pointer (some ⟨P7, 0, none⟩), .pointer (some ⟨R8, 0, none⟩), .bool true, .pointer (some ⟨R10, 0, none⟩), .bool y1.isSome, .pointer (some ⟨R12, 0, none⟩), .bool y2.isSome, .pointer (some ⟨P14, 0, none⟩), undef, .agg G0, .bool true, .bool false, .bool false, .agg C1, .bool true, .bool false, .bool false, .bool false, .agg G0, .bool true, .bool false, .bool false, .bool false, .agg C1, .bool true, .bool false, .bool false, undef, .agg G0, .agg C1, .agg #[.int .i64 t0, .int .u64 ke0, .int .u64 ro0, .slice aX nX cX], .tuple #[.agg C8, .bool true], .agg #[.int .i64 t0, .int .u64 ke0, .int .u64 ro0, .slice aX nX cX], .pointer (some ⟨B4, 0, none⟩), .int .u64 x1.id, .tuple #[.agg C8, .bool true], .agg C8, .bool true, .bool true, .bool false, .bool false, .agg C8, .agg C1, .bool true, .bool false, .bool false, .tuple #[.agg C10, .bool y1.isSome], .agg G0, .int .u64 a2, .tuple #[.agg C10, .bool y1.isSome], .agg C10, .bool y1.isSome, .tuple #[.agg C12, .bool y2.isSome], .agg #[.int .i64 t0, .int .u64 ke0, .int .u64 ro0, .slice aX nX cX], .int .u64 a2, .tuple #[.agg C12, .bool y2.isSome], .agg C12, .bool y2.isSome, .int .u64 a2, .pointer (some ⟨B4, 0, none⟩), .int .u64 x1.id, .bool false, .bool false, undef, undef, undef, undef, undef, undef, undef, undef, undef, .bool false, .tuple #[.agg C14, .bool false], .agg #[.int .i64 t0, .int .u64 ke0, .int .u64 ro0, .slice aX nX cX], .pointer (some ⟨B4, 0, none⟩), .int .u64 x1.id, .agg #[.int .i64 t0, .int .u64 ke0, .int .u64 ro0, .slice aE nE cE], .pointer (some ⟨B4, 0, none⟩), .int .u64 x1.id, .tuple #[.agg C14, .bool false], .agg C14, .bool false, undef, undef, undef, undef, undef, undef, undef, undef, undef, undef, undef, undef, undef, undef, undef, undef, undef, undef, undef, undef, undef, undef, undef], defers := [] }) (n := 2) (by kernel_rfl) (by kernel_rfl) ?_
        exact rest _ _ ⟨P14, aE, nE, cE, C14, rfl, hS16, hP14, hgP, hC14, k16⟩

set_option maxRecDepth 100000 in
theorem lifted (os : Os) (started : os.Started) (H : Type) (enc : TypeId × Value → H) :
    ReturnsInHanded {} Try.checked os 5 .any (Rows.objFindsSpec.pre6 enc Try.prog Try.f5 Rows.objFindsRow.domain false) (Rows.objFindsSpec.post enc Try.prog Try.f5 false true false false) := by
  refine returnsInHanded_of_change (C := Try.checked) own started (by kernel_rfl) Try.func5
    (ChangeSpec.witness6 (enc := enc) (C := Try.checked) false ⟨#[], #[.agg #[.int .i64 0, .int .u64 0, .int .u64 0, .slice none 0 0], .agg zC, .int .u64 0], []⟩ 8 (by kernel_rfl) (by kernel_rfl) (by kernel_rfl) (by kernel_rfl)) ?_
  intro W base args ds gs before hval0 hW hcnd _
  have hval : ∀ (j : Nat) t v, Try.f5.params[j]? = some t → args[j]? = some v → Value.okWide Try.prog W .any base t v := hval0
  have hW' := hW
  obtain ⟨p, q, hA0, hV, rfl, hfz, hnd⟩ := hW
  have hA : DataW.TrodAll enc Try.prog W 0 (fun _ => true) true Try.f5.params.toList args.toList ds p := hA0
  rw [Try.params5] at hA hval
  obtain ⟨v0, vs0, d0, ds0, p0, q0, hargs, rfl, rfl, h0, r0⟩ := trodAll_cons hA
  obtain ⟨v1, vs1, d1, ds1, p1, q1, rfl, rfl, rfl, h1, r1⟩ := trodAll_cons r0
  obtain ⟨v2, vs2, d2, ds2, p2, q2, rfl, rfl, rfl, h2, r2⟩ := trodAll_cons r1
  obtain ⟨rfl, rfl, rfl⟩ := trodAll_nil r2
  obtain rfl : args = #[v0, v1, v2] := by cases args; simp_all
  obtain ⟨rfl, rfl⟩ := trodVars_none hV
  obtain ⟨t0, ke0, ro0, ao0, n0, cap0, X0, rfl, l0⟩ := world_of_trod (hval 0 43 v0 rfl rfl) h0
  have k0 := h0
  have lt0 : ∀ x ∈ p0, x.block < W.heap.size := by obtain ⟨m, hm⟩ := k0; exact DataW.trod_lt m _ _ _ hm
  obtain ⟨C1, x1, rfl, l1⟩ := obj_of_trod (hval 1 40 v1 rfl rfl) h1
  have k1 := h1
  have lt1 : ∀ x ∈ p1, x.block < W.heap.size := by obtain ⟨m, hm⟩ := k1; exact DataW.trod_lt m _ _ _ hm
  obtain ⟨a2, rfl, rfl, rfl, w2⟩ := open_int Try.underlying22 (hval 2 22 v2 rfl rfl) h2
  clear hA0 hval0
  refine (walk t0 ke0 ro0 ao0 n0 cap0 X0 C1 x1 a2 W l0 l1 w2).mono fun e W' ⟨he, bel⟩ => ?_
  subst he
  exact ⟨_, rfl, _, _, _, [], _, [], hW', trodAll_mk1 (shut_bool Try.underlying4 _), (trodAll_cons_mk (Below.trod laidOut (by kernel_rfl) (of_decide_eq_true (by kernel_rfl)) k0 bel lt0) (trodAll_cons_mk (Below.trod laidOut (by kernel_rfl) (of_decide_eq_true (by kernel_rfl)) k1 bel lt1) (trodAll_cons_mk (shut_int Try.underlying22 w2) trodAll_mk0))), rfl, bel.frame _, fun h => by cases h⟩

theorem over : Rows.objFindsRow.holds Try.pinned (OpenSpec.ofChange Rows.objFindsSpec) :=
  OpenClaim.holds_of_wide 5 Try.f5 rfl rfl rfl rfl rfl rfl rfl ⟨rfl, rfl, rfl, rfl, rfl⟩ rfl rfl rfl rfl rfl (by kernel_rfl) Try.func5 (by kernel_rfl)
    (of_decide_eq_true (by kernel_rfl)) (by unfold Func.isWrapper; first | (rw [if_pos (by decide +kernel)]; kernel_rfl) | (rw [if_neg (by decide +kernel)]; exact ⟨rfl, rfl⟩))
    (fun os started H enc _ => lifted os started H enc)

end objFinds
/-- The statement. -/
theorem objFinds_holds : Rows.ObjFindsSaid :=
  objFinds.over
#print axioms objFinds_holds
end Go.Proofs.Ytfpmkihlfhpgdaa
