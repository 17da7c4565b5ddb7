/-
  PROVED HERE: the object of an id, and worlds with one more or less, are the document's, and stay fit (ObjPuts), over the landed code. No condition.
-/
import Derived.Test.YtfpmkihlfhpgdaaRows
import Derived.Test.YtfpmkihlfhpgdaaObOpen
import Derived.Test.YtfpmkihlfhpgdaaObJ
import Derived.WalkKit
import Derived.ProofKit
import Derived.OpenShut
import Derived.Below
import Derived.ShutString
import Derived.Deep.QuietTactic
namespace Go.Proofs.Ytfpmkihlfhpgdaa
namespace objPuts
open Go.ChangeShapes Go.WideShapes Go.ChangeAt Go.RowKit
open Go.ChangeMaps (open_string shut_string)
set_option linter.unusedVariables false

theorem own : ownKnob Try.prog.godebug = none := by kernel_rfl

set_option maxRecDepth 100000 in
set_option maxHeartbeats 8000000 in
theorem walk (t0 ke0 ro0 : Int) (ao0 : Option Addr) (n0 cap0 : Nat) (X0 : List Ob) (C1 : Array Value) (x1 : Ob) (a2 : Int) (w : World) (l0 : ObsD (LtN w) (LtN w) w ao0 n0 cap0 X0) (l1 : ObD (LtN w) w C1 x1) (w2 : (Lit.int .u64 a2).wf = true) :
    Calls Try.prog 4 #[.agg #[.int .i64 t0, .int .u64 ke0, .int .u64 ro0, .slice ao0 n0 cap0], .agg C1, .int .u64 a2] w fun e w' => e = .returned (.bool true) ∧ Below w.heap.size w w' := by
  have hmx : Try.prog.follows .mixedOrders = true := by kernel_rfl
  have hz1 := l1.size
  have aw := awake_any
  have zg0 : (Try.prog.info? 43).map (·.size) = some (#[.int .i64 t0, .int .u64 ke0, .int .u64 ro0, .slice ao0 n0 cap0] : Array Value).size := size43
  have hz2 : ∀ v, (Try.prog.info? 43).map (·.size) = some (#[.int .i64 t0, .int .u64 ke0, .int .u64 ro0, v] : Array Value).size := fun _ => size43
  have hs2 : ∀ v, zW.size = (#[.int .i64 t0, .int .u64 ke0, .int .u64 ro0, v] : Array Value).size := fun _ => rfl
  have h12 : ∀ ao n cap, (#[.int .i64 t0, .int .u64 ke0, .int .u64 ro0, .slice ao n cap] : Array Value).all (·.oneCell') = true := fun _ _ _ => by kernel_rfl
  have few0 := fun (W : World) (hk : Below w.heap.size w W) => few_any (t := t0) (ke := ke0) (ro := ro0) (obs_next l0 hk)
  have rft := fun (W : World) (hk : Below w.heap.size w W) => rfit_w (t := t0) (ke := ke0) (ro := ro0) (obs_next l0 hk)
  have fw := fun {W : World} (hk : Below w.heap.size w W) (hs : Srt X0) (hn : n0 ≤ 4096) (hm : Smalls X0) => find_w (t := t0) (ke := ke0) (ro := ro0) (i := a2) (obs_next l0 hk) hs hn hm
  have rfw := fun {W : World} (hk : Below w.heap.size w W) (hs : Srt X0) => rfind_w (t := t0) (ke := ke0) (ro := ro0) (i := a2) (obs_next l0 hk) hs
  have pw := fun {W : World} (hk : Below w.heap.size w W) (hs : Srt X0) (hn : n0 < 1024) (hm : Smalls X0) (hxs : Small x1) => put_w (t := t0) (ke := ke0) (ro := ro0) (D0 := LtN w) (fun b hb => Nat.lt_of_lt_of_le hb hk.size) (obsD_next l0 (fun _ h => h) hk) hs hn hm (l1.laterK fun b hb => hk.block b hb) hxs
  have dw := fun {W : World} (hk : Below w.heap.size w W) (hs : Srt X0) (hn : n0 < 1024) (hm : Smalls X0) => drop_w (t := t0) (ke := ke0) (ro := ro0) (i := a2) (D0 := LtN w) (fun b hb => Nat.lt_of_lt_of_le hb hk.size) (obsD_next l0 (fun _ h => h) hk) hs hn hm
  have rpw := fun {W : World} (hk : Below w.heap.size w W) (hs : Srt X0) (hn : n0 < 1024) => rput_w (t := t0) (ke := ke0) (ro := ro0) (obs_next l0 hk) hs hn (l1.next hk)
  have rdw := fun {W : World} (hk : Below w.heap.size w W) (hs : Srt X0) (hn : n0 < 1024) => rdrop_w (t := t0) (ke := ke0) (ro := ro0) (i := a2) (obs_next l0 hk) hs hn
  obtain ⟨G0, hG0⟩ : ∃ G : Array Value, G = #[.int .i64 t0, .int .u64 ke0, .int .u64 ro0, .slice ao0 n0 cap0] := ⟨_, rfl⟩
  rw [← hG0] at zg0 few0 rft fw rfw pw dw rpw rdw
  rw [← hG0]
  clear hG0
  have eql_same : ∀ {S : World → Prop} {x y : Operand} {b : Bool}, Obl.holds Try.prog S (.test .eql 4 x y (.bool b) (.bool b) (.bool true)) := fun {S x y b} w hS => by cases b <;> go_simp
  go_enter Try.func4, Try.ntmps4
  try simp only [List.append]
  go_wp2_with (first
    | go_skip
    | (with_reducible refine wpList_box rfl _ _ rfl G0 rfl ?_; intro B3 W3 hN3 hB3 hk)
    | (with_reducible refine wpList_box rfl _ _ rfl C1 rfl ?_; intro B4 W4 hN4 hB4 hk4; replace hB3 := hB3.next hk4; replace hk := hk.trans (hk4.mono hk.size); clear hN3 hN4 hk4)
    | (with_reducible refine wpList_loadb (by kernel_rfl) 43 _ rfl B3 rfl G0 hB3 _ Try.underlying43 (by kernel_rfl) zg0 ?_)
    | (with_reducible refine wpList_loadb (by kernel_rfl) 40 _ rfl B4 rfl C1 hB4 _ Try.underlying40 (by kernel_rfl) (size40C hz1) ?_)
    | (go_at_call 8; (with_reducible refine (few0 _ hk).on ?_ ?_) <;> (intro w1 hq1 hb8; replace hB3 := hB3.next hb8; replace hB4 := hB4.next hb8; replace hk := hk.trans (hb8.mono hk.size); clear hb8))
    | (go_at_call 7; (with_reducible refine (brief_any (l1.next hk)).on ?_ ?_) <;> (intro w4 hq2 hb8; replace hB3 := hB3.next hb8; replace hB4 := hB4.next hb8; replace hk := hk.trans (hb8.mono hk.size); clear hb8))
    | (go_at_call 13; (with_reducible refine (rft _ hk).on ?_ ?_) <;> (intro w5 hq4 hb8; replace hB3 := hB3.next hb8; replace hB4 := hB4.next hb8; replace hk := hk.trans (hb8.mono hk.size); clear hb8))
    | (go_at_call 11; (with_reducible refine (rsound_any (l1.next hk)).on ?_ ?_) <;> (intro w6 hq5 hb8; replace hB3 := hB3.next hb8; replace hB4 := hB4.next hb8; replace hk := hk.trans (hb8.mono hk.size); clear hb8; first | (have hso : soundB x1 = true := hq5.out; have hs0 : Srt X0 := fit_srt hq4.out; have sm0 : Smalls X0 := smalls_of hq1.out hq4.out; have sm1 : Small x1 := small_of hq2.out hq5.out; have hn20 : X0.length ≤ 20 := hq1.out.1; have hn0 : n0 < 1024 := (by rw [← l0.1]; omega); have hn4 : n0 ≤ 4096 := (by omega)) | skip))
    | (go_at_call 9; (with_reducible refine (aw _).mono ?_); rintro e w9 ⟨rfl, hb8⟩; replace hk := hk.trans (hb8.mono hk.size))
    | (go_at_call 25; (with_reducible refine (fw hk hs0 hn4 sm0).mono ?_); rintro e w7 ⟨C7, rfl, o7, hb8⟩; replace hB3 := hB3.next hb8; replace hB4 := hB4.next hb8; replace hk := hk.trans (hb8.mono hk.size); clear hb8)
    | (go_at_call 26; (with_reducible refine (rfw hk hs0).mono ?_); rintro e w8 ⟨C9, rfl, o9, hb8⟩; replace o7 := o7.next hb8; replace hR7 := hR7.next hb8; replace hB3 := hB3.next hb8; replace hB4 := hB4.next hb8; replace hk := hk.trans (hb8.mono hk.size); clear hb8)
    | ((with_reducible refine wpList_alloc rfl _ rfl zC zero40 ?_); intro R9 W9 hN9 hR9 hk9; have hR7' := hR7.next hk9)
    | ((with_reducible refine wpList_alloc rfl _ rfl zC zero40 ?_); intro R7 W7 hN7 hR7a hk7)
    | ((with_reducible refine wpList_store_blk rfl _ _ _ rfl R7 rfl C7 rfl zC hR7a (size40C o7.size) (zC_size.trans o7.size.symm) o7.one ?_); intro V7 hR7 q7; have hb8 : Below w7.heap.size w7 V7 := q7.below w7.heap.size w7 (by have := hN7.out; omega) hk7; replace o7 := o7.next hb8; replace hB3 := hB3.next hb8; replace hB4 := hB4.next hb8; replace hk := hk.trans (hb8.mono hk.size); clear hb8; clear hN7 hR7a hk7 q7)
    | ((with_reducible refine wpList_store_blk rfl _ _ _ rfl R9 rfl C9 rfl zC hR9 (size40C o9.size) (zC_size.trans o9.size.symm) o9.one ?_); intro V9 hS9 q9; have hb8 : Below w8.heap.size w8 V9 := q9.below w8.heap.size w8 (by have := hN9.out; omega) hk9; replace o7 := o7.next hb8; replace o9 := o9.next hb8; replace hR7 := hR7.next hb8; replace hB3 := hB3.next hb8; replace hB4 := hB4.next hb8; replace hk := hk.trans (hb8.mono hk.size); clear hb8; clear hN9 hR9 hk9 q9 hR7'))
  all_goals (try (go_ret; exact ⟨rfl, hk⟩))
  have hfW := hq4.out
  have hfx : Hid (fitW ⟨t0, ke0, ro0, puR X0 x1⟩ = true) := fit_put hfW (by omega) hso
  have hfd : Hid (fitW ⟨t0, ke0, ro0, drpL X0 a2⟩ = true) := fit_drp a2 hfW
  have hz7 := o7.size
  have hz9 := o9.size
  have hR9 := hS9
  clear hq1 hq2 hq4 hq5 few0 rft fw rfw hso hfW hS9
  refine PgM.region_out (S := fun W => Blk W B3 G0 43 ∧ Blk W B4 C1 40) hmx ⟨hB3.next (Below.refl _ _).drew, hB4.next (Below.refl _ _).drew⟩ (fun hS => ?_)
  have hkd := (Below.refl V9.heap.size V9).drew
  replace hk := hk.trans (hkd.mono hk.size)
  replace o7 := o7.next hkd
  replace o9 := o9.next hkd
  replace hR7 := hR7.next hkd
  replace hR9 := hR9.next hkd
  generalize V9.drew = v1 at hS hk o7 o9 hR7 hR9 ⊢
  clear hkd hB3 hB4
  refine wpAnyH_sym (by kernel_rfl) (fun _ _ _ _ _ h => h) hS [(0, some (.agg G0)), (1, some (.agg C1)), (3, some (.agg G0)), (4, none)] (l' := #[true, true, false, true, true, false, false, false, false, false]) (a' := { tmps := #[.agg G0, .agg C1, .int .u64 a2, .pointer (some ⟨B3, 0, none⟩), .pointer (some ⟨B4, 0, none⟩), undef, .bool false, .pointer (some ⟨R7, 0, none⟩), .bool (fnd X0 a2).isSome, .pointer (some ⟨R9, 0, none⟩), .bool (fnd X0 a2).isSome, undef, undef, .agg G0, .bool true, .bool false, .bool false, .agg C1, .bool true, .bool false, .bool false, .bool false, .agg G0, .bool true, .bool false, .bool false, .bool false, .agg C1, .bool true, .bool false, .bool false, undef, .tuple #[.agg C7, .bool (fnd X0 a2).isSome], .agg G0, .int .u64 a2, .tuple #[.agg C7, .bool (fnd X0 a2).isSome], .agg C7, .bool (fnd X0 a2).isSome, .tuple #[.agg C9, .bool (fnd X0 a2).isSome], .agg G0, .int .u64 a2, .tuple #[.agg C9, .bool (fnd X0 a2).isSome], .agg C9, .bool (fnd X0 a2).isSome, .agg G0, .agg C1, undef, .agg G0, .int .u64 a2, undef, undef, undef, undef, undef, undef, undef, undef, undef, undef, undef, undef, undef, undef, undef, undef, undef, undef, undef, undef, undef, undef, undef, undef, undef, undef, undef, undef, undef, undef, undef, undef, undef, undef], defers := [] }) (obs := [.load 43 B3 0 (.agg G0), .load 40 B4 0 (.agg C1), .load 43 B3 0 (.agg G0)]) (n := 6) (by kernel_rfl) (by kernel_rfl) ⟨ob_loadb (fun _ h => h.1) Try.underlying43 (by kernel_rfl) zg0, ob_loadb (fun _ h => h.2) Try.underlying40 (by kernel_rfl) (size40C hz1), ob_loadb (fun _ h => h.1) Try.underlying43 (by kernel_rfl) zg0, trivial⟩ ?_
  have hwv : w.heap.size ≤ v1.heap.size := hk.size
  refine share 2 #[true, true, true, true, true, true, true, true, false, false] (fun A W => ∃ (P11 P12 : Nat) (aX : Option Addr) (nX cX : Nat) (aY : Option Addr) (nY cY : Nat), A = { tmps := #[.agg G0, .agg C1, .int .u64 a2, .pointer (some ⟨B3, 0, none⟩), .pointer (some ⟨B4, 0, none⟩), undef, .bool false, .pointer (some ⟨R7, 0, none⟩), .bool (fnd X0 a2).isSome, .pointer (some ⟨R9, 0, none⟩), .bool (fnd X0 a2).isSome, .pointer (some ⟨P11, 0, none⟩), .pointer (some ⟨P12, 0, none⟩), .agg G0, .bool true, .bool false, .bool false, .agg C1, .bool true, .bool false, .bool false, .bool false, .agg G0, .bool true, .bool false, .bool false, .bool false, .agg C1, .bool true, .bool false, .bool false, undef, .tuple #[.agg C7, .bool (fnd X0 a2).isSome], .agg G0, .int .u64 a2, .tuple #[.agg C7, .bool (fnd X0 a2).isSome], .agg C7, .bool (fnd X0 a2).isSome, .tuple #[.agg C9, .bool (fnd X0 a2).isSome], .agg G0, .int .u64 a2, .tuple #[.agg C9, .bool (fnd X0 a2).isSome], .agg C9, .bool (fnd X0 a2).isSome, .agg G0, .agg C1, .agg #[.int .i64 t0, .int .u64 ke0, .int .u64 ro0, .slice aX nX cX], .agg G0, .int .u64 a2, .agg #[.int .i64 t0, .int .u64 ke0, .int .u64 ro0, .slice aY nY cY], undef, undef, undef, undef, undef, undef, undef, undef, undef, undef, undef, undef, undef, undef, undef, undef, undef, undef, undef, undef, undef, undef, undef, undef, undef, undef, undef, undef, undef, undef, undef, undef, undef], defers := [] } ∧ (Blk W B3 G0 43 ∧ Blk W B4 C1 40) ∧ Blk W P11 zW 43 ∧ Blk W P12 zW 43 ∧ P11 ≠ P12 ∧ v1.heap.size ≤ P11 ∧ v1.heap.size ≤ P12 ∧ ObsD (Nx [P11, P12] W) (Nx [P11, P12] W) W aX nX cX (puR X0 x1) ∧ ObsD (Nx [P11, P12] W) (Nx [P11, P12] W) W aY nY cY (drpL X0 a2) ∧ Below v1.heap.size v1 W) ?_ (fun rest => ?_)
  · rintro A W ⟨P11, P12, aX, nX, cX, aY, nY, cY, rfl, hS1, h11, h12b, hPne, hg11, hg12, oX, oY, kv⟩
    obtain ⟨W6, hr6, h116, q6⟩ := run_store_blk h11 (hz2 _) (hs2 _) (h12 aX nX cX)
    refine wpAnyH_single (i := 8) (n := 1) rfl (by kernel_rfl) ?_
    refine wpOp_storeL (ty := 43) (B := P11) (off := 0) (v := .agg #[.int .i64 t0, .int .u64 ke0, .int .u64 ro0, .slice aX nX cX]) (d := none) (by kernel_rfl) hr6 ?_
    have hBl : B3 ≠ P11 ∧ B4 ≠ P11 ∧ B3 ≠ P12 ∧ B4 ≠ P12 := by have := hS.1.lt; have := hS.2.lt; omega
    have hS6 : Blk W6 B3 G0 43 ∧ Blk W6 B4 C1 40 := ⟨hS1.1.other q6 hBl.1, hS1.2.other q6 hBl.2.1⟩
    refine ⟨hS6, ?_⟩
    have h126 := h12b.other q6 hPne.symm
    obtain ⟨W7, hr7, h127, q7⟩ := run_store_blk h126 (hz2 _) (hs2 _) (h12 aY nY cY)
    refine wpAnyH_single (i := 9) (n := 0) rfl (by kernel_rfl) ?_
    refine wpOp_storeL (ty := 43) (B := P12) (off := 0) (v := .agg #[.int .i64 t0, .int .u64 ke0, .int .u64 ro0, .slice aY nY cY]) (d := none) (by kernel_rfl) hr7 ?_
    have hS7 : Blk W7 B3 G0 43 ∧ Blk W7 B4 C1 40 := ⟨hS6.1.other q7 hBl.2.2.1, hS6.2.other q7 hBl.2.2.2⟩
    refine ⟨hS7, wpAnyH_done (by kernel_rfl) ?_ _⟩
    have h117 := h116.other q7 hPne
    have oX7 := obs_lt (obs_oth (obs_oth oX q6 (by simp)) q7 (by simp))
    have oY7 := obs_lt (obs_oth (obs_oth oY q6 (by simp)) q7 (by simp))
    have kv7 := q7.below _ _ hg12 (q6.below _ _ hg11 kv)
    have hk7 := hk.trans (kv7.mono hk.size)
    replace o7 := o7.next kv7
    replace o9 := o9.next kv7
    replace hR7 := hR7.next kv7
    replace hR9 := hR9.next kv7
    obtain ⟨hB3, hB4⟩ := hS7
    clear hS hS1 hS6 h11 h12b h116 h126 hr6 hr7 q6 q7 oX oY kv kv7 hk hBl hg11 hg12 hPne pw dw
    have hP11 := h117
    have hP12 := h127
    have hk := hk7
    have zgx : (Try.prog.info? 43).map (·.size) = some (#[.int .i64 t0, .int .u64 ke0, .int .u64 ro0, .slice aX nX cX] : Array Value).size := size43
    have zgy : (Try.prog.info? 43).map (·.size) = some (#[.int .i64 t0, .int .u64 ke0, .int .u64 ro0, .slice aY nY cY] : Array Value).size := size43
    have rsx := fun {W : World} {a : Option Addr} {n c : Nat} {Y : List Ob} (o : Obs W aX nX cX (puR X0 x1)) (h : Obs W a n c Y) => rsame_w (t := t0) (ke := ke0) (ro := ro0) (t' := t0) (ke' := ke0) (ro' := ro0) o h
    have rsy := fun {W : World} {a : Option Addr} {n c : Nat} {Y : List Ob} (o : Obs W aY nY cY (drpL X0 a2)) (h : Obs W a n c Y) => rsame_w (t := t0) (ke := ke0) (ro := ro0) (t' := t0) (ke' := ke0) (ro' := ro0) o h
    have fx := fun {W : World} (o : Obs W aX nX cX (puR X0 x1)) => rfit_w (t := t0) (ke := ke0) (ro := ro0) o
    have fy := fun {W : World} (o : Obs W aY nY cY (drpL X0 a2)) => rfit_w (t := t0) (ke := ke0) (ro := ro0) o
    obtain ⟨GX, hGX⟩ : ∃ G : Array Value, G = #[.int .i64 t0, .int .u64 ke0, .int .u64 ro0, .slice aX nX cX] := ⟨_, rfl⟩
    obtain ⟨GY, hGY⟩ : ∃ G : Array Value, G = #[.int .i64 t0, .int .u64 ke0, .int .u64 ro0, .slice aY nY cY] := ⟨_, rfl⟩
    rw [← hGX] at hP11 zgx rsx fx
    rw [← hGY] at hP12 zgy rsy fy
    clear h117 h127 hk7
    go_wp2
    refine PgM.region_out (S := fun W => Blk W B3 G0 43 ∧ Blk W B4 C1 40 ∧ Blk W R7 C7 40 ∧ Blk W R9 C9 40 ∧ Blk W P11 GX 43 ∧ Blk W P12 GY 43) hmx ⟨hB3.next (Below.refl _ _).drew, hB4.next (Below.refl _ _).drew, hR7.next (Below.refl _ _).drew, hR9.next (Below.refl _ _).drew, hP11.next (Below.refl _ _).drew, hP12.next (Below.refl _ _).drew⟩ (fun hS => ?_)
    have hkd := (Below.refl W7.heap.size W7).drew
    replace hk := hk.trans (hkd.mono hk.size)
    replace oX7 := obs_next oX7 hkd
    replace oY7 := obs_next oY7 hkd
    replace o7 := o7.next hkd
    replace o9 := o9.next hkd
    generalize W7.drew = v2 at hS hk oX7 oY7 o7 o9 ⊢
    clear hkd hB3 hB4 hR7 hR9 hP11 hP12
    refine wpAnyH_sym (by kernel_rfl) (fun _ _ _ _ _ h => h) hS [(0, some (.agg C7)), (1, some (.agg C9))] (l' := #[true, true, false, false, false, false, false, false, false, false, false, false, false, false, false, false, false, false, false, false, false, false, false, false, false, false, false, false, false, false, false, false, false, false]) (a' := { tmps := #[.agg G0, .agg C1, .int .u64 a2, .pointer (some ⟨B3, 0, none⟩), .pointer (some ⟨B4, 0, none⟩), undef, .bool false, .pointer (some ⟨R7, 0, none⟩), .bool (fnd X0 a2).isSome, .pointer (some ⟨R9, 0, none⟩), .bool (fnd X0 a2).isSome, .pointer (some ⟨P11, 0, none⟩), .pointer (some ⟨P12, 0, none⟩), .agg G0, .bool true, .bool false, .bool false, .agg C1, .bool true, .bool false, .bool false, .bool false, .agg G0, .bool true, .bool false, .bool false, .bool false, .agg C1, .bool true, .bool false, .bool false, undef, .tuple #[.agg C7, .bool (fnd X0 a2).isSome], .agg G0, .int .u64 a2, .tuple #[.agg C7, .bool (fnd X0 a2).isSome], .agg C7, .bool (fnd X0 a2).isSome, .tuple #[.agg C9, .bool (fnd X0 a2).isSome], .agg G0, .int .u64 a2, .tuple #[.agg C9, .bool (fnd X0 a2).isSome], .agg C9, .bool (fnd X0 a2).isSome, .agg G0, .agg C1, .agg #[.int .i64 t0, .int .u64 ke0, .int .u64 ro0, .slice aX nX cX], .agg G0, .int .u64 a2, .agg #[.int .i64 t0, .int .u64 ke0, .int .u64 ro0, .slice aY nY cY], .agg C7, .agg C9, undef, undef, undef, undef, undef, undef, undef, undef, undef, undef, undef, undef, undef, undef, undef, undef, undef, undef, undef, undef, undef, undef, undef, undef, undef, undef, undef, undef, undef, undef, undef], defers := [] }) (obs := [.load 40 R7 0 (.agg C7), .load 40 R9 0 (.agg C9)]) (n := 32) (by kernel_rfl) (by kernel_rfl) ⟨ob_loadb (fun _ h => h.2.2.1) Try.underlying40 (by kernel_rfl) (size40C hz7), ob_loadb (fun _ h => h.2.2.2.1) Try.underlying40 (by kernel_rfl) (size40C hz9), trivial⟩ ?_
    refine wpAnyH_callL (i := 2) (fuel := 31) (f := 15) (vs := [.agg C7, .agg C9]) (d := some 52) (by kernel_rfl) (by kernel_rfl) (by kernel_rfl) Try.call15 ((rsameOne_any o7 o9).sure rfl) ?_
    rintro e v60 ⟨rfl, hb60⟩
    refine ⟨_, rfl, ⟨hS.1.next hb60, hS.2.1.next hb60, hS.2.2.1.next hb60, hS.2.2.2.1.next hb60, hS.2.2.2.2.1.next hb60, hS.2.2.2.2.2.next hb60⟩, ?_⟩
    replace hS : Blk v60 B3 G0 43 ∧ Blk v60 B4 C1 40 ∧ Blk v60 R7 C7 40 ∧ Blk v60 R9 C9 40 ∧ Blk v60 P11 GX 43 ∧ Blk v60 P12 GY 43 := ⟨hS.1.next hb60, hS.2.1.next hb60, hS.2.2.1.next hb60, hS.2.2.2.1.next hb60, hS.2.2.2.2.1.next hb60, hS.2.2.2.2.2.next hb60⟩
    replace hk := hk.trans (hb60.mono hk.size)
    replace oX7 := obs_next oX7 hb60
    replace oY7 := obs_next oY7 hb60
    replace o7 := o7.next hb60
    replace o9 := o9.next hb60
    clear hb60
    refine wpAnyH_sym (by kernel_rfl) (fun _ _ _ _ _ h => h) hS [(3, none), (4, none), (5, none), (6, some (.bool true)), (7, none), (8, none), (9, some (.agg GX)), (10, some (.agg G0)), (11, some (.agg C1))] (l' := #[true, true, true, true, true, true, true, true, true, true, true, true, false, false, false, false, false, false, false, false, false, false, false, false, false, false, false, false, false, false, false, false, false, false]) (a' := { tmps := #[.agg G0, .agg C1, .int .u64 a2, .pointer (some ⟨B3, 0, none⟩), .pointer (some ⟨B4, 0, none⟩), undef, .bool false, .pointer (some ⟨R7, 0, none⟩), .bool (fnd X0 a2).isSome, .pointer (some ⟨R9, 0, none⟩), .bool (fnd X0 a2).isSome, .pointer (some ⟨P11, 0, none⟩), .pointer (some ⟨P12, 0, none⟩), .agg G0, .bool true, .bool false, .bool false, .agg C1, .bool true, .bool false, .bool false, .bool false, .agg G0, .bool true, .bool false, .bool false, .bool false, .agg C1, .bool true, .bool false, .bool false, undef, .tuple #[.agg C7, .bool (fnd X0 a2).isSome], .agg G0, .int .u64 a2, .tuple #[.agg C7, .bool (fnd X0 a2).isSome], .agg C7, .bool (fnd X0 a2).isSome, .tuple #[.agg C9, .bool (fnd X0 a2).isSome], .agg G0, .int .u64 a2, .tuple #[.agg C9, .bool (fnd X0 a2).isSome], .agg C9, .bool (fnd X0 a2).isSome, .agg G0, .agg C1, .agg #[.int .i64 t0, .int .u64 ke0, .int .u64 ro0, .slice aX nX cX], .agg G0, .int .u64 a2, .agg #[.int .i64 t0, .int .u64 ke0, .int .u64 ro0, .slice aY nY cY], .agg C7, .agg C9, .bool true, .bool true, .bool (fnd X0 a2).isSome, .bool (fnd X0 a2).isSome, .bool true, .bool true, .bool true, .agg GX, .agg G0, .agg C1, undef, undef, undef, undef, undef, undef, undef, undef, undef, undef, undef, undef, undef, undef, undef, undef, undef, undef, undef, undef, undef], defers := [] }) (obs := [.test .eql 4 (.tmp 54) (.tmp 55) (.bool (fnd X0 a2).isSome) (.bool (fnd X0 a2).isSome) (.bool true), .load 43 P11 0 (.agg GX), .load 43 B3 0 (.agg G0), .load 40 B4 0 (.agg C1)]) (n := 22) (by kernel_rfl) (by kernel_rfl) ⟨eql_same, ob_loadb (fun _ h => h.2.2.2.2.1) Try.underlying43 (by kernel_rfl) zgx, ob_loadb (fun _ h => h.1) Try.underlying43 (by kernel_rfl) zg0, ob_loadb (fun _ h => h.2.1) Try.underlying40 (by kernel_rfl) (size40C hz1), trivial⟩ ?_
    refine wpAnyH_callL (i := 12) (fuel := 21) (f := 29) (vs := [.agg G0, .agg C1]) (d := some 62) (by kernel_rfl) (by kernel_rfl) (by kernel_rfl) Try.call29 (rpw hk hs0 hn0) ?_
    rintro e v61 ⟨aU, nU, cU, rfl, oU, hb61⟩
    refine ⟨_, rfl, ⟨hS.1.next hb61, hS.2.1.next hb61, hS.2.2.1.next hb61, hS.2.2.2.1.next hb61, hS.2.2.2.2.1.next hb61, hS.2.2.2.2.2.next hb61⟩, ?_⟩
    replace hS : Blk v61 B3 G0 43 ∧ Blk v61 B4 C1 40 ∧ Blk v61 R7 C7 40 ∧ Blk v61 R9 C9 40 ∧ Blk v61 P11 GX 43 ∧ Blk v61 P12 GY 43 := ⟨hS.1.next hb61, hS.2.1.next hb61, hS.2.2.1.next hb61, hS.2.2.2.1.next hb61, hS.2.2.2.2.1.next hb61, hS.2.2.2.2.2.next hb61⟩
    replace hk := hk.trans (hb61.mono hk.size)
    replace oX7 := obs_next oX7 hb61
    replace oY7 := obs_next oY7 hb61
    replace o7 := o7.next hb61
    replace o9 := o9.next hb61
    clear hb61
    refine wpAnyH_callL (i := 13) (fuel := 20) (f := 17) (vs := [.agg GX, .agg #[.int .i64 t0, .int .u64 ke0, .int .u64 ro0, .slice aU nU cU]]) (d := some 63) (by kernel_rfl) (by kernel_rfl) (by kernel_rfl) Try.call17 ((rsx oX7 oU).sure rfl) ?_
    rintro e v62 ⟨rfl, hb62⟩
    refine ⟨_, rfl, ⟨hS.1.next hb62, hS.2.1.next hb62, hS.2.2.1.next hb62, hS.2.2.2.1.next hb62, hS.2.2.2.2.1.next hb62, hS.2.2.2.2.2.next hb62⟩, ?_⟩
    replace hS : Blk v62 B3 G0 43 ∧ Blk v62 B4 C1 40 ∧ Blk v62 R7 C7 40 ∧ Blk v62 R9 C9 40 ∧ Blk v62 P11 GX 43 ∧ Blk v62 P12 GY 43 := ⟨hS.1.next hb62, hS.2.1.next hb62, hS.2.2.1.next hb62, hS.2.2.2.1.next hb62, hS.2.2.2.2.1.next hb62, hS.2.2.2.2.2.next hb62⟩
    replace hk := hk.trans (hb62.mono hk.size)
    replace oX7 := obs_next oX7 hb62
    replace oY7 := obs_next oY7 hb62
    replace oU := obs_next oU hb62
    replace o7 := o7.next hb62
    replace o9 := o9.next hb62
    clear hb62
    refine wpAnyH_sym (by kernel_rfl) (fun _ _ _ _ _ h => h) hS [(14, none), (15, none), (16, some (.agg GY)), (17, some (.agg G0)), (18, none)] (l' := #[true, true, true, true, true, true, true, true, true, true, true, true, true, true, true, true, true, true, true, false, false, false, false, false, false, false, false, false, false, false, false, false, false, false]) (a' := { tmps := #[.agg G0, .agg C1, .int .u64 a2, .pointer (some ⟨B3, 0, none⟩), .pointer (some ⟨B4, 0, none⟩), undef, .bool false, .pointer (some ⟨R7, 0, none⟩), .bool (fnd X0 a2).isSome, .pointer (some ⟨R9, 0, none⟩), .bool (fnd X0 a2).isSome, .pointer (some ⟨P11, 0, none⟩), .pointer (some ⟨P12, 0, none⟩), .agg G0, .bool true, .bool false, .bool false, .agg C1, .bool true, .bool false, .bool false, .bool false, .agg G0, .bool true, .bool false, .bool false, .bool false, .agg C1, .bool true, .bool false, .bool false, undef, .tuple #[.agg C7, .bool (fnd X0 a2).isSome], .agg G0, .int .u64 a2, .tuple #[.agg C7, .bool (fnd X0 a2).isSome], .agg C7, .bool (fnd X0 a2).isSome, .tuple #[.agg C9, .bool (fnd X0 a2).isSome], .agg G0, .int .u64 a2, .tuple #[.agg C9, .bool (fnd X0 a2).isSome], .agg C9, .bool (fnd X0 a2).isSome, .agg G0, .agg C1, .agg #[.int .i64 t0, .int .u64 ke0, .int .u64 ro0, .slice aX nX cX], .agg G0, .int .u64 a2, .agg #[.int .i64 t0, .int .u64 ke0, .int .u64 ro0, .slice aY nY cY], .agg C7, .agg C9, .bool true, .bool true, .bool (fnd X0 a2).isSome, .bool (fnd X0 a2).isSome, .bool true, .bool true, .bool true, .agg GX, .agg G0, .agg C1, .agg #[.int .i64 t0, .int .u64 ke0, .int .u64 ro0, .slice aU nU cU], .bool true, .bool true, .bool true, .agg GY, .agg G0, .int .u64 a2, undef, undef, undef, undef, undef, undef, undef, undef, undef, undef, undef, undef, undef, undef], defers := [] }) (obs := [.load 43 P12 0 (.agg GY), .load 43 B3 0 (.agg G0)]) (n := 15) (by kernel_rfl) (by kernel_rfl) ⟨ob_loadb (fun _ h => h.2.2.2.2.2) Try.underlying43 (by kernel_rfl) zgy, ob_loadb (fun _ h => h.1) Try.underlying43 (by kernel_rfl) zg0, trivial⟩ ?_
    refine wpAnyH_callL (i := 19) (fuel := 14) (f := 30) (vs := [.agg G0, .int .u64 a2]) (d := some 69) (by kernel_rfl) (by kernel_rfl) (by kernel_rfl) Try.call30 (rdw hk hs0 hn0) ?_
    rintro e v63 ⟨aV, nV, cV, rfl, oV, hb63⟩
    refine ⟨_, rfl, ⟨hS.1.next hb63, hS.2.1.next hb63, hS.2.2.1.next hb63, hS.2.2.2.1.next hb63, hS.2.2.2.2.1.next hb63, hS.2.2.2.2.2.next hb63⟩, ?_⟩
    replace hS : Blk v63 B3 G0 43 ∧ Blk v63 B4 C1 40 ∧ Blk v63 R7 C7 40 ∧ Blk v63 R9 C9 40 ∧ Blk v63 P11 GX 43 ∧ Blk v63 P12 GY 43 := ⟨hS.1.next hb63, hS.2.1.next hb63, hS.2.2.1.next hb63, hS.2.2.2.1.next hb63, hS.2.2.2.2.1.next hb63, hS.2.2.2.2.2.next hb63⟩
    replace hk := hk.trans (hb63.mono hk.size)
    replace oX7 := obs_next oX7 hb63
    replace oY7 := obs_next oY7 hb63
    replace oU := obs_next oU hb63
    replace o7 := o7.next hb63
    replace o9 := o9.next hb63
    clear hb63
    refine wpAnyH_callL (i := 20) (fuel := 13) (f := 17) (vs := [.agg GY, .agg #[.int .i64 t0, .int .u64 ke0, .int .u64 ro0, .slice aV nV cV]]) (d := some 70) (by kernel_rfl) (by kernel_rfl) (by kernel_rfl) Try.call17 ((rsy oY7 oV).sure rfl) ?_
    rintro e v64 ⟨rfl, hb64⟩
    refine ⟨_, rfl, ⟨hS.1.next hb64, hS.2.1.next hb64, hS.2.2.1.next hb64, hS.2.2.2.1.next hb64, hS.2.2.2.2.1.next hb64, hS.2.2.2.2.2.next hb64⟩, ?_⟩
    replace hS : Blk v64 B3 G0 43 ∧ Blk v64 B4 C1 40 ∧ Blk v64 R7 C7 40 ∧ Blk v64 R9 C9 40 ∧ Blk v64 P11 GX 43 ∧ Blk v64 P12 GY 43 := ⟨hS.1.next hb64, hS.2.1.next hb64, hS.2.2.1.next hb64, hS.2.2.2.1.next hb64, hS.2.2.2.2.1.next hb64, hS.2.2.2.2.2.next hb64⟩
    replace hk := hk.trans (hb64.mono hk.size)
    replace oX7 := obs_next oX7 hb64
    replace oY7 := obs_next oY7 hb64
    replace oU := obs_next oU hb64
    replace oV := obs_next oV hb64
    replace o7 := o7.next hb64
    replace o9 := o9.next hb64
    clear hb64
    refine wpAnyH_sym (by kernel_rfl) (fun _ _ _ _ _ h => h) hS [(21, none), (22, none), (23, some (.agg GX))] (l' := #[true, true, true, true, true, true, true, true, true, true, true, true, true, true, true, true, true, true, true, true, true, true, true, true, false, false, false, false, false, false, false, false, false, false]) (a' := { tmps := #[.agg G0, .agg C1, .int .u64 a2, .pointer (some ⟨B3, 0, none⟩), .pointer (some ⟨B4, 0, none⟩), undef, .bool false, .pointer (some ⟨R7, 0, none⟩), .bool (fnd X0 a2).isSome, .pointer (some ⟨R9, 0, none⟩), .bool (fnd X0 a2).isSome, .pointer (some ⟨P11, 0, none⟩), .pointer (some ⟨P12, 0, none⟩), .agg G0, .bool true, .bool false, .bool false, .agg C1, .bool true, .bool false, .bool false, .bool false, .agg G0, .bool true, .bool false, .bool false, .bool false, .agg C1, .bool true, .bool false, .bool false, undef, .tuple #[.agg C7, .bool (fnd X0 a2).isSome], .agg G0, .int .u64 a2, .tuple #[.agg C7, .bool (fnd X0 a2).isSome], .agg C7, .bool (fnd X0 a2).isSome, .tuple #[.agg C9, .bool (fnd X0 a2).isSome], .agg G0, .int .u64 a2, .tuple #[.agg C9, .bool (fnd X0 a2).isSome], .agg C9, .bool (fnd X0 a2).isSome, .agg G0, .agg C1, .agg #[.int .i64 t0, .int .u64 ke0, .int .u64 ro0, .slice aX nX cX], .agg G0, .int .u64 a2, .agg #[.int .i64 t0, .int .u64 ke0, .int .u64 ro0, .slice aY nY cY], .agg C7, .agg C9, .bool true, .bool true, .bool (fnd X0 a2).isSome, .bool (fnd X0 a2).isSome, .bool true, .bool true, .bool true, .agg GX, .agg G0, .agg C1, .agg #[.int .i64 t0, .int .u64 ke0, .int .u64 ro0, .slice aU nU cU], .bool true, .bool true, .bool true, .agg GY, .agg G0, .int .u64 a2, .agg #[.int .i64 t0, .int .u64 ke0, .int .u64 ro0, .slice aV nV cV], .bool true, .bool true, .bool true, .agg GX, undef, undef, undef, undef, undef, undef, undef, undef, undef], defers := [] }) (obs := [.load 43 P11 0 (.agg GX)]) (n := 10) (by kernel_rfl) (by kernel_rfl) ⟨ob_loadb (fun _ h => h.2.2.2.2.1) Try.underlying43 (by kernel_rfl) zgx, trivial⟩ ?_
    refine wpAnyH_callL (i := 24) (fuel := 9) (f := 13) (vs := [.agg GX]) (d := some 74) (by kernel_rfl) (by kernel_rfl) (by kernel_rfl) Try.call13 ((fx oX7).sure hfx.out) ?_
    rintro e v65 ⟨rfl, hb65⟩
    refine ⟨_, rfl, ⟨hS.1.next hb65, hS.2.1.next hb65, hS.2.2.1.next hb65, hS.2.2.2.1.next hb65, hS.2.2.2.2.1.next hb65, hS.2.2.2.2.2.next hb65⟩, ?_⟩
    replace hS : Blk v65 B3 G0 43 ∧ Blk v65 B4 C1 40 ∧ Blk v65 R7 C7 40 ∧ Blk v65 R9 C9 40 ∧ Blk v65 P11 GX 43 ∧ Blk v65 P12 GY 43 := ⟨hS.1.next hb65, hS.2.1.next hb65, hS.2.2.1.next hb65, hS.2.2.2.1.next hb65, hS.2.2.2.2.1.next hb65, hS.2.2.2.2.2.next hb65⟩
    replace hk := hk.trans (hb65.mono hk.size)
    replace oX7 := obs_next oX7 hb65
    replace oY7 := obs_next oY7 hb65
    replace oU := obs_next oU hb65
    replace oV := obs_next oV hb65
    replace o7 := o7.next hb65
    replace o9 := o9.next hb65
    clear hb65
    refine wpAnyH_sym (by kernel_rfl) (fun _ _ _ _ _ h => h) hS [(25, none), (26, none), (27, some (.agg GY))] (l' := #[true, true, true, true, true, true, true, true, true, true, true, true, true, true, true, true, true, true, true, true, true, true, true, true, true, true, true, true, false, false, false, false, false, false]) (a' := { tmps := #[.agg G0, .agg C1, .int .u64 a2, .pointer (some ⟨B3, 0, none⟩), .pointer (some ⟨B4, 0, none⟩), undef, .bool false, .pointer (some ⟨R7, 0, none⟩), .bool (fnd X0 a2).isSome, .pointer (some ⟨R9, 0, none⟩), .bool (fnd X0 a2).isSome, .pointer (some ⟨P11, 0, none⟩), .pointer (some ⟨P12, 0, none⟩), .agg G0, .bool true, .bool false, .bool false, .agg C1, .bool true, .bool false, .bool false, .bool false, .agg G0, .bool true, .bool false, .bool false, .bool false, .agg C1, .bool true, .bool false, .bool false, undef, .tuple #[.agg C7, .bool (fnd X0 a2).isSome], .agg G0, .int .u64 a2, .tuple #[.agg C7, .bool (fnd X0 a2).isSome], .agg C7, .bool (fnd X0 a2).isSome, .tuple #[.agg C9, .bool (fnd X0 a2).isSome], .agg G0, .int .u64 a2, .tuple #[.agg C9, .bool (fnd X0 a2).isSome], .agg C9, .bool (fnd X0 a2).isSome, .agg G0, .agg C1, .agg #[.int .i64 t0, .int .u64 ke0, .int .u64 ro0, .slice aX nX cX], .agg G0, .int .u64 a2, .agg #[.int .i64 t0, .int .u64 ke0, .int .u64 ro0, .slice aY nY cY], .agg C7, .agg C9, .bool true, .bool true, .bool (fnd X0 a2).isSome, .bool (fnd X0 a2).isSome, .bool true, .bool true, .bool true, .agg GX, .agg G0, .agg C1, .agg #[.int .i64 t0, .int .u64 ke0, .int .u64 ro0, .slice aU nU cU], .bool true, .bool true, .bool true, .agg GY, .agg G0, .int .u64 a2, .agg #[.int .i64 t0, .int .u64 ke0, .int .u64 ro0, .slice aV nV cV], .bool true, .bool true, .bool true, .agg GX, .bool true, .bool true, .bool true, .agg GY, undef, undef, undef, undef, undef], defers := [] }) (obs := [.load 43 P12 0 (.agg GY)]) (n := 6) (by kernel_rfl) (by kernel_rfl) ⟨ob_loadb (fun _ h => h.2.2.2.2.2) Try.underlying43 (by kernel_rfl) zgy, trivial⟩ ?_
    refine wpAnyH_callL (i := 28) (fuel := 5) (f := 13) (vs := [.agg GY]) (d := some 78) (by kernel_rfl) (by kernel_rfl) (by kernel_rfl) Try.call13 ((fy oY7).sure hfd.out) ?_
    rintro e v66 ⟨rfl, hb66⟩
    refine ⟨_, rfl, ⟨hS.1.next hb66, hS.2.1.next hb66, hS.2.2.1.next hb66, hS.2.2.2.1.next hb66, hS.2.2.2.2.1.next hb66, hS.2.2.2.2.2.next hb66⟩, ?_⟩
    replace hS : Blk v66 B3 G0 43 ∧ Blk v66 B4 C1 40 ∧ Blk v66 R7 C7 40 ∧ Blk v66 R9 C9 40 ∧ Blk v66 P11 GX 43 ∧ Blk v66 P12 GY 43 := ⟨hS.1.next hb66, hS.2.1.next hb66, hS.2.2.1.next hb66, hS.2.2.2.1.next hb66, hS.2.2.2.2.1.next hb66, hS.2.2.2.2.2.next hb66⟩
    replace hk := hk.trans (hb66.mono hk.size)
    replace oX7 := obs_next oX7 hb66
    replace oY7 := obs_next oY7 hb66
    replace oU := obs_next oU hb66
    replace oV := obs_next oV hb66
    replace o7 := o7.next hb66
    replace o9 := o9.next hb66
    clear hb66
    refine wpAnyH_sym (by kernel_rfl) (fun _ _ _ _ _ h => h) hS [(29, none), (30, none)] (l' := #[true, true, true, true, true, true, true, true, true, true, true, true, true, true, true, true, true, true, true, true, true, true, true, true, true, true, true, true, true, true, true, false, false, false]) (a' := { tmps := #[.agg G0, .agg C1, .int .u64 a2, .pointer (some ⟨B3, 0, none⟩), .pointer (some ⟨B4, 0, none⟩), undef, .bool false, .pointer (some ⟨R7, 0, none⟩), .bool (fnd X0 a2).isSome, .pointer (some ⟨R9, 0, none⟩), .bool (fnd X0 a2).isSome, .pointer (some ⟨P11, 0, none⟩), .pointer (some ⟨P12, 0, none⟩), .agg G0, .bool true, .bool false, .bool false, .agg C1, .bool true, .bool false, .bool false, .bool false, .agg G0, .bool true, .bool false, .bool false, .bool false, .agg C1, .bool true, .bool false, .bool false, undef, .tuple #[.agg C7, .bool (fnd X0 a2).isSome], .agg G0, .int .u64 a2, .tuple #[.agg C7, .bool (fnd X0 a2).isSome], .agg C7, .bool (fnd X0 a2).isSome, .tuple #[.agg C9, .bool (fnd X0 a2).isSome], .agg G0, .int .u64 a2, .tuple #[.agg C9, .bool (fnd X0 a2).isSome], .agg C9, .bool (fnd X0 a2).isSome, .agg G0, .agg C1, .agg #[.int .i64 t0, .int .u64 ke0, .int .u64 ro0, .slice aX nX cX], .agg G0, .int .u64 a2, .agg #[.int .i64 t0, .int .u64 ke0, .int .u64 ro0, .slice aY nY cY], .agg C7, .agg C9, .bool true, .bool true, .bool (fnd X0 a2).isSome, .bool (fnd X0 a2).isSome, .bool true, .bool true, .bool true, .agg GX, .agg G0, .agg C1, .agg #[.int .i64 t0, .int .u64 ke0, .int .u64 ro0, .slice aU nU cU], .bool true, .bool true, .bool true, .agg GY, .agg G0, .int .u64 a2, .agg #[.int .i64 t0, .int .u64 ke0, .int .u64 ro0, .slice aV nV cV], .bool true, .bool true, .bool true, .agg GX, .bool true, .bool true, .bool true, .agg GY, .bool true, .bool true, .bool true, undef, undef], defers := [] }) (obs := []) (n := 3) (by kernel_rfl) (by kernel_rfl) trivial ?_
    refine wpAnyH_callL (i := 31) (fuel := 2) (f := 9) (vs := []) (d := some 81) (by kernel_rfl) (by kernel_rfl) (by kernel_rfl) Try.call9 (aw _) ?_
    rintro e v67 ⟨rfl, hb67⟩
    refine ⟨_, rfl, ⟨hS.1.next hb67, hS.2.1.next hb67, hS.2.2.1.next hb67, hS.2.2.2.1.next hb67, hS.2.2.2.2.1.next hb67, hS.2.2.2.2.2.next hb67⟩, ?_⟩
    replace hS : Blk v67 B3 G0 43 ∧ Blk v67 B4 C1 40 ∧ Blk v67 R7 C7 40 ∧ Blk v67 R9 C9 40 ∧ Blk v67 P11 GX 43 ∧ Blk v67 P12 GY 43 := ⟨hS.1.next hb67, hS.2.1.next hb67, hS.2.2.1.next hb67, hS.2.2.2.1.next hb67, hS.2.2.2.2.1.next hb67, hS.2.2.2.2.2.next hb67⟩
    replace hk := hk.trans (hb67.mono hk.size)
    replace oX7 := obs_next oX7 hb67
    replace oY7 := obs_next oY7 hb67
    replace oU := obs_next oU hb67
    replace oV := obs_next oV hb67
    replace o7 := o7.next hb67
    replace o9 := o9.next hb67
    clear hb67
    refine wpAnyH_sym (by kernel_rfl) (fun _ _ _ _ _ h => h) hS [(32, none), (33, none)] (l' := #[true, true, true, true, true, true, true, true, true, true, true, true, true, true, true, true, true, true, true, true, true, true, true, true, true, true, true, true, true, true, true, true, true, true]) (a' := { tmps := #[.agg G0, .agg C1, .int .u64 a2, .pointer (some ⟨B3, 0, none⟩), .pointer (some ⟨B4, 0, none⟩), undef, .bool true, .pointer (some ⟨R7, 0, none⟩), .bool (fnd X0 a2).isSome, .pointer (some ⟨R9, 0, none⟩), .bool (fnd X0 a2).isSome, .pointer (some ⟨P11, 0, none⟩), .pointer (some ⟨P12, 0, none⟩), .agg G0, .bool true, .bool false, .bool false, .agg C1, .bool true, .bool false, .bool false, .bool false, .agg G0, .bool true, .bool false, .bool false, .bool false, .agg C1, .bool true, .bool false, .bool false, undef, .tuple #[.agg C7, .bool (fnd X0 a2).isSome], .agg G0, .int .u64 a2, .tuple #[.agg C7, .bool (fnd X0 a2).isSome], .agg C7, .bool (fnd X0 a2).isSome, .tuple #[.agg C9, .bool (fnd X0 a2).isSome], .agg G0, .int .u64 a2, .tuple #[.agg C9, .bool (fnd X0 a2).isSome], .agg C9, .bool (fnd X0 a2).isSome, .agg G0, .agg C1, .agg #[.int .i64 t0, .int .u64 ke0, .int .u64 ro0, .slice aX nX cX], .agg G0, .int .u64 a2, .agg #[.int .i64 t0, .int .u64 ke0, .int .u64 ro0, .slice aY nY cY], .agg C7, .agg C9, .bool true, .bool true, .bool (fnd X0 a2).isSome, .bool (fnd X0 a2).isSome, .bool true, .bool true, .bool true, .agg GX, .agg G0, .agg C1, .agg #[.int .i64 t0, .int .u64 ke0, .int .u64 ro0, .slice aU nU cU], .bool true, .bool true, .bool true, .agg GY, .agg G0, .int .u64 a2, .agg #[.int .i64 t0, .int .u64 ke0, .int .u64 ro0, .slice aV nV cV], .bool true, .bool true, .bool true, .agg GX, .bool true, .bool true, .bool true, .agg GY, .bool true, .bool true, .bool true, .bool true, .bool true], defers := [] }) (obs := []) (n := 0) (by kernel_rfl) (by kernel_rfl) trivial ?_
    refine wpAnyH_done (by kernel_rfl) ?_ _
    go_wp2
    go_ret
    exact ⟨rfl, hk⟩
  · refine wpAnyH_three (i := 2) (j := 6) (k := 7) (n := 5) rfl (by kernel_rfl) ?_ ?_ ?_
    · refine wpOp_callL (f := 27) (vs := [.agg G0, .agg C1]) (d := some 46) (by kernel_rfl) Try.call27 (pw (hk.trans ((Below.refl v1.heap.size v1).mono hk.size)) hs0 hn0 sm0 sm1) ?_
      rintro e y1 ⟨aX, nX, cX, rfl, oX, hb101⟩
      replace oX := obs_new (Ps := []) oX hwv (Below.refl v1.heap.size v1).size hb101.size (List.forall_mem_nil _)
      have k1 := (Below.refl v1.heap.size v1).trans (hb101.mono (Below.refl v1.heap.size v1).size)
      have hS1 : Blk y1 B3 G0 43 ∧ Blk y1 B4 C1 40 := ⟨hS.1.next hb101, hS.2.next hb101⟩
      refine ⟨_, rfl, hS1, ?_⟩
      refine wpAnyH_three (i := 5) (j := 6) (k := 7) (n := 4) rfl (by kernel_rfl) ?_ ?_ ?_
      · refine wpOp_callL (f := 28) (vs := [.agg G0, .int .u64 a2]) (d := some 49) (by kernel_rfl) Try.call28 (dw (hk.trans (k1.mono hk.size)) hs0 hn0 sm0) ?_
        rintro e y2 ⟨aY, nY, cY, rfl, oY, hb102⟩
        replace oY := obs_new (Ps := []) oY hwv k1.size hb102.size (List.forall_mem_nil _)
        replace oX := obs_nx (Ps' := []) oX hb102 (fun p hp => .inl hp)
        have k2 := k1.trans (hb102.mono k1.size)
        have hS2 : Blk y2 B3 G0 43 ∧ Blk y2 B4 C1 40 := ⟨hS1.1.next hb102, hS1.2.next hb102⟩
        refine ⟨_, rfl, hS2, ?_⟩
        refine wpAnyH_two (i := 6) (j := 7) (n := 3) rfl (by kernel_rfl) ?_ ?_
        · refine wpOp_allocL (ty := 43) (z := zW) (d := some 11) (by kernel_rfl) zero43 ?_
          intro P11 y3 hN hP11 hb103
          have hgP11 : v1.heap.size ≤ P11 := by have := hN.out; have := k2.size; omega
          replace oX := obs_nx (Ps' := [P11]) oX hb103 (List.forall_mem_cons.2 ⟨.inr (by have := hN.out; omega), fun p hp => .inl hp⟩)
          replace oY := obs_nx (Ps' := [P11]) oY hb103 (List.forall_mem_cons.2 ⟨.inr (by have := hN.out; omega), fun p hp => .inl hp⟩)
          have k3 := k2.trans (hb103.mono k2.size)
          have hS3 : Blk y3 B3 G0 43 ∧ Blk y3 B4 C1 40 := ⟨hS2.1.next hb103, hS2.2.next hb103⟩
          clear hN
          refine ⟨hS3, ?_⟩
          refine wpAnyH_single (i := 7) (n := 2) rfl (by kernel_rfl) ?_
          refine wpOp_allocL (ty := 43) (z := zW) (d := some 12) (by kernel_rfl) zero43 ?_
          intro P12 y4 hN hP12 hb104
          have hgP12 : v1.heap.size ≤ P12 := by have := hN.out; have := k3.size; omega
          have hPne : P11 ≠ P12 := by have := hN.out; have := hP11.lt; omega
          replace hP11 := hP11.next hb104
          replace oX := obs_nx (Ps' := [P12, P11]) oX hb104 (List.forall_mem_cons.2 ⟨.inr (by have := hN.out; omega), fun p hp => .inl hp⟩)
          replace oY := obs_nx (Ps' := [P12, P11]) oY hb104 (List.forall_mem_cons.2 ⟨.inr (by have := hN.out; omega), fun p hp => .inl hp⟩)
          have k4 := k3.trans (hb104.mono k3.size)
          have hS4 : Blk y4 B3 G0 43 ∧ Blk y4 B4 C1 40 := ⟨hS3.1.next hb104, hS3.2.next hb104⟩
          clear hN
          refine ⟨hS4, ?_⟩
          exact rest _ _ ⟨P11, P12, aX, nX, cX, aY, nY, cY, rfl, hS4, hP11, hP12, hPne, hgP11, hgP12, obs_nx oX (Below.refl _ _) (fun p hp => .inl (by simp at hp ⊢; omega)), obs_nx oY (Below.refl _ _) (fun p hp => .inl (by simp at hp ⊢; omega)), k4⟩
        · refine wpOp_allocL (ty := 43) (z := zW) (d := some 12) (by kernel_rfl) zero43 ?_
          intro P12 y5 hN hP12 hb105
          have hgP12 : v1.heap.size ≤ P12 := by have := hN.out; have := k2.size; omega
          replace oX := obs_nx (Ps' := [P12]) oX hb105 (List.forall_mem_cons.2 ⟨.inr (by have := hN.out; omega), fun p hp => .inl hp⟩)
          replace oY := obs_nx (Ps' := [P12]) oY hb105 (List.forall_mem_cons.2 ⟨.inr (by have := hN.out; omega), fun p hp => .inl hp⟩)
          have k5 := k2.trans (hb105.mono k2.size)
          have hS5 : Blk y5 B3 G0 43 ∧ Blk y5 B4 C1 40 := ⟨hS2.1.next hb105, hS2.2.next hb105⟩
          clear hN
          refine ⟨hS5, ?_⟩
          refine wpAnyH_single (i := 6) (n := 2) rfl (by kernel_rfl) ?_
          refine wpOp_allocL (ty := 43) (z := zW) (d := some 11) (by kernel_rfl) zero43 ?_
          intro P11 y6 hN hP11 hb106
          have hgP11 : v1.heap.size ≤ P11 := by have := hN.out; have := k5.size; omega
          have hPne : P12 ≠ P11 := by have := hN.out; have := hP12.lt; omega
          replace hP12 := hP12.next hb106
          replace oX := obs_nx (Ps' := [P11, P12]) oX hb106 (List.forall_mem_cons.2 ⟨.inr (by have := hN.out; omega), fun p hp => .inl hp⟩)
          replace oY := obs_nx (Ps' := [P11, P12]) oY hb106 (List.forall_mem_cons.2 ⟨.inr (by have := hN.out; omega), fun p hp => .inl hp⟩)
          have k6 := k5.trans (hb106.mono k5.size)
          have hS6 : Blk y6 B3 G0 43 ∧ Blk y6 B4 C1 40 := ⟨hS5.1.next hb106, hS5.2.next hb106⟩
          clear hN
          refine ⟨hS6, ?_⟩
          exact rest _ _ ⟨P11, P12, aX, nX, cX, aY, nY, cY, rfl, hS6, hP11, hP12, hPne.symm, hgP11, hgP12, obs_nx oX (Below.refl _ _) (fun p hp => .inl (by simp at hp ⊢; omega)), obs_nx oY (Below.refl _ _) (fun p hp => .inl (by simp at hp ⊢; omega)), k6⟩
      · refine wpOp_allocL (ty := 43) (z := zW) (d := some 11) (by kernel_rfl) zero43 ?_
        intro P11 y7 hN hP11 hb107
        have hgP11 : v1.heap.size ≤ P11 := by have := hN.out; have := k1.size; omega
        replace oX := obs_nx (Ps' := [P11]) oX hb107 (List.forall_mem_cons.2 ⟨.inr (by have := hN.out; omega), fun p hp => .inl hp⟩)
        have k7 := k1.trans (hb107.mono k1.size)
        have hS7 : Blk y7 B3 G0 43 ∧ Blk y7 B4 C1 40 := ⟨hS1.1.next hb107, hS1.2.next hb107⟩
        clear hN
        refine ⟨hS7, ?_⟩
        refine wpAnyH_two (i := 5) (j := 7) (n := 3) rfl (by kernel_rfl) ?_ ?_
        · refine wpOp_callL (f := 28) (vs := [.agg G0, .int .u64 a2]) (d := some 49) (by kernel_rfl) Try.call28 (dw (hk.trans (k7.mono hk.size)) hs0 hn0 sm0) ?_
          rintro e y8 ⟨aY, nY, cY, rfl, oY, hb108⟩
          replace oY := obs_new (Ps := [P11]) oY hwv k7.size hb108.size (List.forall_mem_cons.2 ⟨⟨hgP11, hP11.lt⟩, List.forall_mem_nil _⟩)
          replace oX := obs_nx (Ps' := [P11]) oX hb108 (fun p hp => .inl hp)
          replace hP11 := hP11.next hb108
          have k8 := k7.trans (hb108.mono k7.size)
          have hS8 : Blk y8 B3 G0 43 ∧ Blk y8 B4 C1 40 := ⟨hS7.1.next hb108, hS7.2.next hb108⟩
          refine ⟨_, rfl, hS8, ?_⟩
          refine wpAnyH_single (i := 7) (n := 2) rfl (by kernel_rfl) ?_
          refine wpOp_allocL (ty := 43) (z := zW) (d := some 12) (by kernel_rfl) zero43 ?_
          intro P12 y9 hN hP12 hb109
          have hgP12 : v1.heap.size ≤ P12 := by have := hN.out; have := k8.size; omega
          have hPne : P11 ≠ P12 := by have := hN.out; have := hP11.lt; omega
          replace hP11 := hP11.next hb109
          replace oX := obs_nx (Ps' := [P12, P11]) oX hb109 (List.forall_mem_cons.2 ⟨.inr (by have := hN.out; omega), fun p hp => .inl hp⟩)
          replace oY := obs_nx (Ps' := [P12, P11]) oY hb109 (List.forall_mem_cons.2 ⟨.inr (by have := hN.out; omega), fun p hp => .inl hp⟩)
          have k9 := k8.trans (hb109.mono k8.size)
          have hS9 : Blk y9 B3 G0 43 ∧ Blk y9 B4 C1 40 := ⟨hS8.1.next hb109, hS8.2.next hb109⟩
          clear hN
          refine ⟨hS9, ?_⟩
          exact rest _ _ ⟨P11, P12, aX, nX, cX, aY, nY, cY, rfl, hS9, hP11, hP12, hPne, hgP11, hgP12, obs_nx oX (Below.refl _ _) (fun p hp => .inl (by simp at hp ⊢; omega)), obs_nx oY (Below.refl _ _) (fun p hp => .inl (by simp at hp ⊢; omega)), k9⟩
        · refine wpOp_allocL (ty := 43) (z := zW) (d := some 12) (by kernel_rfl) zero43 ?_
          intro P12 y10 hN hP12 hb110
          have hgP12 : v1.heap.size ≤ P12 := by have := hN.out; have := k7.size; omega
          have hPne : P11 ≠ P12 := by have := hN.out; have := hP11.lt; omega
          replace hP11 := hP11.next hb110
          replace oX := obs_nx (Ps' := [P12, P11]) oX hb110 (List.forall_mem_cons.2 ⟨.inr (by have := hN.out; omega), fun p hp => .inl hp⟩)
          have k10 := k7.trans (hb110.mono k7.size)
          have hS10 : Blk y10 B3 G0 43 ∧ Blk y10 B4 C1 40 := ⟨hS7.1.next hb110, hS7.2.next hb110⟩
          clear hN
          refine ⟨hS10, ?_⟩
          refine wpAnyH_single (i := 5) (n := 2) rfl (by kernel_rfl) ?_
          refine wpOp_callL (f := 28) (vs := [.agg G0, .int .u64 a2]) (d := some 49) (by kernel_rfl) Try.call28 (dw (hk.trans (k10.mono hk.size)) hs0 hn0 sm0) ?_
          rintro e y11 ⟨aY, nY, cY, rfl, oY, hb111⟩
          replace oY := obs_new (Ps := [P12, P11]) oY hwv k10.size hb111.size (List.forall_mem_cons.2 ⟨⟨hgP12, hP12.lt⟩, List.forall_mem_cons.2 ⟨⟨hgP11, hP11.lt⟩, List.forall_mem_nil _⟩⟩)
          replace oX := obs_nx (Ps' := [P12, P11]) oX hb111 (fun p hp => .inl hp)
          replace hP12 := hP12.next hb111
          replace hP11 := hP11.next hb111
          have k11 := k10.trans (hb111.mono k10.size)
          have hS11 : Blk y11 B3 G0 43 ∧ Blk y11 B4 C1 40 := ⟨hS10.1.next hb111, hS10.2.next hb111⟩
          refine ⟨_, rfl, hS11, ?_⟩
          exact rest _ _ ⟨P11, P12, aX, nX, cX, aY, nY, cY, rfl, hS11, hP11, hP12, hPne, hgP11, hgP12, obs_nx oX (Below.refl _ _) (fun p hp => .inl (by simp at hp ⊢; omega)), obs_nx oY (Below.refl _ _) (fun p hp => .inl (by simp at hp ⊢; omega)), k11⟩
      · refine wpOp_allocL (ty := 43) (z := zW) (d := some 12) (by kernel_rfl) zero43 ?_
        intro P12 y12 hN hP12 hb112
        have hgP12 : v1.heap.size ≤ P12 := by have := hN.out; have := k1.size; omega
        replace oX := obs_nx (Ps' := [P12]) oX hb112 (List.forall_mem_cons.2 ⟨.inr (by have := hN.out; omega), fun p hp => .inl hp⟩)
        have k12 := k1.trans (hb112.mono k1.size)
        have hS12 : Blk y12 B3 G0 43 ∧ Blk y12 B4 C1 40 := ⟨hS1.1.next hb112, hS1.2.next hb112⟩
        clear hN
        refine ⟨hS12, ?_⟩
        refine wpAnyH_two (i := 5) (j := 6) (n := 3) rfl (by kernel_rfl) ?_ ?_
        · refine wpOp_callL (f := 28) (vs := [.agg G0, .int .u64 a2]) (d := some 49) (by kernel_rfl) Try.call28 (dw (hk.trans (k12.mono hk.size)) hs0 hn0 sm0) ?_
          rintro e y13 ⟨aY, nY, cY, rfl, oY, hb113⟩
          replace oY := obs_new (Ps := [P12]) oY hwv k12.size hb113.size (List.forall_mem_cons.2 ⟨⟨hgP12, hP12.lt⟩, List.forall_mem_nil _⟩)
          replace oX := obs_nx (Ps' := [P12]) oX hb113 (fun p hp => .inl hp)
          replace hP12 := hP12.next hb113
          have k13 := k12.trans (hb113.mono k12.size)
          have hS13 : Blk y13 B3 G0 43 ∧ Blk y13 B4 C1 40 := ⟨hS12.1.next hb113, hS12.2.next hb113⟩
          refine ⟨_, rfl, hS13, ?_⟩
          refine wpAnyH_single (i := 6) (n := 2) rfl (by kernel_rfl) ?_
          refine wpOp_allocL (ty := 43) (z := zW) (d := some 11) (by kernel_rfl) zero43 ?_
          intro P11 y14 hN hP11 hb114
          have hgP11 : v1.heap.size ≤ P11 := by have := hN.out; have := k13.size; omega
          have hPne : P12 ≠ P11 := by have := hN.out; have := hP12.lt; omega
          replace hP12 := hP12.next hb114
          replace oX := obs_nx (Ps' := [P11, P12]) oX hb114 (List.forall_mem_cons.2 ⟨.inr (by have := hN.out; omega), fun p hp => .inl hp⟩)
          replace oY := obs_nx (Ps' := [P11, P12]) oY hb114 (List.forall_mem_cons.2 ⟨.inr (by have := hN.out; omega), fun p hp => .inl hp⟩)
          have k14 := k13.trans (hb114.mono k13.size)
          have hS14 : Blk y14 B3 G0 43 ∧ Blk y14 B4 C1 40 := ⟨hS13.1.next hb114, hS13.2.next hb114⟩
          clear hN
          refine ⟨hS14, ?_⟩
          exact rest _ _ ⟨P11, P12, aX, nX, cX, aY, nY, cY, rfl, hS14, hP11, hP12, hPne.symm, hgP11, hgP12, obs_nx oX (Below.refl _ _) (fun p hp => .inl (by simp at hp ⊢; omega)), obs_nx oY (Below.refl _ _) (fun p hp => .inl (by simp at hp ⊢; omega)), k14⟩
        · refine wpOp_allocL (ty := 43) (z := zW) (d := some 11) (by kernel_rfl) zero43 ?_
          intro P11 y15 hN hP11 hb115
          have hgP11 : v1.heap.size ≤ P11 := by have := hN.out; have := k12.size; omega
          have hPne : P12 ≠ P11 := by have := hN.out; have := hP12.lt; omega
          replace hP12 := hP12.next hb115
          replace oX := obs_nx (Ps' := [P11, P12]) oX hb115 (List.forall_mem_cons.2 ⟨.inr (by have := hN.out; omega), fun p hp => .inl hp⟩)
          have k15 := k12.trans (hb115.mono k12.size)
          have hS15 : Blk y15 B3 G0 43 ∧ Blk y15 B4 C1 40 := ⟨hS12.1.next hb115, hS12.2.next hb115⟩
          clear hN
          refine ⟨hS15, ?_⟩
          refine wpAnyH_single (i := 5) (n := 2) rfl (by kernel_rfl) ?_
          refine wpOp_callL (f := 28) (vs := [.agg G0, .int .u64 a2]) (d := some 49) (by kernel_rfl) Try.call28 (dw (hk.trans (k15.mono hk.size)) hs0 hn0 sm0) ?_
          rintro e y16 ⟨aY, nY, cY, rfl, oY, hb116⟩
          replace oY := obs_new (Ps := [P11, P12]) oY hwv k15.size hb116.size (List.forall_mem_cons.2 ⟨⟨hgP11, hP11.lt⟩, List.forall_mem_cons.2 ⟨⟨hgP12, hP12.lt⟩, List.forall_mem_nil _⟩⟩)
          replace oX := obs_nx (Ps' := [P11, P12]) oX hb116 (fun p hp => .inl hp)
          replace hP11 := hP11.next hb116
          replace hP12 := hP12.next hb116
          have k16 := k15.trans (hb116.mono k15.size)
          have hS16 : Blk y16 B3 G0 43 ∧ Blk y16 B4 C1 40 := ⟨hS15.1.next hb116, hS15.2.next hb116⟩
          refine ⟨_, rfl, hS16, ?_⟩
          exact rest _ _ ⟨P11, P12, aX, nX, cX, aY, nY, cY, rfl, hS16, hP11, hP12, hPne.symm, hgP11, hgP12, obs_nx oX (Below.refl _ _) (fun p hp => .inl (by simp at hp ⊢; omega)), obs_nx oY (Below.refl _ _) (fun p hp => .inl (by simp at hp ⊢; omega)), k16⟩
    · refine wpOp_allocL (ty := 43) (z := zW) (d := some 11) (by kernel_rfl) zero43 ?_
      intro P11 y17 hN hP11 hb117
      have hgP11 : v1.heap.size ≤ P11 := by have := hN.out; have := (Below.refl v1.heap.size v1).size; omega
      have k17 := (Below.refl v1.heap.size v1).trans (hb117.mono (Below.refl v1.heap.size v1).size)
      have hS17 : Blk y17 B3 G0 43 ∧ Blk y17 B4 C1 40 := ⟨hS.1.next hb117, hS.2.next hb117⟩
      clear hN
      refine ⟨hS17, ?_⟩
      refine wpAnyH_two (i := 2) (j := 7) (n := 4) rfl (by kernel_rfl) ?_ ?_
      · refine wpOp_callL (f := 27) (vs := [.agg G0, .agg C1]) (d := some 46) (by kernel_rfl) Try.call27 (pw (hk.trans (k17.mono hk.size)) hs0 hn0 sm0 sm1) ?_
        rintro e y18 ⟨aX, nX, cX, rfl, oX, hb118⟩
        replace oX := obs_new (Ps := [P11]) oX hwv k17.size hb118.size (List.forall_mem_cons.2 ⟨⟨hgP11, hP11.lt⟩, List.forall_mem_nil _⟩)
        replace hP11 := hP11.next hb118
        have k18 := k17.trans (hb118.mono k17.size)
        have hS18 : Blk y18 B3 G0 43 ∧ Blk y18 B4 C1 40 := ⟨hS17.1.next hb118, hS17.2.next hb118⟩
        refine ⟨_, rfl, hS18, ?_⟩
        refine wpAnyH_two (i := 5) (j := 7) (n := 3) rfl (by kernel_rfl) ?_ ?_
        · refine wpOp_callL (f := 28) (vs := [.agg G0, .int .u64 a2]) (d := some 49) (by kernel_rfl) Try.call28 (dw (hk.trans (k18.mono hk.size)) hs0 hn0 sm0) ?_
          rintro e y19 ⟨aY, nY, cY, rfl, oY, hb119⟩
          replace oY := obs_new (Ps := [P11]) oY hwv k18.size hb119.size (List.forall_mem_cons.2 ⟨⟨hgP11, hP11.lt⟩, List.forall_mem_nil _⟩)
          replace oX := obs_nx (Ps' := [P11]) oX hb119 (fun p hp => .inl hp)
          replace hP11 := hP11.next hb119
          have k19 := k18.trans (hb119.mono k18.size)
          have hS19 : Blk y19 B3 G0 43 ∧ Blk y19 B4 C1 40 := ⟨hS18.1.next hb119, hS18.2.next hb119⟩
          refine ⟨_, rfl, hS19, ?_⟩
          refine wpAnyH_single (i := 7) (n := 2) rfl (by kernel_rfl) ?_
          refine wpOp_allocL (ty := 43) (z := zW) (d := some 12) (by kernel_rfl) zero43 ?_
          intro P12 y20 hN hP12 hb120
          have hgP12 : v1.heap.size ≤ P12 := by have := hN.out; have := k19.size; omega
          have hPne : P11 ≠ P12 := by have := hN.out; have := hP11.lt; omega
          replace hP11 := hP11.next hb120
          replace oX := obs_nx (Ps' := [P12, P11]) oX hb120 (List.forall_mem_cons.2 ⟨.inr (by have := hN.out; omega), fun p hp => .inl hp⟩)
          replace oY := obs_nx (Ps' := [P12, P11]) oY hb120 (List.forall_mem_cons.2 ⟨.inr (by have := hN.out; omega), fun p hp => .inl hp⟩)
          have k20 := k19.trans (hb120.mono k19.size)
          have hS20 : Blk y20 B3 G0 43 ∧ Blk y20 B4 C1 40 := ⟨hS19.1.next hb120, hS19.2.next hb120⟩
          clear hN
          refine ⟨hS20, ?_⟩
          exact rest _ _ ⟨P11, P12, aX, nX, cX, aY, nY, cY, rfl, hS20, hP11, hP12, hPne, hgP11, hgP12, obs_nx oX (Below.refl _ _) (fun p hp => .inl (by simp at hp ⊢; omega)), obs_nx oY (Below.refl _ _) (fun p hp => .inl (by simp at hp ⊢; omega)), k20⟩
        · refine wpOp_allocL (ty := 43) (z := zW) (d := some 12) (by kernel_rfl) zero43 ?_
          intro P12 y21 hN hP12 hb121
          have hgP12 : v1.heap.size ≤ P12 := by have := hN.out; have := k18.size; omega
          have hPne : P11 ≠ P12 := by have := hN.out; have := hP11.lt; omega
          replace hP11 := hP11.next hb121
          replace oX := obs_nx (Ps' := [P12, P11]) oX hb121 (List.forall_mem_cons.2 ⟨.inr (by have := hN.out; omega), fun p hp => .inl hp⟩)
          have k21 := k18.trans (hb121.mono k18.size)
          have hS21 : Blk y21 B3 G0 43 ∧ Blk y21 B4 C1 40 := ⟨hS18.1.next hb121, hS18.2.next hb121⟩
          clear hN
          refine ⟨hS21, ?_⟩
          refine wpAnyH_single (i := 5) (n := 2) rfl (by kernel_rfl) ?_
          refine wpOp_callL (f := 28) (vs := [.agg G0, .int .u64 a2]) (d := some 49) (by kernel_rfl) Try.call28 (dw (hk.trans (k21.mono hk.size)) hs0 hn0 sm0) ?_
          rintro e y22 ⟨aY, nY, cY, rfl, oY, hb122⟩
          replace oY := obs_new (Ps := [P12, P11]) oY hwv k21.size hb122.size (List.forall_mem_cons.2 ⟨⟨hgP12, hP12.lt⟩, List.forall_mem_cons.2 ⟨⟨hgP11, hP11.lt⟩, List.forall_mem_nil _⟩⟩)
          replace oX := obs_nx (Ps' := [P12, P11]) oX hb122 (fun p hp => .inl hp)
          replace hP12 := hP12.next hb122
          replace hP11 := hP11.next hb122
          have k22 := k21.trans (hb122.mono k21.size)
          have hS22 : Blk y22 B3 G0 43 ∧ Blk y22 B4 C1 40 := ⟨hS21.1.next hb122, hS21.2.next hb122⟩
          refine ⟨_, rfl, hS22, ?_⟩
          exact rest _ _ ⟨P11, P12, aX, nX, cX, aY, nY, cY, rfl, hS22, hP11, hP12, hPne, hgP11, hgP12, obs_nx oX (Below.refl _ _) (fun p hp => .inl (by simp at hp ⊢; omega)), obs_nx oY (Below.refl _ _) (fun p hp => .inl (by simp at hp ⊢; omega)), k22⟩
      · refine wpOp_allocL (ty := 43) (z := zW) (d := some 12) (by kernel_rfl) zero43 ?_
        intro P12 y23 hN hP12 hb123
        have hgP12 : v1.heap.size ≤ P12 := by have := hN.out; have := k17.size; omega
        have hPne : P11 ≠ P12 := by have := hN.out; have := hP11.lt; omega
        replace hP11 := hP11.next hb123
        have k23 := k17.trans (hb123.mono k17.size)
        have hS23 : Blk y23 B3 G0 43 ∧ Blk y23 B4 C1 40 := ⟨hS17.1.next hb123, hS17.2.next hb123⟩
        clear hN
        refine ⟨hS23, ?_⟩
        refine wpAnyH_single (i := 2) (n := 3) rfl (by kernel_rfl) ?_
        refine wpOp_callL (f := 27) (vs := [.agg G0, .agg C1]) (d := some 46) (by kernel_rfl) Try.call27 (pw (hk.trans (k23.mono hk.size)) hs0 hn0 sm0 sm1) ?_
        rintro e y24 ⟨aX, nX, cX, rfl, oX, hb124⟩
        replace oX := obs_new (Ps := [P12, P11]) oX hwv k23.size hb124.size (List.forall_mem_cons.2 ⟨⟨hgP12, hP12.lt⟩, List.forall_mem_cons.2 ⟨⟨hgP11, hP11.lt⟩, List.forall_mem_nil _⟩⟩)
        replace hP12 := hP12.next hb124
        replace hP11 := hP11.next hb124
        have k24 := k23.trans (hb124.mono k23.size)
        have hS24 : Blk y24 B3 G0 43 ∧ Blk y24 B4 C1 40 := ⟨hS23.1.next hb124, hS23.2.next hb124⟩
        refine ⟨_, rfl, hS24, ?_⟩
        refine wpAnyH_single (i := 5) (n := 2) rfl (by kernel_rfl) ?_
        refine wpOp_callL (f := 28) (vs := [.agg G0, .int .u64 a2]) (d := some 49) (by kernel_rfl) Try.call28 (dw (hk.trans (k24.mono hk.size)) hs0 hn0 sm0) ?_
        rintro e y25 ⟨aY, nY, cY, rfl, oY, hb125⟩
        replace oY := obs_new (Ps := [P12, P11]) oY hwv k24.size hb125.size (List.forall_mem_cons.2 ⟨⟨hgP12, hP12.lt⟩, List.forall_mem_cons.2 ⟨⟨hgP11, hP11.lt⟩, List.forall_mem_nil _⟩⟩)
        replace oX := obs_nx (Ps' := [P12, P11]) oX hb125 (fun p hp => .inl hp)
        replace hP12 := hP12.next hb125
        replace hP11 := hP11.next hb125
        have k25 := k24.trans (hb125.mono k24.size)
        have hS25 : Blk y25 B3 G0 43 ∧ Blk y25 B4 C1 40 := ⟨hS24.1.next hb125, hS24.2.next hb125⟩
        refine ⟨_, rfl, hS25, ?_⟩
        exact rest _ _ ⟨P11, P12, aX, nX, cX, aY, nY, cY, rfl, hS25, hP11, hP12, hPne, hgP11, hgP12, obs_nx oX (Below.refl _ _) (fun p hp => .inl (by simp at hp ⊢; omega)), obs_nx oY (Below.refl _ _) (fun p hp => .inl (by simp at hp ⊢; omega)), k25⟩
    · refine wpOp_allocL (ty := 43) (z := zW) (d := some 12) (by kernel_rfl) zero43 ?_
      intro P12 y26 hN hP12 hb126
      have hgP12 : v1.heap.size ≤ P12 := by have := hN.out; have := (Below.refl v1.heap.size v1).size; omega
      have k26 := (Below.refl v1.heap.size v1).trans (hb126.mono (Below.refl v1.heap.size v1).size)
      have hS26 : Blk y26 B3 G0 43 ∧ Blk y26 B4 C1 40 := ⟨hS.1.next hb126, hS.2.next hb126⟩
      clear hN
      refine ⟨hS26, ?_⟩
      refine wpAnyH_two (i := 2) (j := 6) (n := 4) rfl (by kernel_rfl) ?_ ?_
      · refine wpOp_callL (f := 27) (vs := [.agg G0, .agg C1]) (d := some 46) (by kernel_rfl) Try.call27 (pw (hk.trans (k26.mono hk.size)) hs0 hn0 sm0 sm1) ?_
        rintro e y27 ⟨aX, nX, cX, rfl, oX, hb127⟩
        replace oX := obs_new (Ps := [P12]) oX hwv k26.size hb127.size (List.forall_mem_cons.2 ⟨⟨hgP12, hP12.lt⟩, List.forall_mem_nil _⟩)
        replace hP12 := hP12.next hb127
        have k27 := k26.trans (hb127.mono k26.size)
        have hS27 : Blk y27 B3 G0 43 ∧ Blk y27 B4 C1 40 := ⟨hS26.1.next hb127, hS26.2.next hb127⟩
        refine ⟨_, rfl, hS27, ?_⟩
        refine wpAnyH_two (i := 5) (j := 6) (n := 3) rfl (by kernel_rfl) ?_ ?_
        · refine wpOp_callL (f := 28) (vs := [.agg G0, .int .u64 a2]) (d := some 49) (by kernel_rfl) Try.call28 (dw (hk.trans (k27.mono hk.size)) hs0 hn0 sm0) ?_
          rintro e y28 ⟨aY, nY, cY, rfl, oY, hb128⟩
          replace oY := obs_new (Ps := [P12]) oY hwv k27.size hb128.size (List.forall_mem_cons.2 ⟨⟨hgP12, hP12.lt⟩, List.forall_mem_nil _⟩)
          replace oX := obs_nx (Ps' := [P12]) oX hb128 (fun p hp => .inl hp)
          replace hP12 := hP12.next hb128
          have k28 := k27.trans (hb128.mono k27.size)
          have hS28 : Blk y28 B3 G0 43 ∧ Blk y28 B4 C1 40 := ⟨hS27.1.next hb128, hS27.2.next hb128⟩
          refine ⟨_, rfl, hS28, ?_⟩
          refine wpAnyH_single (i := 6) (n := 2) rfl (by kernel_rfl) ?_
          refine wpOp_allocL (ty := 43) (z := zW) (d := some 11) (by kernel_rfl) zero43 ?_
          intro P11 y29 hN hP11 hb129
          have hgP11 : v1.heap.size ≤ P11 := by have := hN.out; have := k28.size; omega
          have hPne : P12 ≠ P11 := by have := hN.out; have := hP12.lt; omega
          replace hP12 := hP12.next hb129
          replace oX := obs_nx (Ps' := [P11, P12]) oX hb129 (List.forall_mem_cons.2 ⟨.inr (by have := hN.out; omega), fun p hp => .inl hp⟩)
          replace oY := obs_nx (Ps' := [P11, P12]) oY hb129 (List.forall_mem_cons.2 ⟨.inr (by have := hN.out; omega), fun p hp => .inl hp⟩)
          have k29 := k28.trans (hb129.mono k28.size)
          have hS29 : Blk y29 B3 G0 43 ∧ Blk y29 B4 C1 40 := ⟨hS28.1.next hb129, hS28.2.next hb129⟩
          clear hN
          refine ⟨hS29, ?_⟩
          exact rest _ _ ⟨P11, P12, aX, nX, cX, aY, nY, cY, rfl, hS29, hP11, hP12, hPne.symm, hgP11, hgP12, obs_nx oX (Below.refl _ _) (fun p hp => .inl (by simp at hp ⊢; omega)), obs_nx oY (Below.refl _ _) (fun p hp => .inl (by simp at hp ⊢; omega)), k29⟩
        · refine wpOp_allocL (ty := 43) (z := zW) (d := some 11) (by kernel_rfl) zero43 ?_
          intro P11 y30 hN hP11 hb130
          have hgP11 : v1.heap.size ≤ P11 := by have := hN.out; have := k27.size; omega
          have hPne : P12 ≠ P11 := by have := hN.out; have := hP12.lt; omega
          replace hP12 := hP12.next hb130
          replace oX := obs_nx (Ps' := [P11, P12]) oX hb130 (List.forall_mem_cons.2 ⟨.inr (by have := hN.out; omega), fun p hp => .inl hp⟩)
          have k30 := k27.trans (hb130.mono k27.size)
          have hS30 : Blk y30 B3 G0 43 ∧ Blk y30 B4 C1 40 := ⟨hS27.1.next hb130, hS27.2.next hb130⟩
          clear hN
          refine ⟨hS30, ?_⟩
          refine wpAnyH_single (i := 5) (n := 2) rfl (by kernel_rfl) ?_
          refine wpOp_callL (f := 28) (vs := [.agg G0, .int .u64 a2]) (d := some 49) (by kernel_rfl) Try.call28 (dw (hk.trans (k30.mono hk.size)) hs0 hn0 sm0) ?_
          rintro e y31 ⟨aY, nY, cY, rfl, oY, hb131⟩
          replace oY := obs_new (Ps := [P11, P12]) oY hwv k30.size hb131.size (List.forall_mem_cons.2 ⟨⟨hgP11, hP11.lt⟩, List.forall_mem_cons.2 ⟨⟨hgP12, hP12.lt⟩, List.forall_mem_nil _⟩⟩)
          replace oX := obs_nx (Ps' := [P11, P12]) oX hb131 (fun p hp => .inl hp)
          replace hP11 := hP11.next hb131
          replace hP12 := hP12.next hb131
          have k31 := k30.trans (hb131.mono k30.size)
          have hS31 : Blk y31 B3 G0 43 ∧ Blk y31 B4 C1 40 := ⟨hS30.1.next hb131, hS30.2.next hb131⟩
          refine ⟨_, rfl, hS31, ?_⟩
          exact rest _ _ ⟨P11, P12, aX, nX, cX, aY, nY, cY, rfl, hS31, hP11, hP12, hPne.symm, hgP11, hgP12, obs_nx oX (Below.refl _ _) (fun p hp => .inl (by simp at hp ⊢; omega)), obs_nx oY (Below.refl _ _) (fun p hp => .inl (by simp at hp ⊢; omega)), k31⟩
      · refine wpOp_allocL (ty := 43) (z := zW) (d := some 11) (by kernel_rfl) zero43 ?_
        intro P11 y32 hN hP11 hb132
        have hgP11 : v1.heap.size ≤ P11 := by have := hN.out; have := k26.size; omega
        have hPne : P12 ≠ P11 := by have := hN.out; have := hP12.lt; omega
        replace hP12 := hP12.next hb132
        have k32 := k26.trans (hb132.mono k26.size)
        have hS32 : Blk y32 B3 G0 43 ∧ Blk y32 B4 C1 40 := ⟨hS26.1.next hb132, hS26.2.next hb132⟩
        clear hN
        refine ⟨hS32, ?_⟩
        refine wpAnyH_single (i := 2) (n := 3) rfl (by kernel_rfl) ?_
        refine wpOp_callL (f := 27) (vs := [.agg G0, .agg C1]) (d := some 46) (by kernel_rfl) Try.call27 (pw (hk.trans (k32.mono hk.size)) hs0 hn0 sm0 sm1) ?_
        rintro e y33 ⟨aX, nX, cX, rfl, oX, hb133⟩
        replace oX := obs_new (Ps := [P11, P12]) oX hwv k32.size hb133.size (List.forall_mem_cons.2 ⟨⟨hgP11, hP11.lt⟩, List.forall_mem_cons.2 ⟨⟨hgP12, hP12.lt⟩, List.forall_mem_nil _⟩⟩)
        replace hP11 := hP11.next hb133
        replace hP12 := hP12.next hb133
        have k33 := k32.trans (hb133.mono k32.size)
        have hS33 : Blk y33 B3 G0 43 ∧ Blk y33 B4 C1 40 := ⟨hS32.1.next hb133, hS32.2.next hb133⟩
        refine ⟨_, rfl, hS33, ?_⟩
        refine wpAnyH_single (i := 5) (n := 2) rfl (by kernel_rfl) ?_
        refine wpOp_callL (f := 28) (vs := [.agg G0, .int .u64 a2]) (d := some 49) (by kernel_rfl) Try.call28 (dw (hk.trans (k33.mono hk.size)) hs0 hn0 sm0) ?_
        rintro e y34 ⟨aY, nY, cY, rfl, oY, hb134⟩
        replace oY := obs_new (Ps := [P11, P12]) oY hwv k33.size hb134.size (List.forall_mem_cons.2 ⟨⟨hgP11, hP11.lt⟩, List.forall_mem_cons.2 ⟨⟨hgP12, hP12.lt⟩, List.forall_mem_nil _⟩⟩)
        replace oX := obs_nx (Ps' := [P11, P12]) oX hb134 (fun p hp => .inl hp)
        replace hP11 := hP11.next hb134
        replace hP12 := hP12.next hb134
        have k34 := k33.trans (hb134.mono k33.size)
        have hS34 : Blk y34 B3 G0 43 ∧ Blk y34 B4 C1 40 := ⟨hS33.1.next hb134, hS33.2.next hb134⟩
        refine ⟨_, rfl, hS34, ?_⟩
        exact rest _ _ ⟨P11, P12, aX, nX, cX, aY, nY, cY, rfl, hS34, hP11, hP12, hPne.symm, hgP11, hgP12, obs_nx oX (Below.refl _ _) (fun p hp => .inl (by simp at hp ⊢; omega)), obs_nx oY (Below.refl _ _) (fun p hp => .inl (by simp at hp ⊢; omega)), k34⟩

set_option maxRecDepth 100000 in
theorem lifted (os : Os) (started : os.Started) (H : Type) (enc : TypeId × Value → H) :
    ReturnsInHanded {} Try.checked os 4 .any (Rows.objPutsSpec.pre6 enc Try.prog Try.f4 Rows.objPutsRow.domain false) (Rows.objPutsSpec.post enc Try.prog Try.f4 false true false false) := by
  refine returnsInHanded_of_change (C := Try.checked) own started (by kernel_rfl) Try.func4
    (ChangeSpec.witness6 (enc := enc) (C := Try.checked) false ⟨#[], #[.agg #[.int .i64 0, .int .u64 0, .int .u64 0, .slice none 0 0], .agg zC, .int .u64 0], []⟩ 8 (by kernel_rfl) (by kernel_rfl) (by kernel_rfl) (by kernel_rfl)) ?_
  intro W base args ds gs before hval0 hW hcnd _
  have hval : ∀ (j : Nat) t v, Try.f4.params[j]? = some t → args[j]? = some v → Value.okWide Try.prog W .any base t v := hval0
  have hW' := hW
  obtain ⟨p, q, hA0, hV, rfl, hfz, hnd⟩ := hW
  have hA : DataW.TrodAll enc Try.prog W 0 (fun _ => true) true Try.f4.params.toList args.toList ds p := hA0
  rw [Try.params4] at hA hval
  obtain ⟨v0, vs0, d0, ds0, p0, q0, hargs, rfl, rfl, h0, r0⟩ := trodAll_cons hA
  obtain ⟨v1, vs1, d1, ds1, p1, q1, rfl, rfl, rfl, h1, r1⟩ := trodAll_cons r0
  obtain ⟨v2, vs2, d2, ds2, p2, q2, rfl, rfl, rfl, h2, r2⟩ := trodAll_cons r1
  obtain ⟨rfl, rfl, rfl⟩ := trodAll_nil r2
  obtain rfl : args = #[v0, v1, v2] := by cases args; simp_all
  obtain ⟨rfl, rfl⟩ := trodVars_none hV
  obtain ⟨t0, ke0, ro0, ao0, n0, cap0, X0, rfl, l0⟩ := world_of_trod (hval 0 43 v0 rfl rfl) h0
  have k0 := h0
  have lt0 : ∀ x ∈ p0, x.block < W.heap.size := by obtain ⟨m, hm⟩ := k0; exact DataW.trod_lt m _ _ _ hm
  obtain ⟨C1, x1, rfl, l1⟩ := obj_of_trod (hval 1 40 v1 rfl rfl) h1
  have k1 := h1
  have lt1 : ∀ x ∈ p1, x.block < W.heap.size := by obtain ⟨m, hm⟩ := k1; exact DataW.trod_lt m _ _ _ hm
  obtain ⟨a2, rfl, rfl, rfl, w2⟩ := open_int Try.underlying22 (hval 2 22 v2 rfl rfl) h2
  clear hA0 hval0
  refine (walk t0 ke0 ro0 ao0 n0 cap0 X0 C1 x1 a2 W l0 l1 w2).mono fun e W' ⟨he, bel⟩ => ?_
  subst he
  exact ⟨_, rfl, _, _, _, [], _, [], hW', trodAll_mk1 (shut_bool Try.underlying4 _), (trodAll_cons_mk (Below.trod laidOut (by kernel_rfl) (of_decide_eq_true (by kernel_rfl)) k0 bel lt0) (trodAll_cons_mk (Below.trod laidOut (by kernel_rfl) (of_decide_eq_true (by kernel_rfl)) k1 bel lt1) (trodAll_cons_mk (shut_int Try.underlying22 w2) trodAll_mk0))), rfl, bel.frame _, fun h => by cases h⟩

theorem over : Rows.objPutsRow.holds Try.pinned (OpenSpec.ofChange Rows.objPutsSpec) :=
  OpenClaim.holds_of_wide 4 Try.f4 rfl rfl rfl rfl rfl rfl rfl ⟨rfl, rfl, rfl, rfl, rfl⟩ rfl rfl rfl rfl rfl (by kernel_rfl) Try.func4 (by kernel_rfl)
    (of_decide_eq_true (by kernel_rfl)) (by unfold Func.isWrapper; first | (rw [if_pos (by decide +kernel)]; kernel_rfl) | (rw [if_neg (by decide +kernel)]; exact ⟨rfl, rfl⟩))
    (fun os started H enc _ => lifted os started H enc)

end objPuts
/-- The statement. -/
theorem objPuts_holds : Rows.ObjPutsSaid :=
  objPuts.over
#print axioms objPuts_holds
end Go.Proofs.Ytfpmkihlfhpgdaa
