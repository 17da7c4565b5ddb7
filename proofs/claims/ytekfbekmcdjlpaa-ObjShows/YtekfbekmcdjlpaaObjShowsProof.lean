/-
  PROVED HERE: what a container's readers see of a thing tells its id, kind and quota, and no thread's label, nor what any has; by what others see it it owns nothing (ObjShows), over the landed code. No condition.
-/
import Derived.Test.YtekfbekmcdjlpaaRows
import Derived.Test.YtekfbekmcdjlpaaObOpen
import Derived.Test.YtekfbekmcdjlpaaObE
import Derived.WalkKit
import Derived.ProofKit
import Derived.OpenShut
import Derived.Below
import Derived.ShutString
import Derived.Deep.QuietTactic
namespace Go.Proofs.Ytekfbekmcdjlpaa
namespace objShows
open Go.ChangeShapes Go.WideShapes Go.ChangeAt Go.RowKit
open Go.ChangeMaps (open_string shut_string)
set_option linter.unusedVariables false

theorem own : ownKnob Try.prog.godebug = none := by kernel_rfl

set_option maxRecDepth 100000 in
set_option maxHeartbeats 8000000 in
theorem walk (C0 : Array Value) (x0 : Ob) (w : World) (l0 : ObD (LtN w) w C0 x0) :
    Calls Try.prog 7 #[.agg C0] w fun e w' => e = .returned (.bool true) ∧ Below w.heap.size w w' := by
  have ga0 := Try.isAgg24
  have ga1 := Try.isAgg22
  have ga2 := Try.isAgg3
  have ga3 := Try.isAgg4
  have ga4 := Try.isAgg25
  have ga5 := Try.isAgg26
  have hz := l0.size
  have hmx : Try.prog.follows .mixedOrders = true := by kernel_rfl
  have aw := awake_any
  go_enter Try.func7, Try.ntmps7
  try simp only [List.append]
  go_wp2_with (first
    | go_skip
    | (with_reducible refine wpList_box rfl _ _ rfl C0 rfl ?_; intro B W hB hb hk)
    | (with_reducible refine wpList_loadb (by kernel_rfl) 40 _ rfl B rfl C0 hb _ Try.underlying40 (by kernel_rfl) (size40C hz) ?_)
    | (go_at_call 8; (with_reducible refine (brief_any (l0.next hk)).on ?_ ?_) <;> (intro w1 hq1 hb1; replace hb := hb.next hb1; replace hk := hk.trans (hb1.mono hk.size)))
    | (go_at_call 12; (with_reducible refine (rsound_any (l0.next hk)).on ?_ ?_) <;> (intro w2 hq2 hb2; replace hb := hb.next hb2; replace hk := hk.trans (hb2.mono hk.size)))
    | (go_at_call 10; (with_reducible refine (aw _).mono ?_); rintro e w3 ⟨rfl, hb3⟩; replace hk := hk.trans (hb3.mono hk.size)))
  all_goals (try (go_ret; exact ⟨rfl, hk⟩))
  have hso : soundB x0 = true := hq2.out
  have hsm : Small x0 := small_of hq1.out hso
  have hsH : Hid (soundB x0 = true) := hso
  have hwB : Hid (w.heap.size = B) := hB.out.1
  clear hso hq1 hq2 hB
  refine PgM.region_out (S := fun W => Blk W B C0 40) hmx (hb.next (Below.refl _ _).drew) (fun hS => ?_)
  replace hk := hk.trans ((Below.refl _ w2).drew.mono hk.size)
  generalize w2.drew = W3 at hS hk ⊢
  clear hb
  have ld : ∀ (S : World → Prop), (∀ w, S w → Blk w B C0 40) → Obl.holds Try.prog S (.load 40 B 0 (.agg C0)) := fun S hS => ob_loadb hS Try.underlying40 (by kernel_rfl) (size40C hz)
  refine wpAnyH_sym (by kernel_rfl) (fun _ _ _ _ _ h => h) hS [(0, some (.agg C0)), (2, some (.agg C0))] (l' := #[true, false, true, false, false, false, false]) (a' := { tmps := #[.agg C0, .pointer (some ⟨B, 0, none⟩), .bool false, undef, undef, undef, undef, .agg C0, .bool true, .bool false, .bool false, .agg C0, .bool true, .bool false, .bool false, undef, .agg C0, undef, .agg C0, undef, undef, undef, undef, undef, undef, undef, undef, undef, undef, undef, undef, undef, undef, undef, undef, undef, undef, undef, undef, undef, undef, undef, undef, undef, undef, undef, undef, undef, undef, undef, undef, undef, undef, undef, undef, undef, undef, undef, undef, undef, undef, undef, undef, undef, undef, undef, undef, undef, undef, undef, undef, undef, undef, undef, undef, undef, undef, undef, undef, undef, undef, undef, undef, undef, undef, undef, undef, undef, undef, undef, undef, undef, undef, undef, undef, undef, undef, undef, undef, undef, undef, undef, undef, undef, undef, undef, undef, undef, undef, undef, undef, undef, undef, undef, undef, undef, undef, undef, undef, undef, undef, undef], defers := [] }) (obs := [.load 40 B 0 (.agg C0), .load 40 B 0 (.agg C0)]) (n := 5) (by kernel_rfl) (by kernel_rfl) ⟨ld _ (fun _ h => h), ld _ (fun _ h => h), trivial⟩ ?_
  refine share 2 #[true, true, true, true, true, false, false] (fun A W => ∃ (Hh : Nat) (C1 : Array Value) (ao : Option Addr) (n k : Nat), A = { tmps := #[.agg C0, .pointer (some ⟨B, 0, none⟩), .bool false, .pointer (some ⟨Hh, 0, none⟩), undef, undef, undef, .agg C0, .bool true, .bool false, .bool false, .agg C0, .bool true, .bool false, .bool false, undef, .agg C0, .agg C1, .agg C0, .slice ao n k, undef, undef, undef, undef, undef, undef, undef, undef, undef, undef, undef, undef, undef, undef, undef, undef, undef, undef, undef, undef, undef, undef, undef, undef, undef, undef, undef, undef, undef, undef, undef, undef, undef, undef, undef, undef, undef, undef, undef, undef, undef, undef, undef, undef, undef, undef, undef, undef, undef, undef, undef, undef, undef, undef, undef, undef, undef, undef, undef, undef, undef, undef, undef, undef, undef, undef, undef, undef, undef, undef, undef, undef, undef, undef, undef, undef, undef, undef, undef, undef, undef, undef, undef, undef, undef, undef, undef, undef, undef, undef, undef, undef, undef, undef, undef, undef, undef, undef, undef, undef, undef, undef], defers := [] } ∧ (Blk W B C0 40 ∧ Blk W Hh zC 40 ∧ B ≠ Hh ∧ w.heap.size ≤ Hh ∧ ObD (Ex Hh W) W C1 (heaO x0) ∧ LabD (Ex Hh W) W ao n k (shoC x0) ∧ Below w.heap.size w W)) ?_ (fun rest => ?_)
  · rintro A W ⟨Hh, C1, ao, n, k, rfl, hB1, hH, hne, hle, ho, hl, hk⟩
    obtain ⟨W4, hr, hH4, o4⟩ := run_store_blk hH (size40C ho.size) (zC_size.trans ho.size.symm) ho.one
    refine wpAnyH_single (i := 5) (n := 1) rfl (by kernel_rfl) ?_
    refine wpOp_storeL (ty := 40) (B := Hh) (off := 0) (v := .agg C1) (d := none) (by kernel_rfl) hr ?_
    have hB4 := hB1.other o4 hne
    have ho4 : ObD (Ex Hh W4) W4 C1 (heaO x0) := (ho.laterK fun b hb => o4.block b hb.2).wide fun b hb => ⟨by rw [o4.size]; exact hb.1, hb.2⟩
    have hl4 : LabD (Ex Hh W4) W4 ao n k (shoC x0) := (hl.laterK fun b hb => o4.block b hb.2).wide fun b hb => ⟨by rw [o4.size]; exact hb.1, hb.2⟩
    have hk4 := o4.below w.heap.size w hle hk
    refine ⟨hB4, ?_⟩
    refine wpAnyH_sym (by kernel_rfl) (fun _ _ _ _ _ h => h) hB4 [(6, none)] (l' := #[true, true, true, true, true, true, true]) (a' := { tmps := #[.agg C0, .pointer (some ⟨B, 0, none⟩), .bool false, .pointer (some ⟨Hh, 0, none⟩), .slice ao n k, undef, undef, .agg C0, .bool true, .bool false, .bool false, .agg C0, .bool true, .bool false, .bool false, undef, .agg C0, .agg C1, .agg C0, .slice ao n k, undef, undef, undef, undef, undef, undef, undef, undef, undef, undef, undef, undef, undef, undef, undef, undef, undef, undef, undef, undef, undef, undef, undef, undef, undef, undef, undef, undef, undef, undef, undef, undef, undef, undef, undef, undef, undef, undef, undef, undef, undef, undef, undef, undef, undef, undef, undef, undef, undef, undef, undef, undef, undef, undef, undef, undef, undef, undef, undef, undef, undef, undef, undef, undef, undef, undef, undef, undef, undef, undef, undef, undef, undef, undef, undef, undef, undef, undef, undef, undef, undef, undef, undef, undef, undef, undef, undef, undef, undef, undef, undef, undef, undef, undef, undef, undef, undef, undef, undef, undef, undef, undef], defers := [] }) (obs := []) (n := 0) (by kernel_rfl) (by kernel_rfl) trivial ?_
    refine wpAnyH_done (by kernel_rfl) ?_ _
    clear hk hr hH hB1 ho hl o4
    dsimp only
    have hz1 := ho4.size
    have hon : ObD (LtN W4) W4 C1 (heaO x0) := ho4.wide fun b hb => hb.1
    replace hl4 : LabD (LtN W4) W4 ao n k (shoC x0) := hl4.wide fun b hb => hb.1
    have hth0 : (heaO x0).th = zTh := rfl
    have hgt0 : (heaO x0).gt = zGt := rfl
    obtain ⟨a2, n2, k2, c2, l2⟩ := l0.label
    have c0 := l0.id
    have c3 := l0.quota
    have c4 := l0.fixed
    have d0 : C1[0]? = some (.int .u64 x0.id) := ho4.id
    have d3 : C1[3]? = some (.int .i64 x0.quota) := ho4.quota
    have d4 : C1[4]? = some (.bool x0.fixed) := ho4.fixed
    obtain ⟨p5, m5, r5, d5, z5⟩ := ho4.links
    obtain ⟨p6, m6, r6, d6, z6⟩ := ho4.data
    obtain ⟨p7, m7, r7, d7, z7⟩ := ho4.maps
    obtain ⟨p49, m49, r49, d49, z49⟩ := ho4.inn
    obtain ⟨p50, m50, r50, d50, z50⟩ := ho4.out
    obtain rfl : m5 = 0 := z5.1.symm
    obtain rfl : m6 = 0 := z6.1.symm
    obtain rfl : m7 = 0 := z7.1.symm
    obtain rfl : m49 = 0 := z49.1.symm
    obtain rfl : m50 = 0 := z50.1.symm
    obtain ⟨p2, m2, r2, d2, z2⟩ := ho4.label
    have hst : Hid (∀ i, i < (shoC x0).length → ¬ ((shoC x0).getD i (0, 0)).2 = 0) := sho_star hsH.out
    clear z5 z6 z7 z49 z50 ho4
    by_cases hkk : x0.kind = 4
    · have c1 : C0[1]? = some (.int .i64 4) := l0.kind.trans (by rw [hkk])
      have d1 : C1[1]? = some (.int .i64 4) := hon.kind.trans (show some (Value.int .i64 x0.kind) = _ by rw [hkk])
      have hl0 : (heaO x0).label = [] := by unfold heaO; rw [if_pos hkk]
      obtain rfl : m2 = 0 := by have := z2.1; rw [hl0] at this; exact this.symm
      clear z2 hl0 hkk
      go_wp2_with (first
        | go_skip
        | (with_reducible refine wpList_load1 (by kernel_rfl) _ _ rfl Hh _ rfl _ _ hH4 _ (by assumption) (by assumption) ?_)
        | (with_reducible refine wpList_load1 (by kernel_rfl) _ _ rfl B _ rfl _ _ hB4 _ (by assumption) (by assumption) ?_)
        | (with_reducible refine wpList_loadp (by kernel_rfl) 36 _ rfl Hh _ rfl 35 _ _ hH4 _ rfl (by rw [hz1]; omega) _ Try.underlying36 (by kernel_rfl) size36 ?_)
        | (with_reducible refine wpList_loadp (by kernel_rfl) 38 _ rfl Hh _ rfl 6 _ _ hH4 _ rfl (by rw [hz1]; omega) _ Try.underlying38 (by kernel_rfl) size38 ?_)
        | ((with_reducible refine wpList_buildw (by kernel_rfl) 36 [] rfl zT ?hf ?_); (case hf => kernel_rfl))
        | ((with_reducible refine wpList_buildw (by kernel_rfl) 38 [] rfl zG ?hf ?_); (case hf => kernel_rfl))
        | (go_at_call 32; (with_reducible refine ((rsameThread_any hon.thd (zTh_d _ _)).yes ?hx).mono ?_); (case hx => exact hth0); rintro e W5 ⟨rfl, hb5⟩; replace hB4 := hB4.next hb5; replace hH4 := hH4.next hb5; replace hon := hon.next hb5; replace hl4 := lab_eq hl4 hb5; replace hk4 := hk4.trans (hb5.mono hk4.size))
        | (go_at_call 33; (with_reducible refine ((rsameGate_any hon.gtd (zGt_d _ _)).yes ?hx).mono ?_); (case hx => exact hgt0); rintro e W6 ⟨rfl, hb6⟩; replace hB4 := hB4.next hb6; replace hH4 := hH4.next hb6; replace hon := hon.next hb6; replace hl4 := lab_eq hl4 hb6; replace hk4 := hk4.trans (hb6.mono hk4.size)))
      have hn4 : Hid ((shoC x0).length = n) := hl4.1
      have hnc := hl4.2.1
      have hcm := hl4.2.2.1.1
      have hlb : Lab W6.heap.size W6 ao n k (shoC x0) := hl4
      go_loopw [84] (fun i wr => ∃ j : Nat, j ≤ n ∧ i = .int .i64 j ∧ Blk wr B C0 40 ∧ Blk wr Hh C1 40 ∧ Below W6.heap.size W6 wr) (fun i _ => n - (intOf i).toNat)
      case atStart => exact ⟨0, Nat.zero_le _, rfl, hB4, hH4, Below.refl _ _⟩
      case round =>
        obtain ⟨j, hj, rfl, hBr, hHr, hbw⟩ := hrel
        have hbs := hbw.size
        by_cases hjn : j < n
        · obtain ⟨b, off, px, py, rfl, hbB, e0, e1, hxy⟩ := hlb.at hbw hjn
          have hjn' : (j : Int) < n := by omega
          have hbw2 : b < wr.heap.size := Nat.lt_of_lt_of_le hbB hbs
          have hpy : (py == 0) = false := by
            rw [beq_eq_false_iff_ne]
            have := hst.out j (by rw [hn4.out]; exact hjn)
            rw [hxy.out] at this
            exact this
          have kal := (Below.refl wr.heap.size wr).alloc (Nat.le_refl _) (.cells #[.int .u64 px, .int .i64 py] 63)
          go_wp2
          go_roundw
          case rel => exact ⟨j + 1, by omega, by go_num, hBr.next kal, hHr.next kal, hbw.trans (kal.mono hbs)⟩
          case measure => simp [intOf]; omega
        · obtain rfl : j = n := by omega
          replace hk4 := hk4.trans (hbw.mono hk4.size)
          replace hon := hon.next hbw
          replace hl4 := lab_eq hl4 hbw
          have l2z := lab_eq l2 hk4
          replace hB4 := hBr
          replace hH4 := hHr
          clear hBr hHr hlb
          go_wp2_with (first
            | go_skip
            | (with_reducible refine wpList_load1 (by kernel_rfl) _ _ rfl Hh _ rfl _ _ hH4 _ (by assumption) (by assumption) ?_)
            | (with_reducible refine wpList_load1 (by kernel_rfl) _ _ rfl B _ rfl _ _ hB4 _ (by assumption) (by assumption) ?_)
            | (go_at_call 10; (with_reducible refine (aw _).mono ?_); rintro e w10 ⟨rfl, hb10⟩; replace hk4 := hk4.trans (hb10.mono hk4.size)))
          go_ret
          exact ⟨rfl, hk4⟩
    · have c1 := l0.kind
      have d1 : C1[1]? = some (.int .i64 x0.kind) := hon.kind
      have g1 : (x0.kind == 4) = false := by rw [beq_eq_false_iff_ne]; exact hkk
      have hs1 : Hid (shoC x0 = x0.label) := by show _ = _; unfold shoC; rw [if_neg hkk]
      have hs2 : Hid ((heaO x0).label = x0.label) := by show _ = _; unfold heaO; rw [if_neg hkk]
      clear z2
      go_wp2_with (first
        | go_skip
        | (with_reducible refine wpList_load1 (by kernel_rfl) _ _ rfl Hh _ rfl _ _ hH4 _ (by assumption) (by assumption) ?_)
        | (with_reducible refine wpList_load1 (by kernel_rfl) _ _ rfl B _ rfl _ _ hB4 _ (by assumption) (by assumption) ?_)
        | (with_reducible refine wpList_loadp (by kernel_rfl) 36 _ rfl Hh _ rfl 35 _ _ hH4 _ rfl (by rw [hz1]; omega) _ Try.underlying36 (by kernel_rfl) size36 ?_)
        | (with_reducible refine wpList_loadp (by kernel_rfl) 38 _ rfl Hh _ rfl 6 _ _ hH4 _ rfl (by rw [hz1]; omega) _ Try.underlying38 (by kernel_rfl) size38 ?_)
        | ((with_reducible refine wpList_buildw (by kernel_rfl) 36 [] rfl zT ?hf ?_); (case hf => kernel_rfl))
        | ((with_reducible refine wpList_buildw (by kernel_rfl) 38 [] rfl zG ?hf ?_); (case hf => kernel_rfl))
        | (go_at_call 32; (with_reducible refine ((rsameThread_any hon.thd (zTh_d _ _)).yes ?hx).mono ?_); (case hx => exact hth0); rintro e W5 ⟨rfl, hb5⟩; replace hB4 := hB4.next hb5; replace hH4 := hH4.next hb5; replace hon := hon.next hb5; replace hl4 := lab_eq hl4 hb5; replace hk4 := hk4.trans (hb5.mono hk4.size))
        | (go_at_call 33; (with_reducible refine ((rsameGate_any hon.gtd (zGt_d _ _)).yes ?hx).mono ?_); (case hx => exact hgt0); rintro e W6 ⟨rfl, hb6⟩; replace hB4 := hB4.next hb6; replace hH4 := hH4.next hb6; replace hon := hon.next hb6; replace hl4 := lab_eq hl4 hb6; replace hk4 := hk4.trans (hb6.mono hk4.size)))
      have hn4 : Hid ((shoC x0).length = n) := hl4.1
      have hnc := hl4.2.1
      have hcm := hl4.2.2.1.1
      have hlb : Lab W6.heap.size W6 ao n k (shoC x0) := hl4
      go_loopw [84] (fun i wr => ∃ j : Nat, j ≤ n ∧ i = .int .i64 j ∧ Blk wr B C0 40 ∧ Blk wr Hh C1 40 ∧ Below W6.heap.size W6 wr) (fun i _ => n - (intOf i).toNat)
      case atStart => exact ⟨0, Nat.zero_le _, rfl, hB4, hH4, Below.refl _ _⟩
      case round =>
        obtain ⟨j, hj, rfl, hBr, hHr, hbw⟩ := hrel
        have hbs := hbw.size
        by_cases hjn : j < n
        · obtain ⟨b, off, px, py, rfl, hbB, e0, e1, hxy⟩ := hlb.at hbw hjn
          have hjn' : (j : Int) < n := by omega
          have hbw2 : b < wr.heap.size := Nat.lt_of_lt_of_le hbB hbs
          have hpy : (py == 0) = false := by
            rw [beq_eq_false_iff_ne]
            have := hst.out j (by rw [hn4.out]; exact hjn)
            rw [hxy.out] at this
            exact this
          have kal := (Below.refl wr.heap.size wr).alloc (Nat.le_refl _) (.cells #[.int .u64 px, .int .i64 py] 63)
          go_wp2
          go_roundw
          case rel => exact ⟨j + 1, by omega, by go_num, hBr.next kal, hHr.next kal, hbw.trans (kal.mono hbs)⟩
          case measure => simp [intOf]; omega
        · obtain rfl : j = n := by omega
          replace hk4 := hk4.trans (hbw.mono hk4.size)
          replace hon := hon.next hbw
          replace hl4 := lab_eq hl4 hbw
          have l2z := lab_eq l2 hk4
          replace hB4 := hBr
          replace hH4 := hHr
          clear hBr hHr hlb
          go_wp2_with (first
            | go_skip
            | (with_reducible refine wpList_load1 (by kernel_rfl) _ _ rfl Hh _ rfl _ _ hH4 _ (by assumption) (by assumption) ?_)
            | (with_reducible refine wpList_load1 (by kernel_rfl) _ _ rfl B _ rfl _ _ hB4 _ (by assumption) (by assumption) ?_)
            | (go_at_call 21; (with_reducible refine ((sameLabel_any hl4 l2z (Below.refl _ _)).yes hs1.out).mono ?_); rintro e W8 ⟨rfl, hb8⟩; replace hB4 := hB4.next hb8; replace hH4 := hH4.next hb8; have hon8 := hon.next hb8; have l28 := lab_eq l2z hb8; replace hk4 := hk4.trans (hb8.mono hk4.size); obtain ⟨p2', m2', r2', d2', z2'⟩ := hon8.label; rw [d2] at d2'; cases d2')
            | (go_at_call 21; (with_reducible refine ((sameLabel_any z2' l28 (Below.refl _ _)).yes hs2.out).mono ?_); rintro e W9 ⟨rfl, hb9⟩; replace hk4 := hk4.trans (hb9.mono hk4.size))
            | (go_at_call 10; (with_reducible refine (aw _).mono ?_); rintro e w10 ⟨rfl, hb10⟩; replace hk4 := hk4.trans (hb10.mono hk4.size)))
          go_ret
          exact ⟨rfl, hk4⟩
  · refine wpAnyH_two (i := 1) (j := 4) (n := 4) rfl (by kernel_rfl) ?_ ?_
    · refine wpOp_callL (f := 24) (vs := [.agg C0]) (d := some 17) (by kernel_rfl) Try.call24 (head_any (l0.next hk) hsm) ?_
      rintro e W4 ⟨C1, rfl, ho, hb4⟩
      refine ⟨_, rfl, hS.next hb4, ?_⟩
      have hS4 := hS.next hb4
      have hk4 := hk.trans (hb4.mono hk.size)
      refine wpAnyH_two (i := 3) (j := 4) (n := 3) rfl (by kernel_rfl) ?_ ?_
      · refine wpOp_callL (f := 22) (vs := [.agg C0]) (d := some 19) (by kernel_rfl) Try.call22 (shown_any (l0.next hk4) hsm) ?_
        rintro e W5 ⟨ao, n, k, rfl, hl, hb5⟩
        refine ⟨_, rfl, hS4.next hb5, ?_⟩
        have hS5 := hS4.next hb5
        have hk5 := hk4.trans (hb5.mono hk4.size)
        refine wpAnyH_single (i := 4) (n := 2) rfl (by kernel_rfl) ?_
        refine wpOp_allocL (ty := 40) (z := zC) (d := some 3) (by kernel_rfl) zero40 ?_
        intro Hh W6 hH6 hb6 kb6
        refine ⟨hS5.next kb6, rest _ _ ⟨Hh, C1, ao, n, k, by kernel_rfl, hS5.next kb6, hb6, by have := hH6.out.1; have := hS5.lt; omega, by have := hH6.out.1; have := hk5.size; omega, ?_, ?_, hk5.trans (kb6.mono hk5.size)⟩⟩
        · exact ((ho.laterK fun b hb => hb5.block b hb.2).laterK fun b hb => kb6.block b (Nat.lt_of_lt_of_le hb.2 hb5.size)).wide fun b hb => ⟨Nat.lt_of_lt_of_le (Nat.lt_of_lt_of_le hb.2 hb5.size) kb6.size, by have := hH6.out.1; have := hb.2; have := hb5.size; omega⟩
        · exact (hl.laterK fun b hb => kb6.block b hb.2).wide fun b hb => ⟨Nat.lt_of_lt_of_le hb.2 kb6.size, by have := hH6.out.1; have := hb.2; omega⟩
      · refine wpOp_allocL (ty := 40) (z := zC) (d := some 3) (by kernel_rfl) zero40 ?_
        intro Hh W5 hH5 hb5 kb5
        have hS5 := hS4.next kb5
        have hk5 := hk4.trans (kb5.mono hk4.size)
        refine ⟨hS5, ?_⟩
        refine wpAnyH_single (i := 3) (n := 2) rfl (by kernel_rfl) ?_
        refine wpOp_callL (f := 22) (vs := [.agg C0]) (d := some 19) (by kernel_rfl) Try.call22 (shown_any (l0.next hk5) hsm) ?_
        rintro e W6 ⟨ao, n, k, rfl, hl, hb6⟩
        refine ⟨_, rfl, hS5.next hb6, rest _ _ ⟨Hh, C1, ao, n, k, by kernel_rfl, hS5.next hb6, hb5.next hb6, by have := hH5.out.1; have := hS4.lt; omega, by have := hH5.out.1; have := hk4.size; omega, ?_, ?_, hk5.trans (hb6.mono hk5.size)⟩⟩
        · exact ((ho.laterK fun b hb => kb5.block b hb.2).laterK fun b hb => hb6.block b (Nat.lt_of_lt_of_le hb.2 kb5.size)).wide fun b hb => ⟨Nat.lt_of_lt_of_le (Nat.lt_of_lt_of_le hb.2 kb5.size) hb6.size, by have := hH5.out.1; have := hb.2; omega⟩
        · exact hl.wide fun b hb => ⟨hb.2, by have := hH5.out; have := hb.1; omega⟩
    · refine wpOp_allocL (ty := 40) (z := zC) (d := some 3) (by kernel_rfl) zero40 ?_
      intro Hh W4 hH4 hb4 kb4
      have hS4 := hS.next kb4
      have hk4 := hk.trans (kb4.mono hk.size)
      refine ⟨hS4, ?_⟩
      refine wpAnyH_single (i := 1) (n := 3) rfl (by kernel_rfl) ?_
      refine wpOp_callL (f := 24) (vs := [.agg C0]) (d := some 17) (by kernel_rfl) Try.call24 (head_any (l0.next hk4) hsm) ?_
      rintro e W5 ⟨C1, rfl, ho, hb5⟩
      have hS5 := hS4.next hb5
      have hk5 := hk4.trans (hb5.mono hk4.size)
      refine ⟨_, rfl, hS5, ?_⟩
      refine wpAnyH_single (i := 3) (n := 2) rfl (by kernel_rfl) ?_
      refine wpOp_callL (f := 22) (vs := [.agg C0]) (d := some 19) (by kernel_rfl) Try.call22 (shown_any (l0.next hk5) hsm) ?_
      rintro e W6 ⟨ao, n, k, rfl, hl, hb6⟩
      refine ⟨_, rfl, hS5.next hb6, rest _ _ ⟨Hh, C1, ao, n, k, by kernel_rfl, hS5.next hb6, (hb4.next hb5).next hb6, by have := hH4.out.1; have := hS.lt; omega, by have := hH4.out.1; have := hk.size; omega, ?_, ?_, hk5.trans (hb6.mono hk5.size)⟩⟩
      · exact (ho.laterK fun b hb => hb6.block b hb.2).wide fun b hb => ⟨Nat.lt_of_lt_of_le hb.2 hb6.size, by have := hH4.out; have := hb.1; omega⟩
      · exact hl.wide fun b hb => ⟨hb.2, by have := hH4.out; have := hb.1; have := hb5.size; omega⟩

set_option maxRecDepth 100000 in
theorem lifted (os : Os) (started : os.Started) (H : Type) (enc : TypeId × Value → H) :
    ReturnsInHanded {} Try.checked os 7 .any (Rows.objShowsSpec.pre6 enc Try.prog Try.f7 Rows.objShowsRow.domain false) (Rows.objShowsSpec.post enc Try.prog Try.f7 false true false false) := by
  refine returnsInHanded_of_change (C := Try.checked) own started (by kernel_rfl) Try.func7
    (ChangeSpec.witness6 (enc := enc) (C := Try.checked) false ⟨#[], #[.agg zC], []⟩ 8 (by kernel_rfl) (by kernel_rfl) (by kernel_rfl) (by kernel_rfl)) ?_
  intro W base args ds gs before hval0 hW hcnd _
  have hval : ∀ (j : Nat) t v, Try.f7.params[j]? = some t → args[j]? = some v → Value.okWide Try.prog W .any base t v := hval0
  have hW' := hW
  obtain ⟨p, q, hA0, hV, rfl, hfz, hnd⟩ := hW
  have hA : DataW.TrodAll enc Try.prog W 0 (fun _ => true) true Try.f7.params.toList args.toList ds p := hA0
  rw [Try.params7] at hA hval
  obtain ⟨v0, vs0, d0, ds0, p0, q0, hargs, rfl, rfl, h0, r0⟩ := trodAll_cons hA
  obtain ⟨rfl, rfl, rfl⟩ := trodAll_nil r0
  obtain rfl : args = #[v0] := by cases args; simp_all
  obtain ⟨rfl, rfl⟩ := trodVars_none hV
  obtain ⟨C0, x0, rfl, l0⟩ := obj_of_trod (hval 0 40 v0 rfl rfl) h0
  have k0 := h0
  have lt0 : ∀ x ∈ p0, x.block < W.heap.size := by obtain ⟨m, hm⟩ := k0; exact DataW.trod_lt m _ _ _ hm
  clear hA0 hval0
  refine (walk C0 x0 W l0).mono fun e W' ⟨he, bel⟩ => ?_
  subst he
  exact ⟨_, rfl, _, _, _, [], _, [], hW', trodAll_mk1 (shut_bool Try.underlying4 _), (trodAll_cons_mk (Below.trod laidOut (by kernel_rfl) (of_decide_eq_true (by kernel_rfl)) k0 bel lt0) trodAll_mk0), rfl, bel.frame _, fun h => by cases h⟩

theorem over : Rows.objShowsRow.holds Try.pinned (OpenSpec.ofChange Rows.objShowsSpec) :=
  OpenClaim.holds_of_wide 7 Try.f7 rfl rfl rfl rfl rfl rfl rfl ⟨rfl, rfl, rfl, rfl, rfl⟩ rfl rfl rfl rfl rfl (by kernel_rfl) Try.func7 (by kernel_rfl)
    (of_decide_eq_true (by kernel_rfl)) (by unfold Func.isWrapper; first | (rw [if_pos (by decide +kernel)]; kernel_rfl) | (rw [if_neg (by decide +kernel)]; exact ⟨rfl, rfl⟩))
    (fun os started H enc _ => lifted os started H enc)

end objShows
/-- The statement. -/
theorem objShows_holds : Rows.ObjShowsSaid :=
  objShows.over
#print axioms objShows_holds
end Go.Proofs.Ytekfbekmcdjlpaa
