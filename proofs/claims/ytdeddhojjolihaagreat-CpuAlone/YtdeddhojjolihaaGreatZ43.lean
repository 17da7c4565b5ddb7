/-
 PROVED HERE: what cpu.Alert returns when it is called (a contract over this translation). What is asked stands at each.
-/
import Derived.Test.YtdeddhojjolihaaGreatZ30
import Derived.Test.YtdeddhojjolihaaGreatZ38
import Derived.Test.YtdeddhojjolihaaGreatZ42
namespace Go.Proofs.YtdeddhojjolihaaGreat
set_option maxRecDepth 100000
set_option maxHeartbeats 8000000
set_option linter.unusedVariables false
open Go.Proofs.Tryz
section
open Go.RowKit Go.Shelf
attribute [local go_sem] Oper.semAt_some
variable {w : World}
theorem kZz {D : Nat → Prop} {ao : Option Addr} {n cap : Nat} {l : List Int} (h : CtD D w ao n cap l) (hk : 1 ≤ n) : ∃ a', CtD D w a' (n - 1) (cap - 1) (l.drop 1) ∧ (∀ W, (Instr.sliceAt 35 (.slice ao n cap) (some (.int .i64 1)) none none).run prog W = .ok (.slice a' (n - 1) (cap - 1)) W) := by
 obtain ⟨h1, h2, h3, h4⟩ := h
 obtain ⟨b, off, rfl, hb, hx⟩ := h4 (by omega)
 by_cases hc : cap = 1
 ·refine ⟨some ⟨b, off, none⟩, ⟨by rw [List.length_drop]; omega, by omega, ⟨by omega, fun e => by cases e⟩, fun hz => by omega⟩, fun W => ?_⟩
  subst hc
  have hk' : (1 : Int) ≤ n := by omega
  unfold Instr.sliceAt Instr.slice Instr.sliceBounds
  simp [go_sem, run_underlying underlying35, Result.andThen, hk']
 ·refine ⟨some ((⟨b, off, none⟩ : Addr).add 1), ⟨by rw [List.length_drop]; omega, by omega, ⟨by omega, fun e => by cases e⟩, fun hz => ⟨b, off + 1, rfl, hb, fun i hi => ?_⟩⟩, fun W => ?_⟩
  ·rw [show off + 1 + i = off + (i + 1) by omega, show (l.drop 1).getD i 0 = l.getD (i + 1) 0 by simp [List.getD_eq_getElem?_getD]]
   exact hx (i + 1) (by omega)
  ·have hk' : (1 : Int) ≤ n := by omega
   have hc' : ¬ cap = 1 := hc
   unfold Instr.sliceAt Instr.slice Instr.sliceBounds
   simp [go_sem, run_underlying underlying35, Result.andThen, hk', hc', Addr.add]
theorem ia_zero {S : World → Prop} {b off n cap : Nat} (hi : 0 < n) : Obl.holds prog S (.ia 35 (.slice (some ⟨b, off, none⟩) n cap) (.int .i64 0) (.pointer (some ⟨b, off, none⟩))) := fun w hS => by
 have hi' : (0 : Int) < n := by omega
 go_simp
variable {T : Array Value}
theorem alert_no {t : Th} (h : ThD (LtN w) w T t) (hs : SmT t) (hn : alB t = false) : Calls prog 44 #[.agg T] w fun e w' => ∃ T', e = .returned (.tuple #[.agg T', .bool (alB t)]) ∧ ThD (New w w') w' T' (alT t) ∧ Below w.heap.size w w' := by
 have hsz := h.size
 have hv : T[21]? = some (.int .u64 t.vector) := h.f.vector
 obtain ⟨aA, nA, cA, hA, lA⟩ := h.f.alerts
 replace hA : T[28]? = some (.slice aA nA cA) := hA
 have hlA : Hid (t.alerts.length = nA) := lA.1
 have ga2 := isAgg22
 have ga3 := isAgg35
 have hfl : Hid (alT t = t) := by unfold alT; rw [hn]; exact rfl
 have hfb : Hid (alB t = false) := hn
 by_cases h0 : nA = 0
 case' pos =>
  have hb0 : ((nA : Int) == 0) = true := by simp [h0]
  clear hn h0
 case' neg =>
  have hb0 : ((nA : Int) == 0) = false := by simp [h0]
  have hv0 : (t.vector == 0) = true := by
   unfold alB at hn
   have := hlA.out
   rw [decide_eq_false (by omega)] at hn
   simpa using hn
  clear hn h0
 all_goals
  go_enter func44, ntmps44
  go_wp2_with (first
   | go_skip
   | (with_reducible refine qdz rfl _ _ rfl T rfl ?_; intro B W hB hb hk)
   | ((with_reducible refine qcz rfl _ rfl zT xsz ?_); intro R W1 hB1 hR hk1; have hne : Hid (B ≠ R ∧ w.heap.size ≤ B ∧ w.heap.size ≤ R ∧ R < W1.heap.size) := (by have := hB1.out; have := hB.out; have := hk1.size; exact ⟨by omega, by omega, by omega, by omega⟩); replace hb := hb.next hk1; replace hk := btz hk hk1)
   | (with_reducible refine qaz (by kernel_rfl) _ _ rfl B _ rfl _ _ hb _ hA (by assumption) ?_)
   | (with_reducible refine qaz (by kernel_rfl) _ _ rfl B _ rfl _ _ hb _ hv (by assumption) ?_)
   | (with_reducible refine qfz rfl _ _ rfl B rfl _ hb _ underlying46 rfl (qMz hsz) ?_)
   | (go_at_call 37; (with_reducible refine (own_v (h.news hk) hs).mono ?_); rintro e w3 ⟨T3, rfl, hT3, hb3⟩; have hl2 : Hid (R < w3.heap.size ∧ R < W1.heap.size) := (by have := hne.out.2.2.2; have := hb3.size; exact ⟨by omega, by omega⟩); replace hR := hR.next hb3; have hk2 := hk; replace hk := btz hk hb3; have z3 := hT3.size)
   | ((with_reducible refine qbz rfl _ _ _ rfl R rfl T3 rfl zT hR (qMz z3) (wEz.trans z3.symm) hT3.one ?_); intro W5 hR5 o5))
  refine bodyPost_ret (v := .tuple #[.agg T3, .bool false]) (res46b results44 rfl rfl hR5 z3) rfl ⟨T3, by rw [hfb.out], ?_, o5.below _ _ hne.out.2.2.1 hk⟩
  rw [hfl.out]
  exact (hT3.laterK fun b hb => o5.block b (by have := hb.1; have := hl2.out.2; omega)).wide fun b hb => ⟨Nat.le_trans hk2.size hb.1, by rw [o5.size]; exact hb.2⟩
theorem gCz {t : Th} (h : ThD (LtN w) w T t) (hs : SmT t) (hn : alB t = true) : Calls prog 44 #[.agg T] w fun e w' => ∃ T', e = .returned (.tuple #[.agg T', .bool (alB t)]) ∧ ThD (New w w') w' T' (alT t) ∧ Below w.heap.size w w' := by
 have hmx : prog.follows .mixedOrders = true := by kernel_rfl
 have hsz := h.size
 have hv : T[21]? = some (.int .u64 t.vector) := h.f.vector
 obtain ⟨aA, nA, cA, hA, lA⟩ := h.f.alerts
 replace hA : T[28]? = some (.slice aA nA cA) := hA
 have hlA : Hid (t.alerts.length = nA) := lA.1
 have ga2 := isAgg22
 have ga3 := isAgg35
 have hfl : Hid (alT t = { dvT t t.vector (t.alerts.getD 0 0) with vector := 0, alerts := t.alerts.drop 1 }) := by unfold alT; rw [if_pos hn]; exact rfl
 have hfb : Hid (alB t = true) := hn
 have hn2 : ¬ (t.alerts.length = 0 ∨ t.vector = 0) := by
  unfold alB at hn
  simp only [Bool.not_eq_true', Bool.or_eq_false_iff, decide_eq_false_iff_not] at hn
  intro q
  rcases q with q | q
  ·exact hn.1 q
  ·exact hn.2 q
 have hp0 : Hid (0 < nA) := by have := hlA.out; show 0 < nA; omega
 have hb0 : ((nA : Int) == 0) = false := by have := hp0.out; rw [beq_eq_false_iff_ne]; omega
 have hv0 : (t.vector == 0) = false := by rw [beq_eq_false_iff_ne]; exact fun q => hn2 (Or.inr q)
 obtain ⟨bA, oA, rfl, hbA, hcA⟩ := jCz lA hp0.out
 rw [Nat.add_zero] at hcA
 obtain ⟨a', lA1, hsl⟩ := kZz lA hp0.out
 have hs1 : SmT { dvT t t.vector (t.alerts.getD 0 0) with vector := 0, alerts := t.alerts.drop 1 } := by rw [← hfl.out]; exact hs.alt
 clear hn hn2
 go_enter func44, ntmps44
 go_wp2_with (first
  | go_skip
  | (with_reducible refine qdz rfl _ _ rfl T rfl ?_; intro B W hB hb hk)
  | ((with_reducible refine qcz rfl _ rfl zT xsz ?_); intro R W1 hB1 hR hk1; have hne : Hid (B ≠ R ∧ w.heap.size ≤ B ∧ w.heap.size ≤ R ∧ R < W1.heap.size) := (by have := hB1.out; have := hB.out; have := hk1.size; exact ⟨by omega, by omega, by omega, by omega⟩); replace hb := hb.next hk1; replace hk := btz hk hk1)
  | (with_reducible refine qaz (by kernel_rfl) _ _ rfl B _ rfl _ _ hb _ hA (by assumption) ?_)
  | (with_reducible refine qaz (by kernel_rfl) _ _ rfl B _ rfl _ _ hb _ hv (by assumption) ?_))
 have hB0 := hB
 replace hB := hb
 refine wrz (S := fun W => Blk W B T 46 ∧ Blk W R zT 46 ∧ Below w.heap.size w W) 8 hmx (⟨hB.next (Below.refl _ _).drew, hR.next (Below.refl _ _).drew, hk.trans ((Below.refl _ _).drew.mono hk.size)⟩) (fun hS0 => ?_)
 generalize W1.drew = v0 at hS0 ⊢
 refine qPz (by kernel_rfl) (fun _ _ _ _ _ h => h) hS0 [(0, some (.agg T), []), (1, none, []), (2, some (.int .u64 t.vector), []), (3, none, []), (4, some (.slice (some ⟨bA, oA, none⟩) nA cA), []), (5, some (.pointer (some ⟨bA, oA, none⟩)), []), (6, some (.int .u64 (t.alerts.getD 0 0)), [])] (l' := #[tt, tt, tt, tt, tt, tt, tt, ff, ff]) (a' := { tmps := #[.agg T, .pointer (some ⟨B, 0, none⟩), .pointer (some ⟨R, 0, none⟩), .bool false, .pointer (some ⟨B, 28, none⟩), .slice (some ⟨bA, oA, none⟩) nA cA, .int .i64 nA, .bool false, .bool false, .pointer (some ⟨B, 21, none⟩), .int .u64 t.vector, .bool false, .bool false, ud, undef, .agg T, .pointer (some ⟨B, 21, none⟩), .int .u64 t.vector, .pointer (some ⟨B, 28, none⟩), .slice (some ⟨bA, oA, none⟩) nA cA, .pointer (some ⟨bA, oA, none⟩), .int .u64 (t.alerts.getD 0 0), ud, ud, ud, ud, ud, ud, ud, undef], defers := [] }) (obs := [.load 46 B 0 (.agg T), .load 22 B 21 (.int .u64 t.vector), .load 35 B 28 (.slice (some ⟨bA, oA, none⟩) nA cA), .ia 35 (.slice (some ⟨bA, oA, none⟩) nA cA) (.int .i64 0) (.pointer (some ⟨bA, oA, none⟩)), .load 22 bA oA (.int .u64 (t.alerts.getD 0 0))]) (n := 2) (by kernel_rfl) (by kernel_rfl) ⟨qTz (fun W hS => hS.1) underlying46 rfl (qMz hsz), qgz (fun W hS => hS.1) hv ga2, qgz (fun W hS => hS.1) hA ga3, ia_zero hp0.out, xAz (fun W hS => (hS.2.2.cell (p := ⟨bA, oA, none⟩) hbA).trans hcA) ga2, trivial⟩ ?_
 refine qtz (i := 7) (n := 1) rfl (by kernel_rfl) ?_
 refine qpz (f := 38) (vs := [.agg T, .int .u64 t.vector, .int .u64 (t.alerts.getD 0 0)]) (d := some 22) (by kernel_rfl) call38 (jdz (g := t.vector) (why := t.alerts.getD 0 0) h) ?_
 rintro e w01 ⟨T3, rfl, hT3, hb3⟩
 have hS01 : Blk w01 B T 46 ∧ Blk w01 R zT 46 ∧ Below w.heap.size w w01 := ⟨hS0.1.next hb3, hS0.2.1.next hb3, hS0.2.2.trans (hb3.mono hS0.2.2.size)⟩
 refine ⟨_, rfl, fun _ => hS01, ?_⟩
 have z3 := hT3.size
 obtain ⟨W4, hr4, hb4, o4⟩ := wdz hS01.1 (qMz z3) (hsz.trans z3.symm) hT3.one
 refine qtz (i := 8) (n := 0) rfl (by kernel_rfl) ?_
 refine qAz (ty := 46) (B := B) (off := 0) (v := .agg T3) (d := none) (by kernel_rfl) hr4 ?_
 refine ⟨(fun q => absurd rfl q), ?_⟩
 refine q1z (by kernel_rfl) ?_ _
 have hR4 := hS01.2.1.other o4 hne.out.1.symm
 have hk4 := o4.below _ _ hne.out.2.1 hS01.2.2
 go_wp2
 obtain ⟨aX, nX, cX, eX, lX⟩ := hT3.f.alerts
 replace eX : T3[28]? = some (.slice aX nX cX) := eX
 have hX1 : 1 ≤ nX := by
  have h1 : t.alerts.length = nX := lX.1
  have := hlA.out
  have := hp0.out
  omega
 obtain ⟨aY, lY, hsY⟩ := kZz lX hX1
 have hT4 := hT3.put (j := 21) (by decide) (by rfl) (hT3.f.setvector 0)
 have z4 := hT4.size
 have hT5 := hT4.put (j := 28) (by decide) (by rfl) (hT4.f.setalerts lY)
 have z5 := hT5.size
 refine PgM.region_out (S := fun W => Below w.heap.size w W) hmx (hk4.trans ((Below.refl _ _).drew.mono hk4.size)) (fun hS4 => ?_)
 have hb4' := hb4.next (Below.refl _ _).drew
 have hR4' := hR4.next (Below.refl _ _).drew
 generalize W4.drew = v4 at hS4 hb4' hR4' ⊢
 refine qoz (by kernel_rfl) (fun _ _ _ _ _ h => h) hS4 [(0, none)] (l' := #[tt, ff, ff, ff, ff, ff, ff]) (a' := { tmps := #[.agg T, .pointer (some ⟨B, 0, none⟩), .pointer (some ⟨R, 0, none⟩), .bool false, .pointer (some ⟨B, 28, none⟩), .slice (some ⟨bA, oA, none⟩) nA cA, .int .i64 nA, .bool false, .bool false, .pointer (some ⟨B, 21, none⟩), .int .u64 t.vector, .bool false, .bool false, ud, undef, .agg T, .pointer (some ⟨B, 21, none⟩), .int .u64 t.vector, .pointer (some ⟨B, 28, none⟩), .slice (some ⟨bA, oA, none⟩) nA cA, .pointer (some ⟨bA, oA, none⟩), .int .u64 (t.alerts.getD 0 0), .agg T3, .pointer (some ⟨B, 28, none⟩), ud, ud, ud, ud, ud, undef], defers := [] }) (obs := []) (n := 6) (by kernel_rfl) (by kernel_rfl) trivial ?_
 refine qjz (i := 1) (n := 5) rfl (by kernel_rfl) ?_
 refine qBz (ty := 35) (b := B) (off := 28) (v := .slice aX nX cX) (d := some 24) (by kernel_rfl) (qIz hb4' eX ga3) ?_
 refine ⟨hS4, ?_⟩
 refine qoz (by kernel_rfl) (fun _ _ _ _ _ h => h) hS4 [(2, some (.slice aY (nX - 1) (cX - 1))), (3, none)] (l' := #[tt, tt, tt, tt, ff, ff, ff]) (a' := { tmps := #[.agg T, .pointer (some ⟨B, 0, none⟩), .pointer (some ⟨R, 0, none⟩), .bool false, .pointer (some ⟨B, 28, none⟩), .slice (some ⟨bA, oA, none⟩) nA cA, .int .i64 nA, .bool false, .bool false, .pointer (some ⟨B, 21, none⟩), .int .u64 t.vector, .bool false, .bool false, ud, undef, .agg T, .pointer (some ⟨B, 21, none⟩), .int .u64 t.vector, .pointer (some ⟨B, 28, none⟩), .slice (some ⟨bA, oA, none⟩) nA cA, .pointer (some ⟨bA, oA, none⟩), .int .u64 (t.alerts.getD 0 0), .agg T3, .pointer (some ⟨B, 28, none⟩), .slice aX nX cX, .slice aY (nX - 1) (cX - 1), .pointer (some ⟨B, 21, none⟩), ud, ud, undef], defers := [] }) (obs := [.sl 35 (.slice aX nX cX) (some (.int .i64 1)) (none) (none) (.slice aY (nX - 1) (cX - 1))]) (n := 3) (by kernel_rfl) (by kernel_rfl) ⟨fun W hS => hsY W, trivial⟩ ?_
 obtain ⟨W6, hr6, hb6, o6⟩ := qHz (ty := 22) (v := .int .u64 0) hb4' rfl (by kernel_rfl) (by rw [z3]; decide) rfl (j := 21)
 refine qjz (i := 4) (n := 2) rfl (by kernel_rfl) ?_
 refine qAz (ty := 22) (B := B) (off := 21) (v := .int .u64 0) (d := none) (by kernel_rfl) hr6 ?_
 have hS6 : Below w.heap.size w W6 := o6.below _ _ hne.out.2.1 hS4
 refine ⟨hS6, ?_⟩
 refine qoz (by kernel_rfl) (fun _ _ _ _ _ h => h) hS6 [(5, none)] (l' := #[tt, tt, tt, tt, tt, tt, ff]) (a' := { tmps := #[.agg T, .pointer (some ⟨B, 0, none⟩), .pointer (some ⟨R, 0, none⟩), .bool false, .pointer (some ⟨B, 28, none⟩), .slice (some ⟨bA, oA, none⟩) nA cA, .int .i64 nA, .bool false, .bool false, .pointer (some ⟨B, 21, none⟩), .int .u64 t.vector, .bool false, .bool false, ud, undef, .agg T, .pointer (some ⟨B, 21, none⟩), .int .u64 t.vector, .pointer (some ⟨B, 28, none⟩), .slice (some ⟨bA, oA, none⟩) nA cA, .pointer (some ⟨bA, oA, none⟩), .int .u64 (t.alerts.getD 0 0), .agg T3, .pointer (some ⟨B, 28, none⟩), .slice aX nX cX, .slice aY (nX - 1) (cX - 1), .pointer (some ⟨B, 21, none⟩), .pointer (some ⟨B, 28, none⟩), ud, undef], defers := [] }) (obs := []) (n := 1) (by kernel_rfl) (by kernel_rfl) trivial ?_
 obtain ⟨W7, hr7, hb7, o7⟩ := qHz (ty := 35) (v := .slice aY (nX - 1) (cX - 1)) hb6 rfl (by kernel_rfl) (by rw [z4]; decide) rfl (j := 28)
 refine qjz (i := 6) (n := 0) rfl (by kernel_rfl) ?_
 refine qAz (ty := 35) (B := B) (off := 28) (v := .slice aY (nX - 1) (cX - 1)) (d := none) (by kernel_rfl) hr7 ?_
 have hS7 : Below w.heap.size w W7 := o7.below _ _ hne.out.2.1 hS6
 refine ⟨hS7, ?_⟩
 refine wpAnyH_done (by kernel_rfl) ?_ _
 have hR7 := (hR4'.other o6 hne.out.1.symm).other o7 hne.out.1.symm
 have hl7 : Hid (R < W7.heap.size ∧ R < W7.heap.size) := ⟨hR7.lt, hR7.lt⟩
 clear hb hk hb4 hb4' hb6
 obtain ⟨T5, hT5e⟩ : ∃ T5, (T3.setIfInBounds 21 (.int .u64 0)).setIfInBounds 28 (.slice aY (nX - 1) (cX - 1)) = T5 := ⟨_, rfl⟩
 rw [hT5e] at hb7 hT5 z5
 replace hT5 : ThD (LtN w) w T5 { dvT t t.vector (t.alerts.getD 0 0) with vector := 0, alerts := t.alerts.drop 1 } := hT5
 go_wp2_with (first
  | go_skip
  | (with_reducible refine qfz rfl _ _ rfl B rfl _ hb7 _ underlying46 rfl (qMz z5) ?_)
  | (go_at_call 37; (with_reducible refine (own_v (hT5.news hS7) hs1).mono ?_); rintro e w8 ⟨T8, rfl, hT8, hb8⟩; have hR8 := hR7.next hb8; have hk8 := btz hS7 hb8; have z8 := hT8.size)
  | ((with_reducible refine qbz rfl _ _ _ rfl R rfl T8 rfl zT hR8 (qMz z8) (wEz.trans z8.symm) hT8.one ?_); intro W9 hR9 o9))
 refine bodyPost_ret (v := .tuple #[.agg T8, .bool true]) (res46b results44 rfl rfl hR9 z8) rfl ⟨T8, by rw [hfb.out], ?_, o9.below _ _ hne.out.2.2.1 hk8⟩
 rw [hfl.out]
 exact (hT8.laterK fun b hb => o9.block b (by have := hb.1; have := hl7.out.1; omega)).wide fun b hb => ⟨Nat.le_trans hS7.size hb.1, by rw [o9.size]; exact hb.2⟩
theorem jGz {t : Th} (h : ThD (LtN w) w T t) (hs : SmT t) : Calls prog 44 #[.agg T] w fun e w' => ∃ T', e = .returned (.tuple #[.agg T', .bool (alB t)]) ∧ ThD (New w w') w' T' (alT t) ∧ Below w.heap.size w w' := by
 cases hn : alB t with
 | false => have := alert_no h hs hn; rw [hn] at this; exact this
 | true => have := gCz h hs hn; rw [hn] at this; exact this
end
end Go.Proofs.YtdeddhojjolihaaGreat
