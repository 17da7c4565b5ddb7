/-
  PROVED HERE: what package obj's soundThread and the document's thread return when they are called (contracts over this translation). No condition.
-/
import Derived.Test.YtfpmkihlfhpgdaaObC
import Derived.Deep.DeepCutAuto
namespace Go.Proofs.Ytfpmkihlfhpgdaa
open Go.RowKit Go.Shelf
set_option linter.unusedVariables false
attribute [local go_sem] Oper.semAt_some
section
variable {w : World}
theorem tge_int (t : TypeId) (x y : Operand) (k : IntKind) (m n : Int) : ∃ b : Bool, (do eqGuard .geq t x y (.int k m) (.int k n); binOp .geq t (.int k m) (.int k n)).run Try.prog w = .ok (.bool b) w ∧ (b = true ↔ n ≤ m) :=
  ⟨decide (n ≤ m), by simp [eqGuard, binOp, Op.intCmp], by simp⟩
theorem tle_int (t : TypeId) (x y : Operand) (k : IntKind) (m n : Int) : ∃ b : Bool, (do eqGuard .leq t x y (.int k m) (.int k n); binOp .leq t (.int k m) (.int k n)).run Try.prog w = .ok (.bool b) w ∧ (b = true ↔ m ≤ n) :=
  ⟨decide (m ≤ n), by simp [eqGuard, binOp, Op.intCmp], by simp⟩
theorem tlt_int (t : TypeId) (x y : Operand) (k : IntKind) (m n : Int) : ∃ b : Bool, (do eqGuard .lss t x y (.int k m) (.int k n); binOp .lss t (.int k m) (.int k n)).run Try.prog w = .ok (.bool b) w ∧ (b = true ↔ m < n) :=
  ⟨decide (m < n), by simp [eqGuard, binOp, Op.intCmp], by simp⟩
theorem tgt_int (t : TypeId) (x y : Operand) (k : IntKind) (m n : Int) : ∃ b : Bool, (do eqGuard .gtr t x y (.int k m) (.int k n); binOp .gtr t (.int k m) (.int k n)).run Try.prog w = .ok (.bool b) w ∧ (b = true ↔ n < m) :=
  ⟨decide (n < m), by simp [eqGuard, binOp, Op.intCmp], by simp⟩
end
theorem thr_iff {t : Th} : thrB t = true ↔ ((∀ i, i < 4 → keptB (labs t i) = true) ∧ 0 ≤ t.state ∧ t.state ≤ 2 ∧ t.alerts.length ≤ 8 ∧ spanI t.lo t.hi = true ∧ (t.state = 1 ∨ (t.wc = 0 ∧ t.wi = 0 ∧ t.wx = 0 ∧ t.wv = 0 ∧ t.wd = false))) := by
  have e : (∀ i, i < 4 → keptB (labs t i) = true) ↔ (keptB t.l0 = true ∧ keptB t.l1 = true ∧ keptB t.l2 = true ∧ keptB t.l3 = true) :=
    ⟨fun h => ⟨h 0 (by omega), h 1 (by omega), h 2 (by omega), h 3 (by omega)⟩, fun h i hi => by
      rcases i with _ | _ | _ | _ | i
      · exact h.1
      · exact h.2.1
      · exact h.2.2.1
      · exact h.2.2.2
      · omega⟩
  rw [e]
  unfold thrB waitB spanB spanI
  simp
  constructor
  · rintro ⟨h1, h2, h3, h4, h5⟩; exact ⟨⟨h1, h2, h3, h4⟩, h5⟩
  · rintro ⟨⟨h1, h2, h3, h4⟩, h5⟩; exact ⟨h1, h2, h3, h4, h5⟩
theorem slice_four (W : World) (B : Nat) : (Instr.sliceAt 34 (.pointer (some ⟨B, 31, none⟩)) none none none).run Try.prog W = .ok (.slice (some ⟨B, 31, none⟩) 4 4) W := slice4 (S := fun _ => True) B 31 W trivial
set_option maxRecDepth 100000 in
set_option maxHeartbeats 4000000 in
theorem soundThread_any {w : World} {T : Array Value} {t : Th} (h : ThD (LtN w) w T t) : Asks 71 #[.agg T] (thrB t = true) w := by
  have hz := h.size
  obtain ⟨a17, n17, k17, c17, l17⟩ := h.f.clear
  obtain ⟨a28, n28, k28, c28, l28⟩ := h.f.alerts
  have hn28 : Hid (t.alerts.length = n28) := l28.1
  have x29 := ext2 h.f.lo h.f.hi
  have x23 := ext5 h.f.wc h.f.wi h.f.wx h.f.wv h.f.wd
  have c22 := h.f.state
  have ga0 := Try.isAgg24
  have ga1 := Try.isAgg22
  have ga2 := Try.isAgg3
  have ga3 := Try.isAgg4
  have ga4 := Try.isAgg25
  have ga5 := Try.isAgg26
  unfold Asks
  go_enter Try.func71, Try.ntmps71
  go_wp2_with (first
    | go_skip
    | (with_reducible refine wpList_box rfl _ _ rfl T rfl ?_; intro B W hB hb hk)
    | (with_reducible refine wpList_load1 (by kernel_rfl) _ _ rfl B _ rfl _ _ hb _ (by assumption) (by assumption) ?_)
    | (with_reducible refine wpList_loadp (by kernel_rfl) 33 _ rfl B _ rfl 2 _ _ hb _ (by assumption) (by omega) _ Try.underlying33 (by kernel_rfl) size33 ?_)
    | (with_reducible refine wpList_loadp (by kernel_rfl) 31 _ rfl B _ rfl 5 _ _ hb _ (by assumption) (by omega) _ Try.underlying31 (by kernel_rfl) size31 ?_)
    | ((with_reducible refine wpList_test (by kernel_rfl) .geq _ _ _ _ rfl _ _ rfl rfl (tge_int _ _ _ _ _ _) ?_ ?_) <;> intro hq)
    | ((with_reducible refine wpList_test (by kernel_rfl) .leq _ _ _ _ rfl _ _ rfl rfl (tle_int _ _ _ _ _ _) ?_ ?_) <;> intro hq)
    | ((with_reducible refine wpList_test (by kernel_rfl) .eql _ _ _ _ rfl _ _ rfl rfl (eqg_int _ _ _ _ _ _) ?_ ?_) <;> intro hq)
    | ((with_reducible refine wpList_test (by kernel_rfl) .eql _ _ _ _ rfl _ _ rfl rfl (eqg_wait _ _ _ _ _ _ _ _ _ _ _ _) ?_ ?_) <;> intro hq)
    | (go_at_call 95; (with_reducible refine (every4_any (ThD.four (h.next hk) hb)).on ?_ ?_) <;> (intro w1 hq hb1; replace hb := hb.next hb1; replace hk := hk.trans (hb1.mono hk.size); clear hb1))
    | (go_at_call 96; (with_reducible refine (span_any t.lo t.hi _).on ?_ ?_) <;> (intro w1 hq hb1; replace hb := hb.next hb1; replace hk := hk.trans (hb1.mono hk.size); clear hb1)))
  all_goals go_ret
  all_goals first
    | (refine askP_yes (thr_iff.2 ⟨Hid.out (by assumption), Hid.out (by assumption), Hid.out (by assumption), ?_, Hid.out (by assumption), .inl (Hid.out (by assumption))⟩) hk; (have hl : (n28 : Int) ≤ 8 := Hid.out (by assumption)); rw [hn28.out]; omega)
    | (refine askP_yes (thr_iff.2 ⟨Hid.out (by assumption), Hid.out (by assumption), Hid.out (by assumption), ?_, Hid.out (by assumption), .inr (Hid.out (by assumption))⟩) hk; (have hl : (n28 : Int) ≤ 8 := Hid.out (by assumption)); rw [hn28.out]; omega)
    | (refine askP_no (Y := (t.wc = 0 ∧ t.wi = 0 ∧ t.wx = 0 ∧ t.wv = 0 ∧ t.wd = false)) (by assumption) hk (fun e => ?_); exact (thr_iff.1 e).2.2.2.2.2.resolve_left (Hid.out (by assumption)))
    | (refine askP_no (Y := spanI t.lo t.hi = true) (by assumption) hk (fun e => ?_); exact (thr_iff.1 e).2.2.2.2.1)
    | (have hl : 8 < (n28 : Int) := Hid.out (by assumption); refine ⟨false, rfl, ⟨fun e => absurd e Bool.false_ne_true, fun e => ?_⟩, hk⟩; exfalso; have := (thr_iff.1 e).2.2.2.1; rw [hn28.out] at this; omega)
    | (have hl : 2 < t.state := Hid.out (by assumption); refine ⟨false, rfl, ⟨fun e => absurd e Bool.false_ne_true, fun e => ?_⟩, hk⟩; exfalso; have := (thr_iff.1 e).2.2.1; omega)
    | (have hl : t.state < 0 := Hid.out (by assumption); refine ⟨false, rfl, ⟨fun e => absurd e Bool.false_ne_true, fun e => ?_⟩, hk⟩; exfalso; have := (thr_iff.1 e).2.1; omega)
    | (refine askP_no (Y := ∀ i, i < 4 → keptB (labs t i) = true) (by assumption) hk (fun e => ?_); exact (thr_iff.1 e).1)
    | fail
set_option maxRecDepth 100000 in
set_option maxHeartbeats 4000000 in
theorem rthread_any {w : World} {T : Array Value} {t : Th} {ao : Option Addr} {n cap : Nat} {l : Lb} (hl : LabD (LtN w) w ao n cap l) (h : ThD (LtN w) w T t) : Asks 41 #[.slice ao n cap, .agg T] (keptB t.clear = true ∧ rleqB l t.clear = true ∧ thrB t = true) w := by
  have hz := h.size
  obtain ⟨a17, n17, k17, c17, l17⟩ := h.f.clear
  obtain ⟨a28, n28, k28, c28, l28⟩ := h.f.alerts
  have hn28 : Hid (t.alerts.length = n28) := l28.1
  have x29 := ext2 h.f.lo h.f.hi
  have x23 := ext5 h.f.wc h.f.wi h.f.wx h.f.wv h.f.wd
  have c22 := h.f.state
  have ga0 := Try.isAgg24
  have ga1 := Try.isAgg22
  have ga2 := Try.isAgg3
  have ga3 := Try.isAgg4
  have ga4 := Try.isAgg25
  have ga5 := Try.isAgg26
  unfold Asks
  go_enter Try.func41, Try.ntmps41
  go_wp2_with (first
    | go_skip
    | (with_reducible refine wpList_box rfl _ _ rfl T rfl ?_; intro B W hB hb hk))
  have hf := ThD.four (h.next hk) hb
  go_loopw [5] (fun i wr => ∃ k : Nat, k ≤ 4 ∧ i = .int .i64 k ∧ Hid (∀ j, j < k → keptB (labs t j) = true) ∧ Below W.heap.size W wr) (fun i _ => 4 - (intOf i).toNat)
  case atStart => exact ⟨0, Nat.zero_le _, rfl, fun j hj => absurd hj (by omega), Below.refl _ _⟩
  case round =>
    obtain ⟨k, hk4, rfl, hal, hbw⟩ := hrel
    by_cases hkn : k < 4
    · obtain ⟨ai, ni, ci, d1, q2⟩ := (hf.next hbw).2 k hkn
      have hkn' : (k : Int) < 4 := by omega
      clear hf
      go_wp2_with (go_at_call 36; (with_reducible refine (rkept_any q2 (Below.refl _ _)).on ?_ ?_) <;> intro w1 hq hb1)
      · go_roundw
        case rel => exact ⟨k + 1, by omega, by go_num, fn_succ hal.out hq.out, hbw.trans (hb1.mono hbw.size)⟩
        case measure => simp [intOf]; omega
      · go_ret
        exact askP_no hq (hk.trans ((hbw.trans (hb1.mono hbw.size)).mono hk.size)) (fun e => (thr_iff.1 e.2.2).1 k hkn)
    · obtain rfl : k = 4 := by omega
      replace hb := hb.next hbw
      replace hk := hk.trans (hbw.mono hk.size)
      clear hf hbw
      simp only [show ((4 : Nat) : Int) = 4 from rfl]
      go_wp2_with (first
          | go_skip
          | (with_reducible refine wpList_load1 (by kernel_rfl) _ _ rfl B _ rfl _ _ hb _ (by assumption) (by assumption) ?_)
          | (with_reducible refine wpList_loadp (by kernel_rfl) 31 _ rfl B _ rfl 5 _ _ hb _ (by assumption) (by omega) _ Try.underlying31 (by kernel_rfl) size31 ?_)
          | ((with_reducible refine wpList_test (by kernel_rfl) .neq _ _ _ _ rfl _ _ rfl rfl (neg_int _ _ _ _ _ _) ?_ ?_) <;> intro hq)
          | ((with_reducible refine wpList_test (by kernel_rfl) .neq _ _ _ _ rfl _ _ rfl rfl (neg_wait _ _ _ _ _ _ _ _ _ _ _ _) ?_ ?_) <;> intro hq)
          | (with_reducible refine wpList_loadp (by kernel_rfl) 33 _ rfl B _ rfl 2 _ _ hb _ (by assumption) (by omega) _ Try.underlying33 (by kernel_rfl) size33 ?_)
          | ((with_reducible refine wpList_test (by kernel_rfl) .geq _ _ _ _ rfl _ _ rfl rfl (tge_int _ _ _ _ _ _) ?_ ?_) <;> intro hq)
          | ((with_reducible refine wpList_test (by kernel_rfl) .leq _ _ _ _ rfl _ _ rfl rfl (tle_int _ _ _ _ _ _) ?_ ?_) <;> intro hq)
          | (go_at_call 36; (with_reducible refine (rkept_any l17 hk).on ?_ ?_) <;> (intro w1 hq hb1; replace hb := hb.next hb1; replace hk := hk.trans (hb1.mono hk.size); clear hb1))
          | (go_at_call 42; (with_reducible refine (Asks.of (rlleq_any (hl.lab' hk) (l17.lab' hk))).on ?_ ?_) <;> (intro w1 hq hb1; replace hb := hb.next hb1; replace hk := hk.trans (hb1.mono hk.size); clear hb1))
          | (go_at_call 74; (with_reducible refine (rspan_any t.lo t.hi _).on ?_ ?_) <;> (intro w1 hq hb1; replace hb := hb.next hb1; replace hk := hk.trans (hb1.mono hk.size); clear hb1)))
      all_goals (first | go_ret | skip)
      all_goals first
          | (refine askP_no (Y := (t.wc = 0 ∧ t.wi = 0 ∧ t.wx = 0 ∧ t.wv = 0 ∧ t.wd = false)) (by assumption) hk (fun e => ?_); exact (thr_iff.1 e.2.2).2.2.2.2.2.resolve_left (Hid.out (by assumption)))
          | (refine askP_yes ⟨Hid.out (by assumption), Hid.out (by assumption), thr_iff.2 ⟨Hid.out (by assumption), Hid.out (by assumption), Hid.out (by assumption), ?_, Hid.out (by assumption), .inl (Classical.not_not.1 (Hid.out (by assumption)))⟩⟩ hk; (have hl : (n28 : Int) ≤ 8 := Hid.out (by assumption)); rw [hn28.out]; omega)
          | (refine askP_yes ⟨Hid.out (by assumption), Hid.out (by assumption), thr_iff.2 ⟨Hid.out (by assumption), Hid.out (by assumption), Hid.out (by assumption), ?_, Hid.out (by assumption), .inr (Classical.not_not.1 (Hid.out (by assumption)))⟩⟩ hk; (have hl : (n28 : Int) ≤ 8 := Hid.out (by assumption)); rw [hn28.out]; omega)
          | (refine askP_no (Y := spanI t.lo t.hi = true) (by assumption) hk (fun e => ?_); exact (thr_iff.1 e.2.2).2.2.2.2.1)
          | (have hl : 8 < (n28 : Int) := Hid.out (by assumption); refine ⟨false, rfl, ⟨fun e => absurd e Bool.false_ne_true, fun e => ?_⟩, hk⟩; exfalso; have := (thr_iff.1 e.2.2).2.2.2.1; rw [hn28.out] at this; omega)
          | (have hl : 2 < t.state := Hid.out (by assumption); refine ⟨false, rfl, ⟨fun e => absurd e Bool.false_ne_true, fun e => ?_⟩, hk⟩; exfalso; have := (thr_iff.1 e.2.2).2.2.1; omega)
          | (have hl : t.state < 0 := Hid.out (by assumption); refine ⟨false, rfl, ⟨fun e => absurd e Bool.false_ne_true, fun e => ?_⟩, hk⟩; exfalso; have := (thr_iff.1 e.2.2).2.1; omega)
          | (refine askP_no (Y := rleqB l t.clear = true) (by assumption) hk (fun e => ?_); exact e.2.1)
          | (refine askP_no (Y := keptB t.clear = true) (by assumption) hk (fun e => ?_); exact e.1)
          | fail
end Go.Proofs.Ytfpmkihlfhpgdaa
