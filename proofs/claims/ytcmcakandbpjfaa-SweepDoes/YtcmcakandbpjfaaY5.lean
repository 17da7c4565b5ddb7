/-
 PROVED HERE: what package obj's soundThread and the document's thread return when they are called (contracts over this tran. What is asked stands at each.
-/
import Derived.Deep.DeepCutAuto
import Derived.Test.YtcmcakandbpjfaaY4
namespace Go.Proofs.Ytcmcakandbpjfaa
set_option maxRecDepth 100000
set_option maxHeartbeats 8000000
open Go.RowKit Go.Shelf
set_option linter.unusedVariables false
attribute [local go_sem] Oper.semAt_some
section
variable {w : World}
theorem tge_int (t : TypeId) (x y : Operand) (k : IntKind) (m n : Int) : ∃ b : Bool, (do eqGuard .geq t x y (.int k m) (.int k n); binOp .geq t (.int k m) (.int k n)).run Try.prog w = .ok (.bool b) w ∧ (b = true ↔ n ≤ m) :=
 ⟨decide (n ≤ m), by simp [eqGuard, binOp, Op.intCmp], by simp⟩
theorem tle_int (t : TypeId) (x y : Operand) (k : IntKind) (m n : Int) : ∃ b : Bool, (do eqGuard .leq t x y (.int k m) (.int k n); binOp .leq t (.int k m) (.int k n)).run Try.prog w = .ok (.bool b) w ∧ (b = true ↔ m ≤ n) :=
 ⟨decide (m ≤ n), by simp [eqGuard, binOp, Op.intCmp], by simp⟩
theorem tlt_int (t : TypeId) (x y : Operand) (k : IntKind) (m n : Int) : ∃ b : Bool, (do eqGuard .lss t x y (.int k m) (.int k n); binOp .lss t (.int k m) (.int k n)).run Try.prog w = .ok (.bool b) w ∧ (b = true ↔ m < n) :=
 ⟨decide (m < n), by simp [eqGuard, binOp, Op.intCmp], by simp⟩
theorem tgt_int (t : TypeId) (x y : Operand) (k : IntKind) (m n : Int) : ∃ b : Bool, (do eqGuard .gtr t x y (.int k m) (.int k n); binOp .gtr t (.int k m) (.int k n)).run Try.prog w = .ok (.bool b) w ∧ (b = true ↔ n < m) :=
 ⟨decide (n < m), by simp [eqGuard, binOp, Op.intCmp], by simp⟩
end
theorem thr_iff {t : Th} : thrB t = true ↔ ((∀ i, i < 4 → keptB (labs t i) = true) ∧ 0 ≤ t.state ∧ t.state ≤ 2 ∧ t.alerts.length ≤ 8 ∧ spanI t.lo t.hi = true ∧ (t.state = 1 ∨ (t.wc = 0 ∧ t.wi = 0 ∧ t.wx = 0 ∧ t.wv = 0 ∧ t.wd = false))) := by
 have e : (∀ i, i < 4 → keptB (labs t i) = true) ↔ (keptB t.l0 = true ∧ keptB t.l1 = true ∧ keptB t.l2 = true ∧ keptB t.l3 = true) :=
  ⟨fun h => ⟨h 0 (by omega), h 1 (by omega), h 2 (by omega), h 3 (by omega)⟩, fun h i hi => by
   rcases i with _ | _ | _ | _ | i
   ·exact h.1
   ·exact h.2.1
   ·exact h.2.2.1
   ·exact h.2.2.2
   ·omega⟩
 rw [e]
 unfold thrB waitB spanB spanI
 simp
 constructor
 ·rintro ⟨h1, h2, h3, h4, h5⟩; exact ⟨⟨h1, h2, h3, h4⟩, h5⟩
 ·rintro ⟨⟨h1, h2, h3, h4⟩, h5⟩; exact ⟨h1, h2, h3, h4, h5⟩
theorem rthread_any {w : World} {T : Array Value} {t : Th} {ao : Option Addr} {n cap : Nat} {l : Lb} (hl : LabD (LtN w) w ao n cap l) (h : ThD (LtN w) w T t) : Asks 73 #[.slice ao n cap, .agg T] (keptB t.clear = true ∧ rleqB l t.clear = true ∧ thrB t = true) w := by
 have hz := h.size
 obtain ⟨a17, n17, k17, c17, l17⟩ := h.f.clear
 obtain ⟨a28, n28, k28, c28, l28⟩ := h.f.alerts
 have hn28 : Hid (t.alerts.length = n28) := l28.1
 have x29 := ext2 h.f.lo h.f.hi
 have x23 := ext5 h.f.wc h.f.wi h.f.wx h.f.wv h.f.wd
 have c22 := h.f.state
 have ga0 := Try.isAgg39
 have ga1 := Try.isAgg22
 have ga2 := Try.isAgg3
 have ga3 := Try.isAgg4
 have ga4 := Try.isAgg28
 have ga5 := Try.isAgg40
 unfold Asks
 go_enter Try.func73, Try.ntmps73
 go_wp2_with (first
  | go_skip
  | (with_reducible refine wpList_box rfl _ _ rfl T rfl ?_; intro B W hB hb hk))
 have hf := ThD.four (h.next hk) hb
 go_loopw [5] (fun i wr => ∃ k : Nat, k ≤ 4 ∧ i = .int .i64 k ∧ Hid (∀ j, j < k → keptB (labs t j) = true) ∧ Below W.heap.size W wr) (fun i _ => 4 - (intOf i).toNat)
 case atStart => exact ⟨0, Nat.zero_le _, rfl, fun j hj => absurd hj (by omega), Below.refl _ _⟩
 case round =>
  obtain ⟨k, hk4, rfl, hal, hbw⟩ := hrel
  by_cases hkn : k < 4
  ·obtain ⟨ai, ni, ci, d1, q2⟩ := (hf.next hbw).2 k hkn
   have hkn' : (k : Int) < 4 := by omega
   clear hf
   go_wp2_with (go_at_call 68; (with_reducible refine (rkept_any q2 (Below.refl _ _)).on ?_ ?_) <;> intro w1 hq hb1)
   ·go_roundw
    case rel => exact ⟨k + 1, by omega, by go_num, fn_succ hal.out hq.out, hbw.trans (hb1.mono hbw.size)⟩
    case measure => simp [intOf]; omega
   ·go_ret
    exact askP_no hq (hk.trans ((hbw.trans (hb1.mono hbw.size)).mono hk.size)) (fun e => (thr_iff.1 e.2.2).1 k hkn)
  ·obtain rfl : k = 4 := by omega
   replace hb := hb.next hbw
   replace hk := hk.trans (hbw.mono hk.size)
   clear hf hbw
   simp only [show ((4 : Nat) : Int) = 4 from rfl]
   go_wp2_with (first
     | go_skip
     | (with_reducible refine wpList_load1 (by kernel_rfl) _ _ rfl B _ rfl _ _ hb _ (by assumption) (by assumption) ?_)
     | (with_reducible refine wpList_loadp (by kernel_rfl) 45 _ rfl B _ rfl 5 _ _ hb _ (by assumption) (by omega) _ Try.underlying45 (by kernel_rfl) size31 ?_)
     | ((with_reducible refine wpList_test (by kernel_rfl) .neq _ _ _ _ rfl _ _ rfl rfl (neg_int _ _ _ _ _ _) ?_ ?_) <;> intro hq)
     | ((with_reducible refine wpList_test (by kernel_rfl) .neq _ _ _ _ rfl _ _ rfl rfl (neg_wait _ _ _ _ _ _ _ _ _ _ _ _) ?_ ?_) <;> intro hq)
     | (with_reducible refine wpList_loadp (by kernel_rfl) 47 _ rfl B _ rfl 2 _ _ hb _ (by assumption) (by omega) _ Try.underlying47 (by kernel_rfl) size33 ?_)
     | ((with_reducible refine wpList_test (by kernel_rfl) .geq _ _ _ _ rfl _ _ rfl rfl (tge_int _ _ _ _ _ _) ?_ ?_) <;> intro hq)
     | ((with_reducible refine wpList_test (by kernel_rfl) .leq _ _ _ _ rfl _ _ rfl rfl (tle_int _ _ _ _ _ _) ?_ ?_) <;> intro hq)
     | (go_at_call 68; (with_reducible refine (rkept_any l17 hk).on ?_ ?_) <;> (intro w1 hq hb1; replace hb := hb.next hb1; replace hk := hk.trans (hb1.mono hk.size); clear hb1))
     | (go_at_call 74; (with_reducible refine (Asks.of (rlleq_any (hl.lab' hk) (l17.lab' hk))).on ?_ ?_) <;> (intro w1 hq hb1; replace hb := hb.next hb1; replace hk := hk.trans (hb1.mono hk.size); clear hb1))
     | (go_at_call 85; (with_reducible refine (rspan_any t.lo t.hi _).on ?_ ?_) <;> (intro w1 hq hb1; replace hb := hb.next hb1; replace hk := hk.trans (hb1.mono hk.size); clear hb1)))
   all_goals (first | go_ret | skip)
   all_goals first
     | (refine askP_no (Y := (t.wc = 0 ∧ t.wi = 0 ∧ t.wx = 0 ∧ t.wv = 0 ∧ t.wd = false)) (by assumption) hk (fun e => ?_); exact (thr_iff.1 e.2.2).2.2.2.2.2.resolve_left (Hid.out (by assumption)))
     | (refine askP_yes ⟨Hid.out (by assumption), Hid.out (by assumption), thr_iff.2 ⟨Hid.out (by assumption), Hid.out (by assumption), Hid.out (by assumption), ?_, Hid.out (by assumption), .inl (Classical.not_not.1 (Hid.out (by assumption)))⟩⟩ hk; (have hl : (n28 : Int) ≤ 8 := Hid.out (by assumption)); rw [hn28.out]; omega)
     | (refine askP_yes ⟨Hid.out (by assumption), Hid.out (by assumption), thr_iff.2 ⟨Hid.out (by assumption), Hid.out (by assumption), Hid.out (by assumption), ?_, Hid.out (by assumption), .inr (Classical.not_not.1 (Hid.out (by assumption)))⟩⟩ hk; (have hl : (n28 : Int) ≤ 8 := Hid.out (by assumption)); rw [hn28.out]; omega)
     | (refine askP_no (Y := spanI t.lo t.hi = true) (by assumption) hk (fun e => ?_); exact (thr_iff.1 e.2.2).2.2.2.2.1)
     | (have hl : 8 < (n28 : Int) := Hid.out (by assumption); refine ⟨false, rfl, ⟨fun e => absurd e Bool.false_ne_true, fun e => ?_⟩, hk⟩; exfalso; have := (thr_iff.1 e.2.2).2.2.2.1; rw [hn28.out] at this; omega)
     | (have hl : 2 < t.state := Hid.out (by assumption); refine ⟨false, rfl, ⟨fun e => absurd e Bool.false_ne_true, fun e => ?_⟩, hk⟩; exfalso; have := (thr_iff.1 e.2.2).2.2.1; omega)
     | (have hl : t.state < 0 := Hid.out (by assumption); refine ⟨false, rfl, ⟨fun e => absurd e Bool.false_ne_true, fun e => ?_⟩, hk⟩; exfalso; have := (thr_iff.1 e.2.2).2.1; omega)
     | (refine askP_no (Y := rleqB l t.clear = true) (by assumption) hk (fun e => ?_); exact e.2.1)
     | (refine askP_no (Y := keptB t.clear = true) (by assumption) hk (fun e => ?_); exact e.1)
     | fail
end Go.Proofs.Ytcmcakandbpjfaa
namespace Go.Proofs.Ytcmcakandbpjfaa
set_option maxRecDepth 100000
set_option maxHeartbeats 8000000
open Go.RowKit Go.Shelf
set_option linter.unusedVariables false
attribute [local go_sem] Oper.semAt_some
section
variable {P : Program} {ops : Array Oper} {rest : List Oper} {op : Oper} {a : Act} {Q : Exit → Act → World → Prop} {w : World}
theorem wpList_loadb (hw : Region.wanted op (yielded ops a.tmps) = true) (ty : TypeId) (x : Operand) (ho : op.op = .load ty x) (B : Nat) (hx : a.eval x = .pointer (some ⟨B, 0, none⟩)) (C : Array Value) (hB : Blk w B C ty) (d : TypeDesc)
  (hu : P.underlying ty = some d) (hd : d.isRow = true) (hi : (P.info? ty).map (·.size) = some C.size) (h : wpList P ops Q rest (a.put op.dst (.agg C)) w) : wpList P ops Q (op :: rest) a w := by
 refine wpList_val hw ?_ h
 have := ob_loadb (S := fun W => W = w) (P := P) (fun _ e => by rw [e]; exact hB) hu hd hi w rfl
 unfold execOp
 simp [ho, hx, Instr.loadAt, Instr.sureAddr, this]
end
theorem com_iff {x : Ob} : comB x = true ↔ (idB x.id = true ∧ 1 ≤ x.quota ∧ x.quota ≤ 4096 ∧ keptB x.label = true ∧ (x.kind = 4 ∨ owned x.label = [])) := by unfold comB; simp
theorem own1 {x : Ob} (h : x.kind = 1) : ownB x = true ↔ ((x.data.length : Int) ≤ 16 * (x.quota - 1)) := by unfold ownB; rw [if_pos h]; try simp
theorem own2 {x : Ob} (h : x.kind = 2) : ownB x = true ↔ (x.links.length ≤ 64 ∧ allI x.links = true ∧ risB x.links = true) := by unfold ownB; rw [if_neg (by omega), if_pos h]; try simp [allI]
theorem own3 {x : Ob} (h : x.kind = 3) : ownB x = true ↔ (PgM.Pg.fitB x.maps = true) := by unfold ownB; rw [if_neg (by omega), if_neg (by omega), if_pos h]; try simp [allI]
theorem own4 {x : Ob} (h : x.kind = 4) : ownB x = true ↔ (x.fixed = false ∧ bounB x.label x.th.clear = true ∧ thrB x.th = true) := by unfold ownB; rw [if_neg (by omega), if_neg (by omega), if_neg (by omega), if_pos h]; try simp
theorem own5 {x : Ob} (h : x.kind = 5) : ownB x = true ↔ (bounB x.gt.grant x.gt.clear = true) := by unfold ownB; rw [if_neg (by omega), if_neg (by omega), if_neg (by omega), if_neg (by omega), if_pos h]; try simp [allI]
theorem own6 {x : Ob} (h : x.kind = 6) : ownB x = true ↔ (x.inn.length ≤ 64 ∧ x.out.length ≤ 1024) := by unfold ownB; rw [if_neg (by omega), if_neg (by omega), if_neg (by omega), if_neg (by omega), if_neg (by omega), if_pos h]; try simp
theorem own7 {x : Ob} (h : ¬ (1 ≤ x.kind ∧ x.kind ≤ 6)) : ownB x = true ↔ False := by unfold ownB; rw [if_neg (by omega), if_neg (by omega), if_neg (by omega), if_neg (by omega), if_neg (by omega), if_neg (by omega)]; simp
end Go.Proofs.Ytcmcakandbpjfaa
namespace Go.Proofs.Ytcmcakandbpjfaa
set_option maxRecDepth 100000
set_option maxHeartbeats 8000000
open Go.RowKit Go.Shelf
set_option linter.unusedVariables false
attribute [local go_sem] Oper.semAt_some

section
variable {ops : Array Oper} {Q : Exit → Act → World → Prop} {S : World → Prop} {w : World} {fuel m : Nat} {a : Act} {l : Array Bool}
theorem wpOp_callL {i : Nat} {f : FuncId} {vs : List Value} {d : Option Tmp} {R : Ending → World → Prop} {K : Act → World → Prop} (hi : (ops[i]?).bind (fun o => callOf ops o a) = some (f, vs, d))
  (hf : ∀ args w, (callFunc f args).run Try.prog w = .ok (.enter f args) w) (hc : Calls Try.prog f vs.toArray w R)
  (h : ∀ e w', R e w' → ∃ v, e = .returned v ∧ K (a.put d v) w') : wpOp Try.prog ops Q i K a w := by
 cases ho : ops[i]? with
 | none => rw [ho] at hi; cases hi
 | some o =>
  rw [ho] at hi
  obtain ⟨h1, h2, h3⟩ := callOf_run (show callOf ops o a = _ from hi) hf w
  unfold wpOp
  simp only [ho, h1, if_true]
  left
  unfold Oper.wp
  rw [h3, Oper.upon_enter]
  refine hc.mono ?_
  intro e w' hR
  obtain ⟨v, rfl, h⟩ := h e w' hR
  rw [h2]
  exact h
theorem wpAnyH_callL {i : Nat} {f : FuncId} {vs : List Value} {d : Option Tmp} {R : Ending → World → Prop} (hm : m = fuel + 1) (hr : Region.ready .any ops l = [i]) (hi : (ops[i]?).bind (fun o => callOf ops o a) = some (f, vs, d))
  (hf : ∀ args w, (callFunc f args).run Try.prog w = .ok (.enter f args) w) (hc : Calls Try.prog f vs.toArray w R)
  (h : ∀ e w', R e w' → ∃ v, e = .returned v ∧ S w' ∧ wpAnyH Try.prog .any ops Q S fuel (l.setIfInBounds i true) (a.put d v) w') : wpAnyH Try.prog .any ops Q S m l a w := by
 subst hm
 refine wpAnyH_all hr (by simp) ?_
 intro j hj
 obtain rfl : j = i := by simpa using hj
 exact wpOp_callL hi hf hc h
theorem wpAnyH_askL {X : Prop} {i : Nat} {f : FuncId} {vs : List Value} {d : Option Tmp} (hm : m = fuel + 1) (hr : Region.ready .any ops l = [i]) (hi : (ops[i]?).bind (fun o => callOf ops o a) = some (f, vs, d))
  (hf : ∀ args w, (callFunc f args).run Try.prog w = .ok (.enter f args) w) (hc : Asks f vs.toArray X w) (hS : ∀ w', Below w.heap.size w w' → S w')
  (h1 : ∀ w', Hid X → Below w.heap.size w w' → S w' → wpAnyH Try.prog .any ops Q S fuel (l.setIfInBounds i true) (a.put d (.bool true)) w')
  (h0 : ∀ w', Hid (¬ X) → Below w.heap.size w w' → S w' → wpAnyH Try.prog .any ops Q S fuel (l.setIfInBounds i true) (a.put d (.bool false)) w') : wpAnyH Try.prog .any ops Q S m l a w := by
 refine wpAnyH_callL hm hr hi hf hc ?_
 rintro e w' ⟨b, rfl, hb, hk⟩
 refine ⟨_, rfl, hS w' hk, ?_⟩
 cases b with
 | true => exact h1 w' (hb.out.1 rfl) hk (hS w' hk)
 | false => exact h0 w' (fun x => absurd (hb.out.2 x) Bool.false_ne_true) hk (hS w' hk)
end
theorem sound_iff {x : Ob} : soundB x = true ↔ (comB x = true ∧ ownB x = true ∧ witO x = comO x) := by unfold soundB; simp [sameO_iff]
end Go.Proofs.Ytcmcakandbpjfaa
namespace Go.Proofs.Ytcmcakandbpjfaa
set_option maxRecDepth 100000
set_option maxHeartbeats 8000000
open Go.RowKit Go.Shelf
set_option linter.unusedVariables false
attribute [local go_sem] Oper.semAt_some
theorem rid_q (n : Int) (w : World) : Calls Try.prog 67 #[.int .u64 n] w fun e w' => e = .returned (.bool (idB n)) ∧ w' = w := by
 have hr : Hid (idB n = (decide (1 ≤ n) && decide (n ≤ 2305843009213693952))) := rfl
 go_enter Try.func67, Try.ntmps67
 go_wp2
 all_goals (go_ret; refine ⟨?_, rfl⟩; rw [hr.out]; first | (refine congrArg (fun z => Ending.returned (.bool z)) (?_ : decide (n ≤ 2305843009213693952) = _); rw [Bool.eq_iff_iff]; simp; omega) | (refine congrArg (fun z => Ending.returned (.bool z)) (?_ : false = _); rw [Bool.eq_iff_iff]; simp; omega) | (refine congrArg (fun z => Ending.returned (.bool z)) (?_ : true = _); rw [Bool.eq_iff_iff]; simp; omega))
theorem rrising_any {w0 w : World} {ao : Option Addr} {n cap : Nat} {L : List Int} (h0 : CtD (LtN w0) w0 ao n cap L) (hk0 : Below w0.heap.size w0 w) : Asks 71 #[.slice ao n cap] (allI L = true ∧ risB L = true) w := by
 have hL := h0.ct' hk0
 clear h0 hk0
 have hn : Hid (L.length = n) := hL.1
 have hnc := hL.2.1
 have hcm := hL.2.2.1.1
 unfold Asks
 go_enter Try.func71, Try.ntmps71
 go_wp2
 go_loopw [3] (fun i wr => ∃ k : Nat, k ≤ n ∧ i = .int .i64 k ∧ Hid ((∀ j, j < k → idB (L.getD j 0) = true) ∧ ∀ j, j + 1 < k → L.getD j 0 < L.getD (j + 1) 0) ∧ Below w.heap.size w wr) (fun i _ => n - (intOf i).toNat)
 case atStart => exact ⟨0, Nat.zero_le _, rfl, ⟨fun j hj => absurd hj (by omega), fun j hj => absurd hj (by omega)⟩, Below.refl _ _⟩
 case round =>
  obtain ⟨k, hk, rfl, hal, hb⟩ := hrel
  by_cases hkn : k < n
  ·have hLw := hL.laterK fun b hb' => hb.block b hb'
   obtain ⟨b, off, y, rfl, hbb, hy, d1⟩ := hLw.at hkn
   have hkn' : (k : Int) < n := by omega
   cases hid : idB y with
   | false =>
    have hq : Hid (¬ allI L = true) := by
     refine (?_ : ¬ allI L = true)
     intro e; have := allI_iff.1 e k (by rw [hn.out]; exact hkn); rw [hy.out, hid] at this; cases this
    have hc := fun w => rid_q y w
    rw [hid] at hc
    clear hLw hid
    go_wp2
    go_quiet (first | (go_at_call 67; refine Calls.quiet_of_same (hc _)))
    go_wp2
    go_ret
    exact askP_no hq (PgM.below_drewN hb _) (fun e => e.1)
   | true =>
    have hc := fun w => rid_q y w
    rw [hid] at hc
    by_cases hk0 : k = 0
    ·have hal2 : Hid ((∀ j, j < k + 1 → idB (L.getD j 0) = true) ∧ ∀ j, j + 1 < k + 1 → L.getD j 0 < L.getD (j + 1) 0) := ⟨fn_succ hal.out.1 (by rw [hy.out]; exact hid), fun j hj => absurd hj (by omega)⟩
     have hk0' : ¬ 0 < k := by omega
     have hk0d : decide ((0 : Int) < (k : Int)) = false := decide_eq_false (by omega)
     clear hLw hid hk0
     go_wp2
     go_quiet (first | (go_at_call 67; refine Calls.quiet_of_same (hc _)))
     go_wp2
     go_roundw
     case rel => exact ⟨k + 1, by omega, by go_num, hal2, PgM.below_drewN hb _⟩
     case measure => simp [intOf]; omega
    ·obtain ⟨j, hj⟩ : ∃ j, Hid (k = j + 1) := ⟨k - 1, by show _ = _; omega⟩
     have hw : IntKind.i64.wrap ((k : Int) - 1) = (j : Int) := by have := hj.out; rw [IntKind.wrap_i64]; omega
     have hjn : j < n := by have := hj.out; omega
     have hjn' : (j : Int) < n := by omega
     have hkp : 0 < k := by omega
     have hk0d : decide ((0 : Int) < (k : Int)) = true := decide_eq_true (by omega)
     obtain ⟨b', off', x, e', hbb', hx, d0⟩ := hLw.at hjn
     cases e'
     clear hLw
     by_cases hxy : x < y
     ·have hal2 : Hid ((∀ j, j < k + 1 → idB (L.getD j 0) = true) ∧ ∀ j, j + 1 < k + 1 → L.getD j 0 < L.getD (j + 1) 0) := by
       refine ⟨fn_succ hal.out.1 (by rw [hy.out]; exact hid), ?_⟩
       intro i hi
       rcases Nat.lt_or_ge (i + 1) k with h | h
       ·exact hal.out.2 i h
       ·have hij : i = j := by have := hj.out; omega
        rw [hij, hx.out, ← hj.out, hy.out]; exact hxy
      have hd : ¬ (y ≤ x) := by omega
      have hd' : decide (y ≤ x) = false := decide_eq_false hd
      clear hid hk0
      go_wp2
      go_quiet (first | (go_at_call 67; refine Calls.quiet_of_same (hc _)))
      go_wp2
      go_roundw
      case rel => exact ⟨k + 1, by omega, by go_num, hal2, PgM.below_drewN hb _⟩
      case measure => simp [intOf]; omega
     ·have hq : Hid (¬ risB L = true) := by
       refine (?_ : ¬ risB L = true)
       intro e
       have := ris_iff.1 e j (by rw [hn.out, ← hj.out]; exact hkn)
       rw [hx.out, ← hj.out, hy.out] at this
       exact hxy this
      have hd : y ≤ x := by omega
      have hd' : decide (y ≤ x) = true := decide_eq_true hd
      clear hid hk0
      go_wp2
      go_quiet (first | (go_at_call 67; refine Calls.quiet_of_same (hc _)))
      go_wp2
      go_ret
      exact askP_no hq (PgM.below_drewN hb _) (fun e => e.2)
  ·obtain rfl : k = n := by omega
   go_wp2
   go_ret
   exact askP_yes ⟨allI_iff.2 fun i hi => hal.out.1 i (by rw [hn.out] at hi; exact hi), ris_iff.2 fun i hi => hal.out.2 i (by rw [hn.out] at hi; exact hi)⟩ hb
theorem ralone_any {w : World} {C : Array Value} {x : Ob} (h : ObD (LtN w) w C x) : Asks 69 #[.agg C] (aloO x = x) w := by
 have hz := h.size
 have c0 := h.id
 have c1 := h.kind
 obtain ⟨a2, n2, k2, c2, l2⟩ := h.label
 have hn2 : Hid (x.label.length = n2) := l2.1
 have c3 := h.quota
 have c4 := h.fixed
 obtain ⟨a5, n5, k5, c5, l5⟩ := h.links
 have hn5 : Hid (x.links.length = n5) := l5.1
 obtain ⟨a6, n6, k6, c6, l6⟩ := h.data
 have hn6 : Hid (x.data.length = n6) := l6.1
 obtain ⟨a7, n7, k7, c7, l7⟩ := h.maps
 have hn7 : Hid (x.maps.length = n7) := l7.1
 obtain ⟨a49, n49, k49, c49, l49⟩ := h.inn
 have hn49 : Hid (x.inn.length = n49) := l49.1
 obtain ⟨a50, n50, k50, c50, l50⟩ := h.out
 have hn50 : Hid (x.out.length = n50) := l50.1
 obtain ⟨a25, n25, k25, c25, l25⟩ := h.th.clear
 obtain ⟨a43, n43, k43, c43, l43⟩ := h.gt.grant
 obtain ⟨a44, n44, k44, c44, l44⟩ := h.gt.clear
 replace c25 : C[25]? = some (.slice a25 n25 k25) := c25
 replace c43 : C[43]? = some (.slice a43 n43 k43) := c43
 replace c44 : C[44]? = some (.slice a44 n44 k44) := c44
 have ga0 := Try.isAgg39
 have ga1 := Try.isAgg22
 have ga2 := Try.isAgg3
 have ga3 := Try.isAgg4
 have ga4 := Try.isAgg28
 have ga5 := Try.isAgg40
 unfold Asks
 by_cases h1 : x.kind = 1
 ·replace c1 : C[1]? = some (.int .i64 1) := c1.trans (by rw [h1])
  have halo : aloO x = { (⟨x.id, 1, x.label, x.quota, x.fixed, [], [], [], zTh, zGt, [], []⟩ : Ob) with data := x.data } := by rw [alo1 h1, ← h1]; rfl
  clear h1
  have hcm := comC_d (i := x.id) (k := 1) (q := x.quota) (f := x.fixed) l2
  have hcz := hcm.size
  have hd := hcm.set6 ⟨_, _, _, rfl, l6⟩ rfl
  go_enter Try.func69, Try.ntmps69
  go_wp2_with (first
   | go_skip
   | (with_reducible refine wpList_box rfl _ _ rfl C rfl ?_; intro B W hB hb hk)
   | (with_reducible refine wpList_load1 (by kernel_rfl) _ _ rfl B _ rfl _ _ hb _ (by assumption) (by assumption) ?_)
   | (with_reducible refine wpList_load1 (by kernel_rfl) _ _ rfl B _ rfl _ _ e2 _ (by assumption) (by assumption) ?_)
   | (with_reducible refine wpList_load1 (by kernel_rfl) _ _ rfl B _ rfl _ _ e3 _ (by assumption) (by assumption) ?_)
   | ((with_reducible refine wpList_build rfl _ _ rfl (comC (.int .u64 x.id) (.int .i64 1) (.slice a2 n2 k2) (.int .i64 x.quota) (.bool x.fixed)) ?hf ?_); (case hf => exact built_com _ _ _ _ _ _ _))
   | (with_reducible refine wpList_alloc rfl _ rfl zC zero40 ?_; intro B' W' hB' hb' hk'; have hne : B ≠ B' := (by have := hB'.out.1; have := hb.lt; omega); have b1 := hk.trans (hk'.mono hk.size); have hl' : w.heap.size ≤ B' := (by have := hB'.out.1; have := hk.size; omega))
   | ((with_reducible refine wpList_store_blk rfl _ _ _ rfl B' rfl (comC (.int .u64 x.id) (.int .i64 1) (.slice a2 n2 k2) (.int .i64 x.quota) (.bool x.fixed)) rfl zC hb' (size40C hcz) (zC_size.trans hcz.symm) hcm.one ?_); intro W2 b2 o2; have e2 := (hb.next hk').other o2 hne; have kb2 := o2.below w.heap.size w hl' b1)
   | ((with_reducible refine wpList_store_cell rfl _ _ _ rfl B' 6 rfl (.slice a6 n6 k6) rfl rfl _ _ b2 size25 (by first | (rw [hcz]; omega) | (rw [Array.size_setIfInBounds, hcz]; omega)) rfl ?_); intro W3 b3 o3; have e3 := e2.other o3 hne; have kb3 := o3.below w.heap.size w hl' kb2)
   | ((with_reducible refine wpList_load_blk rfl _ _ rfl B' rfl _ b3 _ Try.underlying54 rfl (size40C hd.size) ?_))
   | ((with_reducible refine wpList_load_blk rfl _ _ rfl B rfl _ e3 _ Try.underlying54 rfl (size40C hz) ?_))
   | (go_at_call 19; (with_reducible refine (rsameOne_any (hd.next kb3) (h.next kb3)).on ?_ ?_) <;> intro w9 hq hb9))
  ·go_ret
   exact askP_yes ((show aloO x = x by rw [halo]; exact hq.out)) (kb3.trans (hb9.mono kb3.size))
  ·go_ret
   exact askP_no hq (kb3.trans (hb9.mono kb3.size)) (fun e => (by rw [halo] at e; exact e))
 by_cases h2 : x.kind = 2
 ·replace c1 : C[1]? = some (.int .i64 2) := c1.trans (by rw [h2])
  have halo : aloO x = { (⟨x.id, 2, x.label, x.quota, x.fixed, [], [], [], zTh, zGt, [], []⟩ : Ob) with links := x.links } := by rw [alo2 h2, ← h2]; rfl
  clear h1 h2
  have hcm := comC_d (i := x.id) (k := 2) (q := x.quota) (f := x.fixed) l2
  have hcz := hcm.size
  have hd := hcm.set5 ⟨_, _, _, rfl, l5⟩ rfl
  go_enter Try.func69, Try.ntmps69
  go_wp2_with (first
   | go_skip
   | (with_reducible refine wpList_box rfl _ _ rfl C rfl ?_; intro B W hB hb hk)
   | (with_reducible refine wpList_load1 (by kernel_rfl) _ _ rfl B _ rfl _ _ hb _ (by assumption) (by assumption) ?_)
   | (with_reducible refine wpList_load1 (by kernel_rfl) _ _ rfl B _ rfl _ _ e2 _ (by assumption) (by assumption) ?_)
   | (with_reducible refine wpList_load1 (by kernel_rfl) _ _ rfl B _ rfl _ _ e3 _ (by assumption) (by assumption) ?_)
   | ((with_reducible refine wpList_build rfl _ _ rfl (comC (.int .u64 x.id) (.int .i64 2) (.slice a2 n2 k2) (.int .i64 x.quota) (.bool x.fixed)) ?hf ?_); (case hf => exact built_com _ _ _ _ _ _ _))
   | (with_reducible refine wpList_alloc rfl _ rfl zC zero40 ?_; intro B' W' hB' hb' hk'; have hne : B ≠ B' := (by have := hB'.out.1; have := hb.lt; omega); have b1 := hk.trans (hk'.mono hk.size); have hl' : w.heap.size ≤ B' := (by have := hB'.out.1; have := hk.size; omega))
   | ((with_reducible refine wpList_store_blk rfl _ _ _ rfl B' rfl (comC (.int .u64 x.id) (.int .i64 2) (.slice a2 n2 k2) (.int .i64 x.quota) (.bool x.fixed)) rfl zC hb' (size40C hcz) (zC_size.trans hcz.symm) hcm.one ?_); intro W2 b2 o2; have e2 := (hb.next hk').other o2 hne; have kb2 := o2.below w.heap.size w hl' b1)
   | ((with_reducible refine wpList_store_cell rfl _ _ _ rfl B' 5 rfl (.slice a5 n5 k5) rfl rfl _ _ b2 size25 (by first | (rw [hcz]; omega) | (rw [Array.size_setIfInBounds, hcz]; omega)) rfl ?_); intro W3 b3 o3; have e3 := e2.other o3 hne; have kb3 := o3.below w.heap.size w hl' kb2)
   | ((with_reducible refine wpList_load_blk rfl _ _ rfl B' rfl _ b3 _ Try.underlying54 rfl (size40C hd.size) ?_))
   | ((with_reducible refine wpList_load_blk rfl _ _ rfl B rfl _ e3 _ Try.underlying54 rfl (size40C hz) ?_))
   | (go_at_call 19; (with_reducible refine (rsameOne_any (hd.next kb3) (h.next kb3)).on ?_ ?_) <;> intro w9 hq hb9))
  ·go_ret
   exact askP_yes ((show aloO x = x by rw [halo]; exact hq.out)) (kb3.trans (hb9.mono kb3.size))
  ·go_ret
   exact askP_no hq (kb3.trans (hb9.mono kb3.size)) (fun e => (by rw [halo] at e; exact e))
 by_cases h3 : x.kind = 3
 ·replace c1 : C[1]? = some (.int .i64 3) := c1.trans (by rw [h3])
  have halo : aloO x = { (⟨x.id, 3, x.label, x.quota, x.fixed, [], [], [], zTh, zGt, [], []⟩ : Ob) with maps := x.maps } := by rw [alo3 h3, ← h3]; rfl
  clear h1 h2 h3
  have hcm := comC_d (i := x.id) (k := 3) (q := x.quota) (f := x.fixed) l2
  have hcz := hcm.size
  have hd := hcm.set7 ⟨_, _, _, rfl, l7⟩ rfl
  go_enter Try.func69, Try.ntmps69
  go_wp2_with (first
   | go_skip
   | (with_reducible refine wpList_box rfl _ _ rfl C rfl ?_; intro B W hB hb hk)
   | (with_reducible refine wpList_load1 (by kernel_rfl) _ _ rfl B _ rfl _ _ hb _ (by assumption) (by assumption) ?_)
   | (with_reducible refine wpList_load1 (by kernel_rfl) _ _ rfl B _ rfl _ _ e2 _ (by assumption) (by assumption) ?_)
   | (with_reducible refine wpList_load1 (by kernel_rfl) _ _ rfl B _ rfl _ _ e3 _ (by assumption) (by assumption) ?_)
   | ((with_reducible refine wpList_build rfl _ _ rfl (comC (.int .u64 x.id) (.int .i64 3) (.slice a2 n2 k2) (.int .i64 x.quota) (.bool x.fixed)) ?hf ?_); (case hf => exact built_com _ _ _ _ _ _ _))
   | (with_reducible refine wpList_alloc rfl _ rfl zC zero40 ?_; intro B' W' hB' hb' hk'; have hne : B ≠ B' := (by have := hB'.out.1; have := hb.lt; omega); have b1 := hk.trans (hk'.mono hk.size); have hl' : w.heap.size ≤ B' := (by have := hB'.out.1; have := hk.size; omega))
   | ((with_reducible refine wpList_store_blk rfl _ _ _ rfl B' rfl (comC (.int .u64 x.id) (.int .i64 3) (.slice a2 n2 k2) (.int .i64 x.quota) (.bool x.fixed)) rfl zC hb' (size40C hcz) (zC_size.trans hcz.symm) hcm.one ?_); intro W2 b2 o2; have e2 := (hb.next hk').other o2 hne; have kb2 := o2.below w.heap.size w hl' b1)
   | ((with_reducible refine wpList_store_cell rfl _ _ _ rfl B' 7 rfl (.slice a7 n7 k7) rfl rfl _ _ b2 size26 (by first | (rw [hcz]; omega) | (rw [Array.size_setIfInBounds, hcz]; omega)) rfl ?_); intro W3 b3 o3; have e3 := e2.other o3 hne; have kb3 := o3.below w.heap.size w hl' kb2)
   | ((with_reducible refine wpList_load_blk rfl _ _ rfl B' rfl _ b3 _ Try.underlying54 rfl (size40C hd.size) ?_))
   | ((with_reducible refine wpList_load_blk rfl _ _ rfl B rfl _ e3 _ Try.underlying54 rfl (size40C hz) ?_))
   | (go_at_call 19; (with_reducible refine (rsameOne_any (hd.next kb3) (h.next kb3)).on ?_ ?_) <;> intro w9 hq hb9))
  ·go_ret
   exact askP_yes ((show aloO x = x by rw [halo]; exact hq.out)) (kb3.trans (hb9.mono kb3.size))
  ·go_ret
   exact askP_no hq (kb3.trans (hb9.mono kb3.size)) (fun e => (by rw [halo] at e; exact e))
 by_cases h4 : x.kind = 4
 ·replace c1 : C[1]? = some (.int .i64 4) := c1.trans (by rw [h4])
  have halo : aloO x = { (⟨x.id, 4, x.label, x.quota, x.fixed, [], [], [], zTh, zGt, [], []⟩ : Ob) with th := x.th } := by rw [alo4 h4, ← h4]; rfl
  clear h1 h2 h3 h4
  have hcm := comC_d (i := x.id) (k := 4) (q := x.quota) (f := x.fixed) l2
  have hcz := hcm.size
  have hd := hcm.setT h.thd
  obtain ⟨CT, hCT⟩ : ∃ CT, ((comC (.int .u64 x.id) (.int .i64 4) (.slice a2 n2 k2) (.int .i64 x.quota) (.bool x.fixed)).extract 0 8 ++ C.extract 8 (8 + 35) ++ (comC (.int .u64 x.id) (.int .i64 4) (.slice a2 n2 k2) (.int .i64 x.quota) (.bool x.fixed)).extract (8 + (C.extract 8 (8 + 35)).size) (comC (.int .u64 x.id) (.int .i64 4) (.slice a2 n2 k2) (.int .i64 x.quota) (.bool x.fixed)).size) = CT := ⟨_, rfl⟩
  rw [hCT] at hd
  go_enter Try.func69, Try.ntmps69
  go_wp2_with (first
   | go_skip
   | (with_reducible refine wpList_box rfl _ _ rfl C rfl ?_; intro B W hB hb hk)
   | (with_reducible refine wpList_load1 (by kernel_rfl) _ _ rfl B _ rfl _ _ hb _ (by assumption) (by assumption) ?_)
   | (with_reducible refine wpList_load1 (by kernel_rfl) _ _ rfl B _ rfl _ _ e2 _ (by assumption) (by assumption) ?_)
   | (with_reducible refine wpList_load1 (by kernel_rfl) _ _ rfl B _ rfl _ _ e3 _ (by assumption) (by assumption) ?_)
   | ((with_reducible refine wpList_build rfl _ _ rfl (comC (.int .u64 x.id) (.int .i64 4) (.slice a2 n2 k2) (.int .i64 x.quota) (.bool x.fixed)) ?hf ?_); (case hf => exact built_com _ _ _ _ _ _ _))
   | (with_reducible refine wpList_alloc rfl _ rfl zC zero40 ?_; intro B' W' hB' hb' hk'; have hne : B ≠ B' := (by have := hB'.out.1; have := hb.lt; omega); have b1 := hk.trans (hk'.mono hk.size); have hl' : w.heap.size ≤ B' := (by have := hB'.out.1; have := hk.size; omega))
   | ((with_reducible refine wpList_store_blk rfl _ _ _ rfl B' rfl (comC (.int .u64 x.id) (.int .i64 4) (.slice a2 n2 k2) (.int .i64 x.quota) (.bool x.fixed)) rfl zC hb' (size40C hcz) (zC_size.trans hcz.symm) hcm.one ?_); intro W2 b2 o2; have e2 := (hb.next hk').other o2 hne; have kb2 := o2.below w.heap.size w hl' b1)
   | (with_reducible refine wpList_loadp (by kernel_rfl) 50 _ rfl B _ rfl 35 _ _ e2 _ rfl (by rw [hz]; omega) _ Try.underlying50 (by kernel_rfl) size36 ?_)
   | ((with_reducible refine wpList_store_part rfl _ _ _ rfl B' 8 rfl (C.extract 8 (8 + 35)) rfl _ _ b2 (by rw [h.thd.size]; exact size36) (by rw [h.thd.size, hcz]; omega) h.thd.one ?_); intro W3 b3 o3; rw [hCT] at b3; have e3 := e2.other o3 hne; have kb3 := o3.below w.heap.size w hl' kb2)
   | ((with_reducible refine wpList_load_blk rfl _ _ rfl B' rfl _ b3 _ Try.underlying54 rfl (size40C hd.size) ?_))
   | ((with_reducible refine wpList_load_blk rfl _ _ rfl B rfl _ e3 _ Try.underlying54 rfl (size40C hz) ?_))
   | (go_at_call 19; (with_reducible refine (rsameOne_any (hd.next kb3) (h.next kb3)).on ?_ ?_) <;> intro w9 hq hb9))
  ·go_ret
   exact askP_yes ((show aloO x = x by rw [halo]; exact hq.out)) (kb3.trans (hb9.mono kb3.size))
  ·go_ret
   exact askP_no hq (kb3.trans (hb9.mono kb3.size)) (fun e => (by rw [halo] at e; exact e))
 by_cases h5 : x.kind = 5
 ·replace c1 : C[1]? = some (.int .i64 5) := c1.trans (by rw [h5])
  have halo : aloO x = { (⟨x.id, 5, x.label, x.quota, x.fixed, [], [], [], zTh, zGt, [], []⟩ : Ob) with gt := x.gt } := by rw [alo5 h5, ← h5]; rfl
  clear h1 h2 h3 h4 h5
  have hcm := comC_d (i := x.id) (k := 5) (q := x.quota) (f := x.fixed) l2
  have hcz := hcm.size
  have hd := hcm.setG h.gtd
  obtain ⟨CT, hCT⟩ : ∃ CT, ((comC (.int .u64 x.id) (.int .i64 5) (.slice a2 n2 k2) (.int .i64 x.quota) (.bool x.fixed)).extract 0 43 ++ C.extract 43 (43 + 6) ++ (comC (.int .u64 x.id) (.int .i64 5) (.slice a2 n2 k2) (.int .i64 x.quota) (.bool x.fixed)).extract (43 + (C.extract 43 (43 + 6)).size) (comC (.int .u64 x.id) (.int .i64 5) (.slice a2 n2 k2) (.int .i64 x.quota) (.bool x.fixed)).size) = CT := ⟨_, rfl⟩
  rw [hCT] at hd
  go_enter Try.func69, Try.ntmps69
  go_wp2_with (first
   | go_skip
   | (with_reducible refine wpList_box rfl _ _ rfl C rfl ?_; intro B W hB hb hk)
   | (with_reducible refine wpList_load1 (by kernel_rfl) _ _ rfl B _ rfl _ _ hb _ (by assumption) (by assumption) ?_)
   | (with_reducible refine wpList_load1 (by kernel_rfl) _ _ rfl B _ rfl _ _ e2 _ (by assumption) (by assumption) ?_)
   | (with_reducible refine wpList_load1 (by kernel_rfl) _ _ rfl B _ rfl _ _ e3 _ (by assumption) (by assumption) ?_)
   | ((with_reducible refine wpList_build rfl _ _ rfl (comC (.int .u64 x.id) (.int .i64 5) (.slice a2 n2 k2) (.int .i64 x.quota) (.bool x.fixed)) ?hf ?_); (case hf => exact built_com _ _ _ _ _ _ _))
   | (with_reducible refine wpList_alloc rfl _ rfl zC zero40 ?_; intro B' W' hB' hb' hk'; have hne : B ≠ B' := (by have := hB'.out.1; have := hb.lt; omega); have b1 := hk.trans (hk'.mono hk.size); have hl' : w.heap.size ≤ B' := (by have := hB'.out.1; have := hk.size; omega))
   | ((with_reducible refine wpList_store_blk rfl _ _ _ rfl B' rfl (comC (.int .u64 x.id) (.int .i64 5) (.slice a2 n2 k2) (.int .i64 x.quota) (.bool x.fixed)) rfl zC hb' (size40C hcz) (zC_size.trans hcz.symm) hcm.one ?_); intro W2 b2 o2; have e2 := (hb.next hk').other o2 hne; have kb2 := o2.below w.heap.size w hl' b1)
   | (with_reducible refine wpList_loadp (by kernel_rfl) 52 _ rfl B _ rfl 6 _ _ e2 _ rfl (by rw [hz]; omega) _ Try.underlying52 (by kernel_rfl) size38 ?_)
   | ((with_reducible refine wpList_store_part rfl _ _ _ rfl B' 43 rfl (C.extract 43 (43 + 6)) rfl _ _ b2 (by rw [h.gtd.size]; exact size38) (by rw [h.gtd.size, hcz]; omega) h.gtd.one ?_); intro W3 b3 o3; rw [hCT] at b3; have e3 := e2.other o3 hne; have kb3 := o3.below w.heap.size w hl' kb2)
   | ((with_reducible refine wpList_load_blk rfl _ _ rfl B' rfl _ b3 _ Try.underlying54 rfl (size40C hd.size) ?_))
   | ((with_reducible refine wpList_load_blk rfl _ _ rfl B rfl _ e3 _ Try.underlying54 rfl (size40C hz) ?_))
   | (go_at_call 19; (with_reducible refine (rsameOne_any (hd.next kb3) (h.next kb3)).on ?_ ?_) <;> intro w9 hq hb9))
  ·go_ret
   exact askP_yes ((show aloO x = x by rw [halo]; exact hq.out)) (kb3.trans (hb9.mono kb3.size))
  ·go_ret
   exact askP_no hq (kb3.trans (hb9.mono kb3.size)) (fun e => (by rw [halo] at e; exact e))
 by_cases h6 : x.kind = 6
 ·replace c1 : C[1]? = some (.int .i64 6) := c1.trans (by rw [h6])
  have halo : aloO x = { (⟨x.id, 6, x.label, x.quota, x.fixed, [], [], [], zTh, zGt, [], []⟩ : Ob) with inn := x.inn, out := x.out } := by rw [alo6 h6, ← h6]; rfl
  clear h1 h2 h3 h4 h5 h6
  have hcm := comC_d (i := x.id) (k := 6) (q := x.quota) (f := x.fixed) l2
  have hcz := hcm.size
  have hd := (hcm.set49 ⟨_, _, _, rfl, l49⟩ rfl).set50 ⟨_, _, _, rfl, l50⟩ rfl
  go_enter Try.func69, Try.ntmps69
  go_wp2_with (first
   | go_skip
   | (with_reducible refine wpList_box rfl _ _ rfl C rfl ?_; intro B W hB hb hk)
   | (with_reducible refine wpList_load1 (by kernel_rfl) _ _ rfl B _ rfl _ _ hb _ (by assumption) (by assumption) ?_)
   | (with_reducible refine wpList_load1 (by kernel_rfl) _ _ rfl B _ rfl _ _ e2 _ (by assumption) (by assumption) ?_)
   | (with_reducible refine wpList_load1 (by kernel_rfl) _ _ rfl B _ rfl _ _ e3 _ (by assumption) (by assumption) ?_)
   | ((with_reducible refine wpList_build rfl _ _ rfl (comC (.int .u64 x.id) (.int .i64 6) (.slice a2 n2 k2) (.int .i64 x.quota) (.bool x.fixed)) ?hf ?_); (case hf => exact built_com _ _ _ _ _ _ _))
   | (with_reducible refine wpList_alloc rfl _ rfl zC zero40 ?_; intro B' W' hB' hb' hk'; have hne : B ≠ B' := (by have := hB'.out.1; have := hb.lt; omega); have b1 := hk.trans (hk'.mono hk.size); have hl' : w.heap.size ≤ B' := (by have := hB'.out.1; have := hk.size; omega))
   | ((with_reducible refine wpList_store_blk rfl _ _ _ rfl B' rfl (comC (.int .u64 x.id) (.int .i64 6) (.slice a2 n2 k2) (.int .i64 x.quota) (.bool x.fixed)) rfl zC hb' (size40C hcz) (zC_size.trans hcz.symm) hcm.one ?_); intro W2 b2 o2; have e2 := (hb.next hk').other o2 hne; have kb2 := o2.below w.heap.size w hl' b1)
   | ((with_reducible refine wpList_store_cell rfl _ _ _ rfl B' 49 rfl (.slice a49 n49 k49) rfl rfl _ _ b2 size25 (by first | (rw [hcz]; omega) | (rw [Array.size_setIfInBounds, hcz]; omega)) rfl ?_); intro W3 b3 o3; have e3 := e2.other o3 hne; have kb3 := o3.below w.heap.size w hl' kb2)
   | ((with_reducible refine wpList_store_cell rfl _ _ _ rfl B' 50 rfl (.slice a50 n50 k50) rfl rfl _ _ b3 size25 (by first | (rw [hcz]; omega) | (rw [Array.size_setIfInBounds, hcz]; omega)) rfl ?_); intro W4 b4 o4; have e4 := e3.other o4 hne; have kb4 := o4.below w.heap.size w hl' kb3)
   | ((with_reducible refine wpList_load_blk rfl _ _ rfl B' rfl _ b4 _ Try.underlying54 rfl (size40C hd.size) ?_))
   | ((with_reducible refine wpList_load_blk rfl _ _ rfl B rfl _ e4 _ Try.underlying54 rfl (size40C hz) ?_))
   | (go_at_call 19; (with_reducible refine (rsameOne_any (hd.next kb4) (h.next kb4)).on ?_ ?_) <;> intro w9 hq hb9))
  ·go_ret
   exact askP_yes ((show aloO x = x by rw [halo]; exact hq.out)) (kb4.trans (hb9.mono kb4.size))
  ·go_ret
   exact askP_no hq (kb4.trans (hb9.mono kb4.size)) (fun e => (by rw [halo] at e; exact e))
 ·have halo : aloO x = comO x := alo7 (by omega)
  have g1 : (x.kind == 1) = false := by rw [beq_eq_false_iff_ne]; exact h1
  have g2 : (x.kind == 2) = false := by rw [beq_eq_false_iff_ne]; exact h2
  have g3 : (x.kind == 3) = false := by rw [beq_eq_false_iff_ne]; exact h3
  have g4 : (x.kind == 4) = false := by rw [beq_eq_false_iff_ne]; exact h4
  have g5 : (x.kind == 5) = false := by rw [beq_eq_false_iff_ne]; exact h5
  have g6 : (x.kind == 6) = false := by rw [beq_eq_false_iff_ne]; exact h6
  clear h1 h2 h3 h4 h5 h6
  have hcm := comC_d (i := x.id) (k := x.kind) (q := x.quota) (f := x.fixed) l2
  have hcz := hcm.size
  have hd := hcm
  go_enter Try.func69, Try.ntmps69
  go_wp2_with (first
   | go_skip
   | (with_reducible refine wpList_box rfl _ _ rfl C rfl ?_; intro B W hB hb hk)
   | (with_reducible refine wpList_load1 (by kernel_rfl) _ _ rfl B _ rfl _ _ hb _ (by assumption) (by assumption) ?_)
   | (with_reducible refine wpList_load1 (by kernel_rfl) _ _ rfl B _ rfl _ _ e2 _ (by assumption) (by assumption) ?_)
   | (with_reducible refine wpList_load1 (by kernel_rfl) _ _ rfl B _ rfl _ _ e3 _ (by assumption) (by assumption) ?_)
   | ((with_reducible refine wpList_build rfl _ _ rfl (comC (.int .u64 x.id) (.int .i64 x.kind) (.slice a2 n2 k2) (.int .i64 x.quota) (.bool x.fixed)) ?hf ?_); (case hf => exact built_com _ _ _ _ _ _ _))
   | (with_reducible refine wpList_alloc rfl _ rfl zC zero40 ?_; intro B' W' hB' hb' hk'; have hne : B ≠ B' := (by have := hB'.out.1; have := hb.lt; omega); have b1 := hk.trans (hk'.mono hk.size); have hl' : w.heap.size ≤ B' := (by have := hB'.out.1; have := hk.size; omega))
   | ((with_reducible refine wpList_store_blk rfl _ _ _ rfl B' rfl (comC (.int .u64 x.id) (.int .i64 x.kind) (.slice a2 n2 k2) (.int .i64 x.quota) (.bool x.fixed)) rfl zC hb' (size40C hcz) (zC_size.trans hcz.symm) hcm.one ?_); intro W2 b2 o2; have e2 := (hb.next hk').other o2 hne; have kb2 := o2.below w.heap.size w hl' b1)
   | ((with_reducible refine wpList_load_blk rfl _ _ rfl B' rfl _ b2 _ Try.underlying54 rfl (size40C hd.size) ?_))
   | ((with_reducible refine wpList_load_blk rfl _ _ rfl B rfl _ e2 _ Try.underlying54 rfl (size40C hz) ?_))
   | (go_at_call 19; (with_reducible refine (rsameOne_any (hd.next kb2) (h.next kb2)).on ?_ ?_) <;> intro w9 hq hb9))
  ·go_ret
   exact askP_yes ((show aloO x = x by rw [halo]; exact hq.out)) (kb2.trans (hb9.mono kb2.size))
  ·go_ret
   exact askP_no hq (kb2.trans (hb9.mono kb2.size)) (fun e => (by rw [halo] at e; exact e))
end Go.Proofs.Ytcmcakandbpjfaa
namespace Go.Proofs.Ytcmcakandbpjfaa
set_option maxRecDepth 100000
set_option maxHeartbeats 8000000
open Go.RowKit Go.Shelf
set_option linter.unusedVariables false
attribute [local go_sem] Oper.semAt_some
theorem rowned_ask {w0 w : World} {ao : Option Addr} {n cap : Nat} {L : Lb} (h : LabD (LtN w0) w0 ao n cap L) (hk : Below w0.heap.size w0 w) (hn : n < 274877906944) : Calls Try.prog 70 #[.slice ao n cap] w fun e w' => ∃ ao1 cap1, e = .returned (.slice ao1 (owned L).length cap1) ∧ Below w.heap.size w w' := by
 refine (rowned_any (h.lab' hk) hn).mono ?_
 rintro e w' ⟨ao1, n1, cap1, rfl, hc, hb⟩
 have e1 := hc.1
 subst e1
 exact ⟨ao1, cap1, rfl, hb⟩
theorem own_pos {x : Ob} (hk : ¬ x.kind = 4) (hl : 0 < ((owned x.label).length : Int)) (e : soundB x = true) : False := by
 rcases (com_iff.1 (sound_iff.1 e).1).2.2.2.2 with e1 | e1
 ·exact hk e1
 ·rw [e1] at hl; simp at hl
theorem own_none {L : Lb} (h : ((owned L).length : Int) ≤ 0) : owned L = [] := List.eq_nil_of_length_eq_zero (by omega)
theorem rsound_any {w : World} {C : Array Value} {x : Ob} (h : ObD (LtN w) w C x) : Asks 56 #[.agg C] (soundB x = true) w := by
 have hz := h.size
 have c0 := h.id
 have c1 := h.kind
 obtain ⟨a2, n2, k2, c2, l2⟩ := h.label
 have hn2 : Hid (x.label.length = n2) := l2.1
 have c3 := h.quota
 have c4 := h.fixed
 obtain ⟨a5, n5, k5, c5, l5⟩ := h.links
 have hn5 : Hid (x.links.length = n5) := l5.1
 obtain ⟨a6, n6, k6, c6, l6⟩ := h.data
 have hn6 : Hid (x.data.length = n6) := l6.1
 obtain ⟨a7, n7, k7, c7, l7⟩ := h.maps
 have hn7 : Hid (x.maps.length = n7) := l7.1
 obtain ⟨a49, n49, k49, c49, l49⟩ := h.inn
 have hn49 : Hid (x.inn.length = n49) := l49.1
 obtain ⟨a50, n50, k50, c50, l50⟩ := h.out
 have hn50 : Hid (x.out.length = n50) := l50.1
 obtain ⟨a25, n25, k25, c25, l25⟩ := h.th.clear
 obtain ⟨a43, n43, k43, c43, l43⟩ := h.gt.grant
 obtain ⟨a44, n44, k44, c44, l44⟩ := h.gt.clear
 replace c25 : C[25]? = some (.slice a25 n25 k25) := c25
 replace c43 : C[43]? = some (.slice a43 n43 k43) := c43
 replace c44 : C[44]? = some (.slice a44 n44 k44) := c44
 have ga0 := Try.isAgg39
 have ga1 := Try.isAgg22
 have ga2 := Try.isAgg3
 have ga3 := Try.isAgg4
 have ga4 := Try.isAgg28
 have ga5 := Try.isAgg40
 unfold Asks
 go_enter Try.func56, Try.ntmps56
 try simp only [List.append]
 go_upto_region 1 with (first
  | (with_reducible refine wpList_box rfl _ _ rfl C rfl ?_; intro B W hB hb hk))
 refine wpT_region ?_
 refine wpT_sym [none, some (.int .u64 x.id)] 0 (a' := { tmps := #[.agg C, pt B 0, .bool false, pt B 0, .int .u64 x.id, ud, ud, ud, ud, ud, ud, ud, ud, ud, ud, ud, ud, ud, ud, ud, ud, ud, ud, ud, ud, ud, ud, ud, ud, ud, ud, ud, ud, ud, ud, ud, ud, ud, ud, ud, ud, ud, ud, ud, ud, ud, ud, ud, ud, ud, ud, ud, ud, ud, ud, ud, ud, ud, ud, ud, ud, ud, ud, ud, ud, ud, ud, ud, ud, ud, ud, ud, ud, ud, ud, ud, ud, ud, ud, ud, ud, ud, ud, ud, ud, ud, ud, ud, ud, ud, ud, ud, ud, ud, ud, ud, ud, ud, ud, ud, ud, ud, ud, ud, ud, ud, ud, ud, ud, ud, ud, ud, ud, ud, ud, ud, ud, ud, ud], defers := [] }) (obs := [.load 22 (B) (0) (.int .u64 x.id)]) (by kernel_rfl) ⟨ob_load1 (fun _ e => by rw [e]; exact hb) c0 ga1, trivial⟩ ?_
 refine wpT_ask (i := 2) (f := 67) (vs := [.int .u64 x.id]) (d := some 5) (by kernel_rfl) Try.call67 (rid_any x.id _) ?_ ?_
 ·intro w0 q0 hb1; replace hb := hb.next hb1; replace hk := hk.trans (hb1.mono hk.size); clear hb1
  refine wpT_sym [none, none, none, some (.int .i64 x.kind)] 3 (a' := { tmps := #[.agg C, pt B 0, .bool false, pt B 0, .int .u64 x.id, .bool true, .bool false, .bool false, pt B 1, .int .i64 x.kind, ud, ud, ud, ud, ud, ud, ud, ud, ud, ud, ud, ud, ud, ud, ud, ud, ud, ud, ud, ud, ud, ud, ud, ud, ud, ud, ud, ud, ud, ud, ud, ud, ud, ud, ud, ud, ud, ud, ud, ud, ud, ud, ud, ud, ud, ud, ud, ud, ud, ud, ud, ud, ud, ud, ud, ud, ud, ud, ud, ud, ud, ud, ud, ud, ud, ud, ud, ud, ud, ud, ud, ud, ud, ud, ud, ud, ud, ud, ud, ud, ud, ud, ud, ud, ud, ud, ud, ud, ud, ud, ud, ud, ud, ud, ud, ud, ud, ud, ud, ud, ud, ud, ud, ud, ud, ud, ud, ud, ud], defers := [] }) (obs := [.load 3 (B) (1) (.int .i64 x.kind)]) (by kernel_rfl) ⟨ob_load1 (fun _ e => by rw [e]; exact hb) c1 ga2, trivial⟩ ?_
  by_cases q1 : x.kind < 1
  ·replace q1 : Hid (x.kind < 1) := q1
   refine wpT_sym [some (.bool true), none, none, none, none, none, none, none, none, none, none, none, none, none, none, none, none, none, none, none, none, none, none, none, none, none, none, none] 7 (a' := { tmps := #[.agg C, pt B 0, .bool false, pt B 0, .int .u64 x.id, .bool true, .bool false, .bool false, pt B 1, .int .i64 x.kind, .bool true, .bool true, .bool true, ud, ud, ud, .bool true, .bool true, ud, ud, ud, ud, .bool true, .bool true, ud, ud, ud, .bool true, .bool true, ud, ud, ud, .bool true, .bool true, ud, ud, ud, .bool true, ud, ud, ud, ud, ud, ud, ud, ud, ud, ud, ud, ud, ud, ud, ud, ud, ud, ud, ud, ud, ud, ud, ud, ud, ud, ud, ud, ud, ud, ud, ud, ud, ud, ud, ud, ud, ud, ud, ud, ud, ud, ud, ud, ud, ud, ud, ud, ud, ud, ud, ud, ud, ud, ud, ud, ud, ud, ud, ud, ud, ud, ud, ud, ud, ud, ud, ud, ud, ud, ud, ud, ud, ud, ud, ud, ud, ud, ud, ud, ud, ud], defers := [] }) (obs := [.test .lss 3 (.tmp 9) (.const (.int .i64 1)) (.int .i64 x.kind) (.int .i64 1) (.bool true)]) (by kernel_rfl) ⟨ob_yes (fun _ => tlt_int _ _ _ _ _ _) q1, trivial⟩ ?_
   refine wpT_end (by kernel_rfl) ?_
   go_wp2
   go_ret
   refine ⟨false, rfl, ⟨fun e => absurd e Bool.false_ne_true, fun e => ?_⟩, hk⟩; exfalso; exact (own7 (by have := q1.out; omega)).1 (sound_iff.1 e).2.1
  ·replace q1 : Hid (¬ (x.kind < 1)) := q1
   refine wpT_sym [some (.bool false), none, none, none, some (.int .i64 x.kind)] 7 (a' := { tmps := #[.agg C, pt B 0, .bool false, pt B 0, .int .u64 x.id, .bool true, .bool false, .bool false, pt B 1, .int .i64 x.kind, .bool false, .bool false, .bool false, pt B 1, .int .i64 x.kind, ud, ud, ud, ud, ud, ud, ud, ud, ud, ud, ud, ud, ud, ud, ud, ud, ud, ud, ud, ud, ud, ud, ud, ud, ud, ud, ud, ud, ud, ud, ud, ud, ud, ud, ud, ud, ud, ud, ud, ud, ud, ud, ud, ud, ud, ud, ud, ud, ud, ud, ud, ud, ud, ud, ud, ud, ud, ud, ud, ud, ud, ud, ud, ud, ud, ud, ud, ud, ud, ud, ud, ud, ud, ud, ud, ud, ud, ud, ud, ud, ud, ud, ud, ud, ud, ud, ud, ud, ud, ud, ud, ud, ud, ud, ud, ud, ud, ud, ud, ud, ud, ud, ud, ud], defers := [] }) (obs := [.test .lss 3 (.tmp 9) (.const (.int .i64 1)) (.int .i64 x.kind) (.int .i64 1) (.bool false), .load 3 (B) (1) (.int .i64 x.kind)]) (by kernel_rfl) ⟨ob_no (fun _ => tlt_int _ _ _ _ _ _) q1, ob_load1 (fun _ e => by rw [e]; exact hb) c1 ga2, trivial⟩ ?_
   by_cases q2 : 6 < x.kind
   ·replace q2 : Hid (6 < x.kind) := q2
    refine wpT_sym [some (.bool true), none, none, none, none, none, none, none, none, none, none, none, none, none, none, none, none, none, none, none, none, none, none] 12 (a' := { tmps := #[.agg C, pt B 0, .bool false, pt B 0, .int .u64 x.id, .bool true, .bool false, .bool false, pt B 1, .int .i64 x.kind, .bool false, .bool false, .bool false, pt B 1, .int .i64 x.kind, .bool true, .bool true, .bool true, ud, ud, ud, ud, .bool true, .bool true, ud, ud, ud, .bool true, .bool true, ud, ud, ud, .bool true, .bool true, ud, ud, ud, .bool true, ud, ud, ud, ud, ud, ud, ud, ud, ud, ud, ud, ud, ud, ud, ud, ud, ud, ud, ud, ud, ud, ud, ud, ud, ud, ud, ud, ud, ud, ud, ud, ud, ud, ud, ud, ud, ud, ud, ud, ud, ud, ud, ud, ud, ud, ud, ud, ud, ud, ud, ud, ud, ud, ud, ud, ud, ud, ud, ud, ud, ud, ud, ud, ud, ud, ud, ud, ud, ud, ud, ud, ud, ud, ud, ud, ud, ud, ud, ud, ud, ud], defers := [] }) (obs := [.test .gtr 3 (.tmp 14) (.const (.int .i64 6)) (.int .i64 x.kind) (.int .i64 6) (.bool true)]) (by kernel_rfl) ⟨ob_yes (fun _ => tgt_int _ _ _ _ _ _) q2, trivial⟩ ?_
    refine wpT_end (by kernel_rfl) ?_
    go_wp2
    go_ret
    refine ⟨false, rfl, ⟨fun e => absurd e Bool.false_ne_true, fun e => ?_⟩, hk⟩; exfalso; exact (own7 (by have := q2.out; omega)).1 (sound_iff.1 e).2.1
   ·replace q2 : Hid (¬ (6 < x.kind)) := q2
    refine wpT_sym [some (.bool false), none, none, none, some (.slice a2 n2 k2)] 12 (a' := { tmps := #[.agg C, pt B 0, .bool false, pt B 0, .int .u64 x.id, .bool true, .bool false, .bool false, pt B 1, .int .i64 x.kind, .bool false, .bool false, .bool false, pt B 1, .int .i64 x.kind, .bool false, .bool false, .bool false, pt B 2, .slice a2 n2 k2, ud, ud, ud, ud, ud, ud, ud, ud, ud, ud, ud, ud, ud, ud, ud, ud, ud, ud, ud, ud, ud, ud, ud, ud, ud, ud, ud, ud, ud, ud, ud, ud, ud, ud, ud, ud, ud, ud, ud, ud, ud, ud, ud, ud, ud, ud, ud, ud, ud, ud, ud, ud, ud, ud, ud, ud, ud, ud, ud, ud, ud, ud, ud, ud, ud, ud, ud, ud, ud, ud, ud, ud, ud, ud, ud, ud, ud, ud, ud, ud, ud, ud, ud, ud, ud, ud, ud, ud, ud, ud, ud, ud, ud, ud, ud, ud, ud, ud, ud], defers := [] }) (obs := [.test .gtr 3 (.tmp 14) (.const (.int .i64 6)) (.int .i64 x.kind) (.int .i64 6) (.bool false), .load 39 (B) (2) (.slice a2 n2 k2)]) (by kernel_rfl) ⟨ob_no (fun _ => tgt_int _ _ _ _ _ _) q2, ob_load1 (fun _ e => by rw [e]; exact hb) c2 ga0, trivial⟩ ?_
    refine wpT_ask (i := 17) (f := 68) (vs := [.slice a2 n2 k2]) (d := some 20) (by kernel_rfl) Try.call68 (rkept_any l2 hk) ?_ ?_
    ·intro w3 q3 hb1; replace hb := hb.next hb1; replace hk := hk.trans (hb1.mono hk.size); clear hb1
     refine wpT_sym [none, none, none, none, some (.int .i64 x.quota)] 18 (a' := { tmps := #[.agg C, pt B 0, .bool false, pt B 0, .int .u64 x.id, .bool true, .bool false, .bool false, pt B 1, .int .i64 x.kind, .bool false, .bool false, .bool false, pt B 1, .int .i64 x.kind, .bool false, .bool false, .bool false, pt B 2, .slice a2 n2 k2, .bool true, .bool false, .bool false, .bool false, pt B 3, .int .i64 x.quota, ud, ud, ud, ud, ud, ud, ud, ud, ud, ud, ud, ud, ud, ud, ud, ud, ud, ud, ud, ud, ud, ud, ud, ud, ud, ud, ud, ud, ud, ud, ud, ud, ud, ud, ud, ud, ud, ud, ud, ud, ud, ud, ud, ud, ud, ud, ud, ud, ud, ud, ud, ud, ud, ud, ud, ud, ud, ud, ud, ud, ud, ud, ud, ud, ud, ud, ud, ud, ud, ud, ud, ud, ud, ud, ud, ud, ud, ud, ud, ud, ud, ud, ud, ud, ud, ud, ud, ud, ud, ud, ud, ud, ud], defers := [] }) (obs := [.load 3 (B) (3) (.int .i64 x.quota)]) (by kernel_rfl) ⟨ob_load1 (fun _ e => by rw [e]; exact hb) c3 ga2, trivial⟩ ?_
     by_cases q4 : x.quota < 1
     ·replace q4 : Hid (x.quota < 1) := q4
      refine wpT_sym [some (.bool true), none, none, none, none, none, none, none, none, none, none, none] 23 (a' := { tmps := #[.agg C, pt B 0, .bool false, pt B 0, .int .u64 x.id, .bool true, .bool false, .bool false, pt B 1, .int .i64 x.kind, .bool false, .bool false, .bool false, pt B 1, .int .i64 x.kind, .bool false, .bool false, .bool false, pt B 2, .slice a2 n2 k2, .bool true, .bool false, .bool false, .bool false, pt B 3, .int .i64 x.quota, .bool true, .bool true, .bool true, ud, ud, ud, .bool true, .bool true, ud, ud, ud, .bool true, ud, ud, ud, ud, ud, ud, ud, ud, ud, ud, ud, ud, ud, ud, ud, ud, ud, ud, ud, ud, ud, ud, ud, ud, ud, ud, ud, ud, ud, ud, ud, ud, ud, ud, ud, ud, ud, ud, ud, ud, ud, ud, ud, ud, ud, ud, ud, ud, ud, ud, ud, ud, ud, ud, ud, ud, ud, ud, ud, ud, ud, ud, ud, ud, ud, ud, ud, ud, ud, ud, ud, ud, ud, ud, ud, ud, ud, ud, ud, ud, ud], defers := [] }) (obs := [.test .lss 3 (.tmp 25) (.const (.int .i64 1)) (.int .i64 x.quota) (.int .i64 1) (.bool true)]) (by kernel_rfl) ⟨ob_yes (fun _ => tlt_int _ _ _ _ _ _) q4, trivial⟩ ?_
      refine wpT_end (by kernel_rfl) ?_
      go_wp2
      go_ret
      refine ⟨false, rfl, ⟨fun e => absurd e Bool.false_ne_true, fun e => ?_⟩, hk⟩; exfalso; have := com_iff.1 (sound_iff.1 e).1; have := q4.out; omega
     ·replace q4 : Hid (¬ (x.quota < 1)) := q4
      refine wpT_sym [some (.bool false), none, none, none, some (.int .i64 x.quota)] 23 (a' := { tmps := #[.agg C, pt B 0, .bool false, pt B 0, .int .u64 x.id, .bool true, .bool false, .bool false, pt B 1, .int .i64 x.kind, .bool false, .bool false, .bool false, pt B 1, .int .i64 x.kind, .bool false, .bool false, .bool false, pt B 2, .slice a2 n2 k2, .bool true, .bool false, .bool false, .bool false, pt B 3, .int .i64 x.quota, .bool false, .bool false, .bool false, pt B 3, .int .i64 x.quota, ud, ud, ud, ud, ud, ud, ud, ud, ud, ud, ud, ud, ud, ud, ud, ud, ud, ud, ud, ud, ud, ud, ud, ud, ud, ud, ud, ud, ud, ud, ud, ud, ud, ud, ud, ud, ud, ud, ud, ud, ud, ud, ud, ud, ud, ud, ud, ud, ud, ud, ud, ud, ud, ud, ud, ud, ud, ud, ud, ud, ud, ud, ud, ud, ud, ud, ud, ud, ud, ud, ud, ud, ud, ud, ud, ud, ud, ud, ud, ud, ud, ud, ud, ud, ud, ud, ud, ud], defers := [] }) (obs := [.test .lss 3 (.tmp 25) (.const (.int .i64 1)) (.int .i64 x.quota) (.int .i64 1) (.bool false), .load 3 (B) (3) (.int .i64 x.quota)]) (by kernel_rfl) ⟨ob_no (fun _ => tlt_int _ _ _ _ _ _) q4, ob_load1 (fun _ e => by rw [e]; exact hb) c3 ga2, trivial⟩ ?_
      by_cases q5 : 4096 < x.quota
      ·replace q5 : Hid (4096 < x.quota) := q5
       refine wpT_sym [some (.bool true), none, none, none, none, none, none] 28 (a' := { tmps := #[.agg C, pt B 0, .bool false, pt B 0, .int .u64 x.id, .bool true, .bool false, .bool false, pt B 1, .int .i64 x.kind, .bool false, .bool false, .bool false, pt B 1, .int .i64 x.kind, .bool false, .bool false, .bool false, pt B 2, .slice a2 n2 k2, .bool true, .bool false, .bool false, .bool false, pt B 3, .int .i64 x.quota, .bool false, .bool false, .bool false, pt B 3, .int .i64 x.quota, .bool true, .bool true, .bool true, ud, ud, ud, .bool true, ud, ud, ud, ud, ud, ud, ud, ud, ud, ud, ud, ud, ud, ud, ud, ud, ud, ud, ud, ud, ud, ud, ud, ud, ud, ud, ud, ud, ud, ud, ud, ud, ud, ud, ud, ud, ud, ud, ud, ud, ud, ud, ud, ud, ud, ud, ud, ud, ud, ud, ud, ud, ud, ud, ud, ud, ud, ud, ud, ud, ud, ud, ud, ud, ud, ud, ud, ud, ud, ud, ud, ud, ud, ud, ud, ud, ud, ud, ud, ud, ud], defers := [] }) (obs := [.test .gtr 3 (.tmp 30) (.const (.int .i64 4096)) (.int .i64 x.quota) (.int .i64 4096) (.bool true)]) (by kernel_rfl) ⟨ob_yes (fun _ => tgt_int _ _ _ _ _ _) q5, trivial⟩ ?_
       refine wpT_end (by kernel_rfl) ?_
       go_wp2
       go_ret
       refine ⟨false, rfl, ⟨fun e => absurd e Bool.false_ne_true, fun e => ?_⟩, hk⟩; exfalso; have := com_iff.1 (sound_iff.1 e).1; have := q5.out; omega
      ·replace q5 : Hid (¬ (4096 < x.quota)) := q5
       refine wpT_sym [some (.bool false), none, none, some (.agg C)] 28 (a' := { tmps := #[.agg C, pt B 0, .bool false, pt B 0, .int .u64 x.id, .bool true, .bool false, .bool false, pt B 1, .int .i64 x.kind, .bool false, .bool false, .bool false, pt B 1, .int .i64 x.kind, .bool false, .bool false, .bool false, pt B 2, .slice a2 n2 k2, .bool true, .bool false, .bool false, .bool false, pt B 3, .int .i64 x.quota, .bool false, .bool false, .bool false, pt B 3, .int .i64 x.quota, .bool false, .bool false, .bool false, .agg C, ud, ud, ud, ud, ud, ud, ud, ud, ud, ud, ud, ud, ud, ud, ud, ud, ud, ud, ud, ud, ud, ud, ud, ud, ud, ud, ud, ud, ud, ud, ud, ud, ud, ud, ud, ud, ud, ud, ud, ud, ud, ud, ud, ud, ud, ud, ud, ud, ud, ud, ud, ud, ud, ud, ud, ud, ud, ud, ud, ud, ud, ud, ud, ud, ud, ud, ud, ud, ud, ud, ud, ud, ud, ud, ud, ud, ud, ud, ud, ud, ud, ud, ud, ud], defers := [] }) (obs := [.test .gtr 3 (.tmp 30) (.const (.int .i64 4096)) (.int .i64 x.quota) (.int .i64 4096) (.bool false), .load 54 (B) (0) (.agg C)]) (by kernel_rfl) ⟨ob_no (fun _ => tgt_int _ _ _ _ _ _) q5, ob_loadb (fun _ e => by rw [e]; exact hb) Try.underlying54 (by kernel_rfl) (size40C hz), trivial⟩ ?_
       refine wpT_ask (i := 32) (f := 69) (vs := [.agg C]) (d := some 35) (by kernel_rfl) Try.call69 (ralone_any (h.next hk)) ?_ ?_
       ·intro w6 q6 hb1; replace hb := hb.next hb1; replace hk := hk.trans (hb1.mono hk.size); clear hb1
        refine wpT_sym [none, none] 33 (a' := { tmps := #[.agg C, pt B 0, .bool false, pt B 0, .int .u64 x.id, .bool true, .bool false, .bool false, pt B 1, .int .i64 x.kind, .bool false, .bool false, .bool false, pt B 1, .int .i64 x.kind, .bool false, .bool false, .bool false, pt B 2, .slice a2 n2 k2, .bool true, .bool false, .bool false, .bool false, pt B 3, .int .i64 x.quota, .bool false, .bool false, .bool false, pt B 3, .int .i64 x.quota, .bool false, .bool false, .bool false, .agg C, .bool true, .bool false, .bool false, ud, ud, ud, ud, ud, ud, ud, ud, ud, ud, ud, ud, ud, ud, ud, ud, ud, ud, ud, ud, ud, ud, ud, ud, ud, ud, ud, ud, ud, ud, ud, ud, ud, ud, ud, ud, ud, ud, ud, ud, ud, ud, ud, ud, ud, ud, ud, ud, ud, ud, ud, ud, ud, ud, ud, ud, ud, ud, ud, ud, ud, ud, ud, ud, ud, ud, ud, ud, ud, ud, ud, ud, ud, ud, ud, ud, ud, ud, ud, ud, ud], defers := [] }) (obs := []) (by kernel_rfl) trivial ?_
        refine wpT_end (by kernel_rfl) ?_
        have hqa : 1 ≤ x.quota := by have := q4.out; omega
        have hqb : x.quota ≤ 4096 := by have := q5.out; omega
        have hka : 1 ≤ x.kind := by have := q1.out; omega
        have hkb : x.kind ≤ 6 := by have := q2.out; omega
        have hkl : n2 < 274877906944 := by have := (kept_iff.1 q3.out).1; rw [hn2.out] at this; omega
        have hw1 : IntKind.i64.wrap (x.quota - 1) = x.quota - 1 := by rw [IntKind.wrap_i64]; omega
        have hw2 : IntKind.i64.wrap (16 * (x.quota - 1)) = 16 * (x.quota - 1) := by rw [IntKind.wrap_i64]; omega
        by_cases hk1 : x.kind = 1
        ·have hkd0 := hk1
         replace c1 : C[1]? = some (.int .i64 1) := c1.trans (by rw [hkd0])
         have hkd : x.kind = 1 := hkd0
         have hkH : Hid (x.kind = 1) := hkd
         clear hkd hkd0 hka hkb hk1
         go_wp2_with (first
          | go_skip
          | (with_reducible refine wpList_load1 (by kernel_rfl) _ _ rfl B _ rfl _ _ hb _ (by assumption) (by assumption) ?_)
          | ((with_reducible refine wpList_test (by kernel_rfl) .leq _ _ _ _ rfl _ _ rfl rfl (tle_int _ _ _ _ _ _) ?_ ?_) <;> intro hq)
          | (go_at_call 70; (with_reducible refine (rowned_ask l2 hk hkl).mono ?_); rintro e w1 ⟨ao1, cap1, rfl, hb1⟩; replace hb := hb.next hb1; replace hk := hk.trans (hb1.mono hk.size); clear hb1)
          | ((with_reducible refine wpList_test (by kernel_rfl) .gtr _ _ _ _ rfl _ _ rfl rfl (tgt_int _ _ _ _ _ _) ?_ ?_) <;> intro hq))
         all_goals go_ret
         all_goals first
          | (refine askP_yes (sound_iff.2 ⟨com_iff.2 ⟨q0.out, hqa, hqb, q3.out, .inr (own_none (Hid.out (by assumption)))⟩, (own1 hkH.out).2 ?_, (alone_iff x).2 q6.out⟩) hk; rw [hn6.out]; exact Hid.out (by assumption))
          | (have hl : 16 * (x.quota - 1) < (n6 : Int) := Hid.out (by assumption); refine ⟨false, rfl, ⟨fun e => absurd e Bool.false_ne_true, fun e => ?_⟩, hk⟩; exfalso; replace e := ((own1 hkH.out).1 (sound_iff.1 e).2.1); rw [hn6.out] at e; omega)
          | (have hl : 0 < ((owned x.label).length : Int) := Hid.out (by assumption); refine ⟨false, rfl, ⟨fun e => absurd e Bool.false_ne_true, fun e => ?_⟩, hk⟩; exact (own_pos (by have := hkH.out; omega) hl e).elim)
          | fail
        by_cases hk2 : x.kind = 2
        ·have hkd0 := hk2
         replace c1 : C[1]? = some (.int .i64 2) := c1.trans (by rw [hkd0])
         have hkd : x.kind = 2 := hkd0
         have hkH : Hid (x.kind = 2) := hkd
         clear hkd hkd0 hka hkb hk1 hk2
         go_wp2_with (first
          | go_skip
          | (with_reducible refine wpList_load1 (by kernel_rfl) _ _ rfl B _ rfl _ _ hb _ (by assumption) (by assumption) ?_)
          | ((with_reducible refine wpList_test (by kernel_rfl) .leq _ _ _ _ rfl _ _ rfl rfl (tle_int _ _ _ _ _ _) ?_ ?_) <;> intro hq)
          | (go_at_call 71; (with_reducible refine (rrising_any l5 hk).on ?_ ?_) <;> (intro w1 hq hb1; replace hb := hb.next hb1; replace hk := hk.trans (hb1.mono hk.size); clear hb1))
          | (go_at_call 70; (with_reducible refine (rowned_ask l2 hk hkl).mono ?_); rintro e w1 ⟨ao1, cap1, rfl, hb1⟩; replace hb := hb.next hb1; replace hk := hk.trans (hb1.mono hk.size); clear hb1)
          | ((with_reducible refine wpList_test (by kernel_rfl) .gtr _ _ _ _ rfl _ _ rfl rfl (tgt_int _ _ _ _ _ _) ?_ ?_) <;> intro hq))
         all_goals go_ret
         all_goals first
          | (refine askP_yes (sound_iff.2 ⟨com_iff.2 ⟨q0.out, hqa, hqb, q3.out, .inr (own_none (Hid.out (by assumption)))⟩, (own2 hkH.out).2 ⟨?_, (Hid.out (by assumption) : allI x.links = true ∧ risB x.links = true).1, (Hid.out (by assumption) : allI x.links = true ∧ risB x.links = true).2⟩, (alone_iff x).2 q6.out⟩) hk; (have hl : (n5 : Int) ≤ 64 := Hid.out (by assumption)); rw [hn5.out]; omega)
          | (refine askP_no (Y := allI x.links = true ∧ risB x.links = true) (by assumption) hk (fun e => ((own2 hkH.out).1 (sound_iff.1 e).2.1).2))
          | (have hl : 64 < (n5 : Int) := Hid.out (by assumption); refine ⟨false, rfl, ⟨fun e => absurd e Bool.false_ne_true, fun e => ?_⟩, hk⟩; exfalso; replace e := ((own2 hkH.out).1 (sound_iff.1 e).2.1); have := e.1; rw [hn5.out] at this; omega)
          | (have hl : 0 < ((owned x.label).length : Int) := Hid.out (by assumption); refine ⟨false, rfl, ⟨fun e => absurd e Bool.false_ne_true, fun e => ?_⟩, hk⟩; exact (own_pos (by have := hkH.out; omega) hl e).elim)
          | fail
        by_cases hk3 : x.kind = 3
        ·have hkd0 := hk3
         replace c1 : C[1]? = some (.int .i64 3) := c1.trans (by rw [hkd0])
         have hkd : x.kind = 3 := hkd0
         have hkH : Hid (x.kind = 3) := hkd
         clear hkd hkd0 hka hkb hk1 hk2 hk3
         go_wp2_with (first
          | go_skip
          | (with_reducible refine wpList_load1 (by kernel_rfl) _ _ rfl B _ rfl _ _ hb _ (by assumption) (by assumption) ?_)
          | (go_at_call 72; (with_reducible refine (Asks.of (PgM.rfit_any (MpD.mp' l7 hk))).on ?_ ?_) <;> (intro w1 hq hb1; replace hb := hb.next hb1; replace hk := hk.trans (hb1.mono hk.size); clear hb1))
          | (go_at_call 70; (with_reducible refine (rowned_ask l2 hk hkl).mono ?_); rintro e w1 ⟨ao1, cap1, rfl, hb1⟩; replace hb := hb.next hb1; replace hk := hk.trans (hb1.mono hk.size); clear hb1)
          | ((with_reducible refine wpList_test (by kernel_rfl) .gtr _ _ _ _ rfl _ _ rfl rfl (tgt_int _ _ _ _ _ _) ?_ ?_) <;> intro hq))
         all_goals go_ret
         all_goals first
          | (refine askP_yes (sound_iff.2 ⟨com_iff.2 ⟨q0.out, hqa, hqb, q3.out, .inr (own_none (Hid.out (by assumption)))⟩, (own3 hkH.out).2 (Hid.out (by assumption)), (alone_iff x).2 q6.out⟩) hk)
          | (refine askP_no (Y := PgM.Pg.fitB x.maps = true) (by assumption) hk (fun e => (own3 hkH.out).1 (sound_iff.1 e).2.1))
          | (have hl : 0 < ((owned x.label).length : Int) := Hid.out (by assumption); refine ⟨false, rfl, ⟨fun e => absurd e Bool.false_ne_true, fun e => ?_⟩, hk⟩; exact (own_pos (by have := hkH.out; omega) hl e).elim)
          | fail
        by_cases hk4 : x.kind = 4
        ·have hkd0 := hk4
         replace c1 : C[1]? = some (.int .i64 4) := c1.trans (by rw [hkd0])
         have hkd : x.kind = 4 := hkd0
         have hkH : Hid (x.kind = 4) := hkd
         clear hkd hkd0 hka hkb hk1 hk2 hk3 hk4
         cases hfx : x.fixed with
         | false =>
          rw [hfx] at c4
          go_wp2_with (first
           | go_skip
           | (with_reducible refine wpList_load1 (by kernel_rfl) _ _ rfl B _ rfl _ _ hb _ (by assumption) (by assumption) ?_)
           | (with_reducible refine wpList_loadp (by kernel_rfl) 50 _ rfl B _ rfl 35 _ _ hb _ rfl (by rw [hz]; omega) _ Try.underlying50 (by kernel_rfl) size36 ?_)
           | (go_at_call 73; (with_reducible refine (rthread_any (lab_eq l2 hk) (h.thd.next hk)).on ?_ ?_) <;> (intro w1 hq hb1; replace hb := hb.next hb1; replace hk := hk.trans (hb1.mono hk.size); clear hb1)))
          all_goals go_ret
          all_goals first
           | (refine askP_yes (sound_iff.2 ⟨com_iff.2 ⟨q0.out, hqa, hqb, q3.out, .inl hkH.out⟩, (own4 hkH.out).2 ⟨hfx, boun_iff.2 ⟨q3.out, (Hid.out (by assumption) : (keptB x.th.clear = true ∧ rleqB x.label x.th.clear = true ∧ thrB x.th = true)).1, by rw [← rleq_eq (fit_iff (kept_iff.1 q3.out).2.1) (fit_iff (kept_iff.1 (Hid.out (by assumption) : (keptB x.th.clear = true ∧ rleqB x.label x.th.clear = true ∧ thrB x.th = true)).1).2.1)]; exact (Hid.out (by assumption) : (keptB x.th.clear = true ∧ rleqB x.label x.th.clear = true ∧ thrB x.th = true)).2.1⟩, (Hid.out (by assumption) : (keptB x.th.clear = true ∧ rleqB x.label x.th.clear = true ∧ thrB x.th = true)).2.2⟩, (alone_iff x).2 q6.out⟩) hk)
           | (refine askP_no (Y := (keptB x.th.clear = true ∧ rleqB x.label x.th.clear = true ∧ thrB x.th = true)) (by assumption) hk (fun e => ?_); have e4 := (own4 hkH.out).1 (sound_iff.1 e).2.1; have e5 := boun_iff.1 e4.2.1; exact ⟨e5.2.1, (by rw [rleq_eq (fit_iff (kept_iff.1 e5.1).2.1) (fit_iff (kept_iff.1 e5.2.1).2.1)]; exact e5.2.2), e4.2.2⟩)
           | (refine ⟨false, rfl, ⟨fun e => absurd e Bool.false_ne_true, fun e => ?_⟩, hk⟩; exfalso; replace e := ((own4 hkH.out).1 (sound_iff.1 e).2.1); rw [hfx] at e; cases e.1)
           | fail
         | true =>
          rw [hfx] at c4
          go_wp2_with (first
           | go_skip
           | (with_reducible refine wpList_load1 (by kernel_rfl) _ _ rfl B _ rfl _ _ hb _ (by assumption) (by assumption) ?_)
           | (with_reducible refine wpList_loadp (by kernel_rfl) 50 _ rfl B _ rfl 35 _ _ hb _ rfl (by rw [hz]; omega) _ Try.underlying50 (by kernel_rfl) size36 ?_)
           | (go_at_call 73; (with_reducible refine (rthread_any (lab_eq l2 hk) (h.thd.next hk)).on ?_ ?_) <;> (intro w1 hq hb1; replace hb := hb.next hb1; replace hk := hk.trans (hb1.mono hk.size); clear hb1)))
          all_goals go_ret
          all_goals first
           | (refine askP_yes (sound_iff.2 ⟨com_iff.2 ⟨q0.out, hqa, hqb, q3.out, .inl hkH.out⟩, (own4 hkH.out).2 ⟨hfx, boun_iff.2 ⟨q3.out, (Hid.out (by assumption) : (keptB x.th.clear = true ∧ rleqB x.label x.th.clear = true ∧ thrB x.th = true)).1, by rw [← rleq_eq (fit_iff (kept_iff.1 q3.out).2.1) (fit_iff (kept_iff.1 (Hid.out (by assumption) : (keptB x.th.clear = true ∧ rleqB x.label x.th.clear = true ∧ thrB x.th = true)).1).2.1)]; exact (Hid.out (by assumption) : (keptB x.th.clear = true ∧ rleqB x.label x.th.clear = true ∧ thrB x.th = true)).2.1⟩, (Hid.out (by assumption) : (keptB x.th.clear = true ∧ rleqB x.label x.th.clear = true ∧ thrB x.th = true)).2.2⟩, (alone_iff x).2 q6.out⟩) hk)
           | (refine askP_no (Y := (keptB x.th.clear = true ∧ rleqB x.label x.th.clear = true ∧ thrB x.th = true)) (by assumption) hk (fun e => ?_); have e4 := (own4 hkH.out).1 (sound_iff.1 e).2.1; have e5 := boun_iff.1 e4.2.1; exact ⟨e5.2.1, (by rw [rleq_eq (fit_iff (kept_iff.1 e5.1).2.1) (fit_iff (kept_iff.1 e5.2.1).2.1)]; exact e5.2.2), e4.2.2⟩)
           | (refine ⟨false, rfl, ⟨fun e => absurd e Bool.false_ne_true, fun e => ?_⟩, hk⟩; exfalso; replace e := ((own4 hkH.out).1 (sound_iff.1 e).2.1); rw [hfx] at e; cases e.1)
           | fail
        by_cases hk5 : x.kind = 5
        ·have hkd0 := hk5
         replace c1 : C[1]? = some (.int .i64 5) := c1.trans (by rw [hkd0])
         have hkd : x.kind = 5 := hkd0
         have hkH : Hid (x.kind = 5) := hkd
         clear hkd hkd0 hka hkb hk1 hk2 hk3 hk4 hk5
         go_wp2_with (first
          | go_skip
          | (with_reducible refine wpList_load1 (by kernel_rfl) _ _ rfl B _ rfl _ _ hb _ (by assumption) (by assumption) ?_)
          | (go_at_call 68; (with_reducible refine (rkept_any l43 hk).on ?_ ?_) <;> (intro w1 hq hb1; replace hb := hb.next hb1; replace hk := hk.trans (hb1.mono hk.size); clear hb1))
          | (go_at_call 68; (with_reducible refine (rkept_any l44 hk).on ?_ ?_) <;> (intro w1 hq hb1; replace hb := hb.next hb1; replace hk := hk.trans (hb1.mono hk.size); clear hb1))
          | (go_at_call 74; (with_reducible refine (Asks.of (rlleq_any (l43.lab' hk) (l44.lab' hk))).on ?_ ?_) <;> (intro w1 hq hb1; replace hb := hb.next hb1; replace hk := hk.trans (hb1.mono hk.size); clear hb1))
          | (go_at_call 70; (with_reducible refine (rowned_ask l2 hk hkl).mono ?_); rintro e w1 ⟨ao1, cap1, rfl, hb1⟩; replace hb := hb.next hb1; replace hk := hk.trans (hb1.mono hk.size); clear hb1)
          | ((with_reducible refine wpList_test (by kernel_rfl) .gtr _ _ _ _ rfl _ _ rfl rfl (tgt_int _ _ _ _ _ _) ?_ ?_) <;> intro hq))
         all_goals go_ret
         all_goals first
          | (refine askP_yes (sound_iff.2 ⟨com_iff.2 ⟨q0.out, hqa, hqb, q3.out, .inr (own_none (Hid.out (by assumption)))⟩, (own5 hkH.out).2 (boun_iff.2 ⟨Hid.out (by assumption), Hid.out (by assumption), by rw [← rleq_eq (fit_iff (kept_iff.1 (Hid.out (by assumption) : keptB x.gt.grant = true)).2.1) (fit_iff (kept_iff.1 (Hid.out (by assumption) : keptB x.gt.clear = true)).2.1)]; exact Hid.out (by assumption)⟩), (alone_iff x).2 q6.out⟩) hk)
          | (refine askP_no (Y := rleqB x.gt.grant x.gt.clear = true) (by assumption) hk (fun e => ?_); have e5 := boun_iff.1 ((own5 hkH.out).1 (sound_iff.1 e).2.1); rw [rleq_eq (fit_iff (kept_iff.1 e5.1).2.1) (fit_iff (kept_iff.1 e5.2.1).2.1)]; exact e5.2.2)
          | (refine askP_no (Y := keptB x.gt.clear = true) (by assumption) hk (fun e => (boun_iff.1 ((own5 hkH.out).1 (sound_iff.1 e).2.1)).2.1))
          | (refine askP_no (Y := keptB x.gt.grant = true) (by assumption) hk (fun e => (boun_iff.1 ((own5 hkH.out).1 (sound_iff.1 e).2.1)).1))
          | (have hl : 0 < ((owned x.label).length : Int) := Hid.out (by assumption); refine ⟨false, rfl, ⟨fun e => absurd e Bool.false_ne_true, fun e => ?_⟩, hk⟩; exact (own_pos (by have := hkH.out; omega) hl e).elim)
          | fail
        ·have hkd0 : x.kind = 6 := by omega
         replace c1 : C[1]? = some (.int .i64 6) := c1.trans (by rw [hkd0])
         have hkd : x.kind = 6 := hkd0
         have hkH : Hid (x.kind = 6) := hkd
         clear hkd hkd0 hka hkb hk1 hk2 hk3 hk4 hk5
         go_wp2_with (first
          | go_skip
          | (with_reducible refine wpList_load1 (by kernel_rfl) _ _ rfl B _ rfl _ _ hb _ (by assumption) (by assumption) ?_)
          | ((with_reducible refine wpList_test (by kernel_rfl) .leq _ _ _ _ rfl _ _ rfl rfl (tle_int _ _ _ _ _ _) ?_ ?_) <;> intro hq)
          | (go_at_call 70; (with_reducible refine (rowned_ask l2 hk hkl).mono ?_); rintro e w1 ⟨ao1, cap1, rfl, hb1⟩; replace hb := hb.next hb1; replace hk := hk.trans (hb1.mono hk.size); clear hb1)
          | ((with_reducible refine wpList_test (by kernel_rfl) .gtr _ _ _ _ rfl _ _ rfl rfl (tgt_int _ _ _ _ _ _) ?_ ?_) <;> intro hq))
         all_goals go_ret
         all_goals first
          | (have h1 : (n49 : Int) ≤ 64 := Hid.out (by assumption); have h2 : (n50 : Int) ≤ 1024 := Hid.out (by assumption); exact askP_yes (sound_iff.2 ⟨com_iff.2 ⟨q0.out, hqa, hqb, q3.out, .inr (own_none (Hid.out (by assumption)))⟩, (own6 hkH.out).2 ⟨by rw [hn49.out]; omega, by rw [hn50.out]; omega⟩, (alone_iff x).2 q6.out⟩) hk)
          | (have hl : 1024 < (n50 : Int) := Hid.out (by assumption); refine ⟨false, rfl, ⟨fun e => absurd e Bool.false_ne_true, fun e => ?_⟩, hk⟩; exfalso; replace e := ((own6 hkH.out).1 (sound_iff.1 e).2.1); have := e.2; rw [hn50.out] at this; omega)
          | (have hl : 64 < (n49 : Int) := Hid.out (by assumption); refine ⟨false, rfl, ⟨fun e => absurd e Bool.false_ne_true, fun e => ?_⟩, hk⟩; exfalso; replace e := ((own6 hkH.out).1 (sound_iff.1 e).2.1); have := e.1; rw [hn49.out] at this; omega)
          | (have hl : 0 < ((owned x.label).length : Int) := Hid.out (by assumption); refine ⟨false, rfl, ⟨fun e => absurd e Bool.false_ne_true, fun e => ?_⟩, hk⟩; exact (own_pos (by have := hkH.out; omega) hl e).elim)
          | fail
       ·intro w6 q6 hb1; replace hb := hb.next hb1; replace hk := hk.trans (hb1.mono hk.size); clear hb1
        refine wpT_sym [none, none] 33 (a' := { tmps := #[.agg C, pt B 0, .bool false, pt B 0, .int .u64 x.id, .bool true, .bool false, .bool false, pt B 1, .int .i64 x.kind, .bool false, .bool false, .bool false, pt B 1, .int .i64 x.kind, .bool false, .bool false, .bool false, pt B 2, .slice a2 n2 k2, .bool true, .bool false, .bool false, .bool false, pt B 3, .int .i64 x.quota, .bool false, .bool false, .bool false, pt B 3, .int .i64 x.quota, .bool false, .bool false, .bool false, .agg C, .bool false, .bool true, .bool true, ud, ud, ud, ud, ud, ud, ud, ud, ud, ud, ud, ud, ud, ud, ud, ud, ud, ud, ud, ud, ud, ud, ud, ud, ud, ud, ud, ud, ud, ud, ud, ud, ud, ud, ud, ud, ud, ud, ud, ud, ud, ud, ud, ud, ud, ud, ud, ud, ud, ud, ud, ud, ud, ud, ud, ud, ud, ud, ud, ud, ud, ud, ud, ud, ud, ud, ud, ud, ud, ud, ud, ud, ud, ud, ud, ud, ud, ud, ud, ud, ud], defers := [] }) (obs := []) (by kernel_rfl) trivial ?_
        refine wpT_end (by kernel_rfl) ?_
        go_wp2
        go_ret
        exact askP_no q6 hk (fun e => (alone_iff x).1 (sound_iff.1 e).2.2)
    ·intro w3 q3 hb1; replace hb := hb.next hb1; replace hk := hk.trans (hb1.mono hk.size); clear hb1
     refine wpT_sym [none, none, none, none, none, none, none, none, none, none, none, none, none, none, none, none, none] 18 (a' := { tmps := #[.agg C, pt B 0, .bool false, pt B 0, .int .u64 x.id, .bool true, .bool false, .bool false, pt B 1, .int .i64 x.kind, .bool false, .bool false, .bool false, pt B 1, .int .i64 x.kind, .bool false, .bool false, .bool false, pt B 2, .slice a2 n2 k2, .bool false, .bool true, .bool true, .bool true, ud, ud, ud, .bool true, .bool true, ud, ud, ud, .bool true, .bool true, ud, ud, ud, .bool true, ud, ud, ud, ud, ud, ud, ud, ud, ud, ud, ud, ud, ud, ud, ud, ud, ud, ud, ud, ud, ud, ud, ud, ud, ud, ud, ud, ud, ud, ud, ud, ud, ud, ud, ud, ud, ud, ud, ud, ud, ud, ud, ud, ud, ud, ud, ud, ud, ud, ud, ud, ud, ud, ud, ud, ud, ud, ud, ud, ud, ud, ud, ud, ud, ud, ud, ud, ud, ud, ud, ud, ud, ud, ud, ud, ud, ud, ud, ud, ud, ud], defers := [] }) (obs := []) (by kernel_rfl) trivial ?_
     refine wpT_end (by kernel_rfl) ?_
     go_wp2
     go_ret
     exact askP_no q3 hk (fun e => (com_iff.1 (sound_iff.1 e).1).2.2.2.1)
 ·intro w0 q0 hb1; replace hb := hb.next hb1; replace hk := hk.trans (hb1.mono hk.size); clear hb1
  refine wpT_sym [none, none, none, none, none, none, none, none, none, none, none, none, none, none, none, none, none, none, none, none, none, none, none, none, none, none, none, none, none, none, none, none] 3 (a' := { tmps := #[.agg C, pt B 0, .bool false, pt B 0, .int .u64 x.id, .bool false, .bool true, .bool true, ud, ud, ud, .bool true, .bool true, ud, ud, ud, .bool true, .bool true, ud, ud, ud, ud, .bool true, .bool true, ud, ud, ud, .bool true, .bool true, ud, ud, ud, .bool true, .bool true, ud, ud, ud, .bool true, ud, ud, ud, ud, ud, ud, ud, ud, ud, ud, ud, ud, ud, ud, ud, ud, ud, ud, ud, ud, ud, ud, ud, ud, ud, ud, ud, ud, ud, ud, ud, ud, ud, ud, ud, ud, ud, ud, ud, ud, ud, ud, ud, ud, ud, ud, ud, ud, ud, ud, ud, ud, ud, ud, ud, ud, ud, ud, ud, ud, ud, ud, ud, ud, ud, ud, ud, ud, ud, ud, ud, ud, ud, ud, ud, ud, ud, ud, ud, ud, ud], defers := [] }) (obs := []) (by kernel_rfl) trivial ?_
  refine wpT_end (by kernel_rfl) ?_
  go_wp2
  go_ret
  exact askP_no q0 hk (fun e => (com_iff.1 (sound_iff.1 e).1).1)
end Go.Proofs.Ytcmcakandbpjfaa
