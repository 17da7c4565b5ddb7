/-
 PROVED HERE: what package obj's isId, notAbove, every of pairs, kept and bounded, serial's Fit, and the document's id, Kept. What is asked stands at each.
-/
import Derived.BigQuiet
import Derived.Deep.DeepCutAuto
import Derived.Test.YtlaagheeemkklaaZ13
namespace Go.Proofs.Ytlaagheeemkklaa
set_option maxRecDepth 100000
set_option maxHeartbeats 8000000
open Go.RowKit Go.Shelf
set_option linter.unusedVariables false
attribute [local go_sem] Oper.semAt_some

theorem askP_b {X : Prop} {W w' : World} {b : Bool} (h : b = true ↔ X) (hk : Below W.heap.size W w') : AskP X W (.returned (.bool b)) w' := ⟨b, rfl, h, hk⟩
theorem Asks.of {f : FuncId} {args : Array Value} {W : World} {b : Bool} (h : Calls Try.prog f args W fun e w' => e = .returned (.bool b) ∧ Below W.heap.size W w') : Asks f args (b = true) W := by
 refine h.mono ?_
 rintro e w' ⟨rfl, hk⟩
 exact askP_b Iff.rfl hk
theorem isId_any (n : Int) (w : World) : Asks 56 #[.int .u64 n] (idB n = true) w := by
 unfold Asks
 go_enter Try.func56, Try.ntmps56
 go_wp2
 all_goals go_ret
 all_goals (refine askP_b ?_ (Below.refl _ _); unfold idB; simp; omega)
theorem rid_any (n : Int) (w : World) : Asks 34 #[.int .u64 n] (idB n = true) w := by
 unfold Asks
 go_enter Try.func34, Try.ntmps34
 go_wp2
 all_goals go_ret
 all_goals (refine askP_b ?_ (Below.refl _ _); unfold idB; simp; omega)
theorem notAbove_any (c l : Int) (w : World) : Asks 78 #[.agg #[.int .u64 c, .int .i64 l]] (¬ l = 5) w := by
 unfold Asks
 go_enter Try.func78, Try.ntmps78
 go_wp2
 all_goals go_ret
 all_goals (refine askP_b ?_ ((Below.refl _ w).alloc (Nat.le_refl _) _); simp)
def spanI (lo hi : Int) : Bool := decide (lo ≤ hi) && decide (hi ≤ 2305843009213693952)
theorem numFit_any (lo hi : Int) (w : World) : Asks 94 #[.agg #[.int .u64 lo, .int .u64 hi]] (spanI lo hi = true) w := by
 unfold Asks
 go_enter Try.func94, Try.ntmps94
 go_wp2
 all_goals go_ret
 all_goals (refine askP_b ?_ ((Below.refl _ w).alloc (Nat.le_refl _) _); unfold spanI; simp; omega)
theorem rspan_any (lo hi : Int) (w : World) : Asks 50 #[.agg #[.int .u64 lo, .int .u64 hi]] (spanI lo hi = true) w := by
 unfold Asks
 go_enter Try.func50, Try.ntmps50
 go_wp2
 all_goals go_ret
 all_goals (refine askP_b ?_ ((Below.refl _ w).alloc (Nat.le_refl _) _); unfold spanI; simp; omega)
theorem span_any (lo hi : Int) (w : World) : Asks 85 #[.agg #[.int .u64 lo, .int .u64 hi]] (spanI lo hi = true) w := by
 have hB := (Below.refl w.heap.size w).alloc (Nat.le_refl _) (.cells #[.int .u64 lo, .int .u64 hi] 33)
 unfold Asks
 go_enter Try.func85, Try.ntmps85
 go_wp2_with (go_at_call 94; (with_reducible refine (numFit_any lo hi _).on ?_ ?_) <;> intro w1 hq hk)
 ·go_ret
  exact askP_yes hq.out (hB.trans (hk.mono hB.size))
 ·go_ret
  exact askP_no hq (hB.trans (hk.mono hB.size)) id
def noA (L : Lb) : Bool := L.all fun p => !decide (p.2 = 5)
theorem noA_iff {L : Lb} : noA L = true ↔ ∀ i, i < L.length → ¬ (L.getD i (0, 0)).2 = 5 := by
 unfold noA
 rw [List.all_eq_true]
 constructor
 ·intro h i hi
  have := h L[i] (List.getElem_mem hi)
  simpa [List.getD_eq_getElem?_getD, List.getElem?_eq_getElem hi] using this
 ·intro h p hp
  obtain ⟨i, hi, e⟩ := List.mem_iff_getElem.1 hp
  have := h i hi
  simpa [List.getD_eq_getElem?_getD, List.getElem?_eq_getElem hi, e] using this
theorem kept_iff {L : Lb} : keptB L = true ↔ (L.length ≤ 16 ∧ fitB L = true ∧ noA L = true) := by unfold keptB noA; simp
theorem everyP_any {w : World} {ao : Option Addr} {n cap : Nat} {L : Lb} (hL : Lab w.heap.size w ao n cap L) : Asks 77 #[.slice ao n cap, .func (.func 78) #[] #[]] (noA L = true) w := by
 have hn : Hid (L.length = n) := hL.1
 have hnc := hL.2.1
 have hcm := hL.2.2.1.1
 unfold Asks
 go_enter Try.func77, Try.ntmps77
 go_wp2
 go_loopw [9] (fun i wr => ∃ k : Nat, k ≤ n ∧ i = .int .i64 k ∧ Hid (∀ j, j < k → ¬ (L.getD j (0, 0)).2 = 5) ∧ Below w.heap.size w wr) (fun i _ => n - (intOf i).toNat)
 case atStart => exact ⟨0, Nat.zero_le _, rfl, fun j hj => absurd hj (by omega), Below.refl _ _⟩
 case round =>
  obtain ⟨k, hk, rfl, hal, hb⟩ := hrel
  have hbs := hb.size
  by_cases hkn : k < n
  ·obtain ⟨b, off, x, y, rfl, hB, d0, d1, hxy⟩ := hL.at hb hkn
   have hkn' : (k : Int) < n := by omega
   have hbw : b < wr.heap.size := Nat.lt_of_lt_of_le hB hbs
   have hal1 := hb.alloc hbs (.cells #[.int .u64 x, .int .i64 y] 80)
   go_wp2_with (go_at_call 78; (with_reducible refine (notAbove_any x y _).on ?_ ?_) <;> intro w1 hq hk1)
   ·go_roundw
    case rel => exact ⟨k + 1, by omega, by go_num, fun j hj => by
      rcases Nat.lt_or_ge j k with h | h
      ·exact hal.out j h
      ·obtain rfl : j = k := by omega
       rw [hxy.out]; exact hq.out, hal1.trans (hk1.mono hal1.size)⟩
    case measure => simp [intOf]; omega
   ·go_ret
    exact askP_no hq (hal1.trans (hk1.mono hal1.size)) (fun e => by have := noA_iff.1 e k (by rw [hn.out]; exact hkn); rw [hxy.out] at this; exact this)
  ·obtain rfl : k = n := by omega
   go_wp2
   go_ret
   exact askP_yes (noA_iff.2 fun i hi => hal.out i (by rw [hn.out] at hi; exact hi)) hb
theorem kept_any {w0 w : World} {ao : Option Addr} {n cap : Nat} {L : Lb} (h0 : LabD (LtN w0) w0 ao n cap L) (hk : Below w0.heap.size w0 w) : Asks 57 #[.slice ao n cap] (keptB L = true) w := by
 have hL := h0.lab' hk
 have hn : Hid (L.length = n) := hL.1
 clear h0 hk
 unfold Asks
 by_cases h16 : n ≤ 16
 ·have h16' : (n : Int) ≤ 16 := by omega
  go_enter Try.func57, Try.ntmps57
  go_wp2_with (first | (go_at_call 76; (with_reducible refine (Asks.of (lfit_any hL (Nat.le_refl _))).on ?_ ?_) <;> intro w1 hq hk1) | (go_at_call 77; (with_reducible refine (everyP_any (hL.next hk1)).on ?_ ?_) <;> intro w2 hq2 hk2))
  all_goals go_ret
  ·exact askP_yes (kept_iff.2 ⟨by rw [hn.out]; exact h16, hq.out, hq2.out⟩) (hk1.trans (hk2.mono hk1.size))
  ·exact askP_no hq2 (hk1.trans (hk2.mono hk1.size)) (fun e => (kept_iff.1 e).2.2)
  ·exact askP_no hq hk1 (fun e => (kept_iff.1 e).2.1)
 ·have h16' : ¬ (n : Int) ≤ 16 := by omega
  go_enter Try.func57, Try.ntmps57
  go_wp2
  go_ret
  exact askP_no (show Hid (¬ n ≤ 16) from h16) (Below.refl _ _) (fun e => by have := (kept_iff.1 e).1; rw [hn.out] at this; exact this)
theorem rkept_any {w0 w : World} {ao : Option Addr} {n cap : Nat} {L : Lb} (h0 : LabD (LtN w0) w0 ao n cap L) (hk : Below w0.heap.size w0 w) : Asks 35 #[.slice ao n cap] (keptB L = true) w := by
 have hL := h0.lab' hk
 have hn : Hid (L.length = n) := hL.1
 have hnc := hL.2.1
 have hcm := hL.2.2.1.1
 clear h0 hk
 unfold Asks
 go_enter Try.func35, Try.ntmps35
 go_wp2
 go_loopw [3] (fun i wr => ∃ k : Nat, k ≤ n ∧ i = .int .i64 k ∧ Hid (∀ j, j < k → ¬ (L.getD j (0, 0)).2 = 5) ∧ Below w.heap.size w wr) (fun i _ => n - (intOf i).toNat)
 case atStart => exact ⟨0, Nat.zero_le _, rfl, fun j hj => absurd hj (by omega), Below.refl _ _⟩
 case round =>
  obtain ⟨k, hk, rfl, hal, hb⟩ := hrel
  have hbs := hb.size
  by_cases hkn : k < n
  ·obtain ⟨b, off, x, y, rfl, hB, d0, d1, hxy⟩ := hL.at hb hkn
   have hkn' : (k : Int) < n := by omega
   by_cases hy : y = 5
   ·have hq : Hid (¬ noA L = true) := by
     refine (?_ : ¬ noA L = true)
     intro e; have := noA_iff.1 e k (by rw [hn.out]; exact hkn); rw [hxy.out] at this; exact this hy
    subst hy
    go_wp2
    go_ret
    exact askP_no hq hb (fun e => (kept_iff.1 e).2.2)
   ·have hy' : (y == 5) = false := by rw [beq_eq_false_iff_ne]; exact hy
    have hyh : Hid (¬ y = 5) := hy
    clear hy
    go_wp2
    go_roundw
    case rel => exact ⟨k + 1, by omega, by go_num, fun j hj => by
      rcases Nat.lt_or_ge j k with h | h
      ·exact hal.out j h
      ·obtain rfl : j = k := by omega
       rw [hxy.out]; exact hyh.out, hb⟩
    case measure => simp [intOf]; omega
  ·obtain rfl : k = n := by omega
   have hno : Hid (noA L = true) := noA_iff.2 fun i hi => hal.out i (by rw [hn.out] at hi; exact hi)
   clear hal
   by_cases h16 : k ≤ 16
   ·have h16' : (k : Int) ≤ 16 := by omega
    go_wp2_with (go_at_call 21; (with_reducible refine (Asks.of (rlfit_any (hL.later hb) hbs)).on ?_ ?_) <;> intro w1 hq hk1)
    ·go_ret
     exact askP_yes (kept_iff.2 ⟨by rw [hn.out]; exact h16, hq.out, hno.out⟩) (hb.trans (hk1.mono hbs))
    ·go_ret
     exact askP_no hq (hb.trans (hk1.mono hbs)) (fun e => (kept_iff.1 e).2.1)
   ·have h16' : ¬ (k : Int) ≤ 16 := by omega
    go_wp2
    go_ret
    exact askP_no (show Hid (¬ k ≤ 16) from h16) hb (fun e => by have := (kept_iff.1 e).1; rw [hn.out] at this; exact this)
theorem boun_iff {l b : Lb} : bounB l b = true ↔ (keptB l = true ∧ keptB b = true ∧ leqB l b = true) := by unfold bounB; simp
theorem bounded_any {w0 w : World} {ao ao' : Option Addr} {n cap n' cap' : Nat} {L L' : Lb} (h : LabD (LtN w0) w0 ao n cap L) (h' : LabD (LtN w0) w0 ao' n' cap' L') (hk : Below w0.heap.size w0 w) : Asks 63 #[.slice ao n cap, .slice ao' n' cap'] (bounB L L' = true) w := by
 unfold Asks
 have hb0 := Below.refl w.heap.size w
 go_enter Try.func63, Try.ntmps63
 go_wp2_with (first
  | (go_at_call 57; (with_reducible refine (kept_any h hk).on ?_ ?_) <;> (intro w1 hq hk1; replace hk := hk.trans (hk1.mono hk.size); replace hb0 := hb0.trans (hk1.mono hb0.size)))
  | (go_at_call 57; (with_reducible refine (kept_any h' hk).on ?_ ?_) <;> (intro w2 hq2 hk2; replace hk := hk.trans (hk2.mono hk.size); replace hb0 := hb0.trans (hk2.mono hb0.size)))
  | (go_at_call 83; (with_reducible refine (Asks.of (lleq_any (B := 0) (h.lab' hk) (h'.lab' hk))).on ?_ ?_) <;> (intro w3 hq3 hk3; replace hb0 := hb0.trans (hk3.mono hb0.size))))
 all_goals go_ret
 ·exact askP_yes (boun_iff.2 ⟨hq.out, hq2.out, hq3.out⟩) hb0
 ·exact askP_no hq3 hb0 (fun e => (boun_iff.1 e).2.2)
 ·exact askP_no hq2 hb0 (fun e => (boun_iff.1 e).2.1)
 ·exact askP_no hq hb0 (fun e => (boun_iff.1 e).1)
end Go.Proofs.Ytlaagheeemkklaa
namespace Go.Proofs.Ytlaagheeemkklaa
set_option maxRecDepth 100000
set_option maxHeartbeats 8000000
open Go.RowKit Go.Shelf
set_option linter.unusedVariables false
attribute [local go_sem] Oper.semAt_some

theorem ris_iff : ∀ {l : List Int}, risB l = true ↔ ∀ i, i + 1 < l.length → l.getD i 0 < l.getD (i + 1) 0 := by
 intro l
 unfold risB
 rw [decide_eq_true_iff]
 induction l with
 | nil => simp
 | cons x l ih =>
  rw [List.pairwise_cons, ih]
  constructor
  ·rintro ⟨h1, h2⟩ i hi
   cases i with
   | zero =>
    have hl : 0 < l.length := by simpa using hi
    have := h1 l[0] (List.getElem_mem hl)
    simpa [List.getD_eq_getElem?_getD, List.getElem?_eq_getElem hl] using this
   | succ i => exact h2 i (by simpa using hi)
  ·intro h
   have h2 : ∀ i, i + 1 < l.length → l.getD i 0 < l.getD (i + 1) 0 := fun i hi => h (i + 1) (by simpa using hi)
   refine ⟨fun y hy => ?_, h2⟩
   obtain ⟨j, hj, rfl⟩ := List.mem_iff_getElem.1 hy
   have h0 : x < l.getD 0 0 := h 0 (by simp; omega)
   have : ∀ j, j < l.length → x < l.getD j 0 := by
    intro j
    induction j with
    | zero => intro _; exact h0
    | succ j ihj => intro hj; exact Int.lt_trans (ihj (by omega)) (h2 j hj)
   have := this j hj
   simpa [List.getD_eq_getElem?_getD, List.getElem?_eq_getElem hj] using this
def allI (l : List Int) : Bool := l.all idB
theorem allI_iff {l : List Int} : allI l = true ↔ ∀ i, i < l.length → idB (l.getD i 0) = true := by
 unfold allI
 rw [List.all_eq_true]
 constructor
 ·intro h i hi
  have := h l[i] (List.getElem_mem hi)
  simpa [List.getD_eq_getElem?_getD, List.getElem?_eq_getElem hi] using this
 ·intro h p hp
  obtain ⟨i, hi, e⟩ := List.mem_iff_getElem.1 hp
  have := h i hi
  simpa [List.getD_eq_getElem?_getD, List.getElem?_eq_getElem hi, e] using this
theorem fn_succ {p : Nat → Prop} {k : Nat} (h : ∀ i, i < k → p i) (hk : p k) : ∀ i, i < k + 1 → p i := fun i hi => by
 rcases Nat.lt_or_ge i k with h' | h'
 ·exact h i h'
 ·have : i = k := by omega
  rw [this]; exact hk
theorem everyU_any {w0 w : World} {ao : Option Addr} {n cap : Nat} {L : List Int} (h0 : CtD (LtN w0) w0 ao n cap L) (hk0 : Below w0.heap.size w0 w) : Asks 59 #[.slice ao n cap, .func (.func 56) #[] #[]] (allI L = true) w := by
 have hL := h0.ct' hk0
 clear h0 hk0
 have hn : Hid (L.length = n) := hL.1
 have hnc := hL.2.1
 have hcm := hL.2.2.1.1
 unfold Asks
 go_enter Try.func59, Try.ntmps59
 go_wp2
 go_loopw [9] (fun i wr => ∃ k : Nat, k ≤ n ∧ i = .int .i64 k ∧ Hid (∀ j, j < k → idB (L.getD j 0) = true) ∧ Below w.heap.size w wr) (fun i _ => n - (intOf i).toNat)
 case atStart => exact ⟨0, Nat.zero_le _, rfl, fun j hj => absurd hj (by omega), Below.refl _ _⟩
 case round =>
  obtain ⟨k, hk, rfl, hal, hb⟩ := hrel
  have hbs := hb.size
  by_cases hkn : k < n
  ·obtain ⟨b, off, x, rfl, hB, hx, d0⟩ := (hL.laterK fun b hb' => hb.block b hb').at hkn
   have hkn' : (k : Int) < n := by omega
   go_wp2_with (go_at_call 56; (with_reducible refine (isId_any x _).on ?_ ?_) <;> intro w1 hq hk1)
   ·go_roundw
    case rel => exact ⟨k + 1, by omega, by go_num, fn_succ hal.out (by rw [hx.out]; exact hq.out), hb.trans (hk1.mono hbs)⟩
    case measure => simp [intOf]; omega
   ·go_ret
    exact askP_no hq (hb.trans (hk1.mono hbs)) (fun e => by have := allI_iff.1 e k (by rw [hn.out]; exact hkn); rw [hx.out] at this; exact this)
  ·obtain rfl : k = n := by omega
   go_wp2
   go_ret
   exact askP_yes (allI_iff.2 fun i hi => hal.out i (by rw [hn.out] at hi; exact hi)) hb
theorem every4_any {w : World} {b o : Nat} {R : Nat → Lb} (h : Four w b o R) : Asks 84 #[.slice (some ⟨b, o, none⟩) 4 4, .func (.func 57) #[] #[]] (∀ i, i < 4 → keptB (R i) = true) w := by
 unfold Asks
 go_enter Try.func84, Try.ntmps84
 go_wp2
 go_loopw [9] (fun i wr => ∃ k : Nat, k ≤ 4 ∧ i = .int .i64 k ∧ Hid (∀ j, j < k → keptB (R j) = true) ∧ Below w.heap.size w wr) (fun i _ => 4 - (intOf i).toNat)
 case atStart => exact ⟨0, Nat.zero_le _, rfl, fun j hj => absurd hj (by omega), Below.refl _ _⟩
 case round =>
  obtain ⟨k, hk, rfl, hal, hb⟩ := hrel
  have hbs := hb.size
  by_cases hkn : k < 4
  ·have hh := h.next hb
   obtain ⟨ai, ni, ci, q1, q2⟩ := hh.2 k hkn
   have hkn' : (k : Int) < 4 := by omega
   clear hh
   go_wp2_with (go_at_call 57; (with_reducible refine (kept_any q2 (Below.refl _ _)).on ?_ ?_) <;> intro w1 hq hk1)
   ·go_roundw
    case rel => exact ⟨k + 1, by omega, by go_num, fn_succ hal.out hq.out, hb.trans (hk1.mono hbs)⟩
    case measure => simp [intOf]; omega
   ·go_ret
    exact askP_no hq (hb.trans (hk1.mono hbs)) (fun e => e k hkn)
  ·obtain rfl : k = 4 := by omega
   go_wp2
   go_ret
   exact askP_yes hal.out hb
theorem links1_any (n : Int) (w : World) : Calls Try.prog 79 #[.int .u64 n] w fun e w' => e = .returned (.int .u64 n) ∧ w' = w := by
 go_enter Try.func79, Try.ntmps79
 go_wp2
 go_ret
 exact ⟨rfl, rfl⟩
theorem links_any {w : World} {C : Array Value} {x : Ob} (h : ObD (LtN w) w C x) {ao : Option Addr} {n cap : Nat} (c5 : C[5]? = some (.slice ao n cap)) :
  Calls Try.prog 60 #[.agg C] w fun e w' => e = .returned (.agg #[.slice ao n cap, .func (.func 79) #[] #[]]) ∧ Below w.heap.size w w' := by
 go_enter Try.func60, Try.ntmps60
 go_wp2_with (first
  | (with_reducible refine wpList_box rfl _ _ rfl C rfl ?_; intro B W hB hb hk; have q6 := fun o => cellLater ((hb.cell 5).trans c5) o))
 refine bodyPost_ret (v := .agg #[.slice ao n cap, .func (.func 79) #[] #[]]) (by simp [results, Try.f60, go_sem]) rfl ?_
 exact ⟨rfl, hk.alloc hk.size _⟩
theorem risesU_any {w : World} {ao : Option Addr} {n cap : Nat} {L : List Int} (hL : CtD (LtN w) w ao n cap L) : Asks 61 #[.agg #[.slice ao n cap, .func (.func 79) #[] #[]]] (risB L = true) w := by
 have hn : Hid (L.length = n) := hL.1
 have hnc := hL.2.1
 have hcm := hL.2.2.1.1
 unfold Asks
 go_enter Try.func61, Try.ntmps61
 go_wp2
 have hA := (Below.refl w.heap.size w).alloc (Nat.le_refl _) (.cells #[.slice ao n cap, .func (.func 79) #[] #[]] 100)
 have hBk := Blk.new w #[.slice ao n cap, .func (.func 79) #[] #[]] 100
 generalize w.alloc (.cells #[.slice ao n cap, .func (.func 79) #[] #[]] 100) = W0 at hA hBk ⊢
 obtain ⟨B, hB⟩ : ∃ B, w.heap.size = B := ⟨_, rfl⟩
 have hBh : Hid (w.heap.size = B) := hB
 rw [hB] at hBk hA ⊢
 clear hB
 go_loopw [3] (fun i wr => ∃ k : Nat, 1 ≤ k ∧ (k ≤ n ∨ k = 1) ∧ i = .int .i64 k ∧ Hid (∀ j, j + 1 < k → L.getD j 0 < L.getD (j + 1) 0) ∧ Blk wr B #[.slice ao n cap, .func (.func 79) #[] #[]] 100 ∧ Below B w wr) (fun i _ => n - (intOf i).toNat)
 case atStart => exact ⟨1, Nat.le_refl _, .inr rfl, rfl, fun j hj => absurd hj (by omega), hBk, hA⟩
 case round =>
  obtain ⟨k, hk1, hkn1, rfl, hal, hbk, hb⟩ := hrel
  have e0 := (hbk.cell 0).trans (show _ = some (.slice ao n cap) from rfl)
  have e1 := (hbk.cell 1).trans (show _ = some (.func (.func 79) #[] #[]) from rfl)
  by_cases hkn : k < n
  ·obtain ⟨j, hj⟩ : ∃ j, Hid (k = j + 1) := ⟨k - 1, by show _ = _; omega⟩
   have hw : IntKind.i64.wrap ((k : Int) - 1) = (j : Int) := by have := hj.out; rw [IntKind.wrap_i64]; omega
   have hjn : j < n := by have := hj.out; omega
   have hjn' : (j : Int) < n := by omega
   have hkn' : (k : Int) < n := by omega
   have hLw := hL.laterK fun b hb' => hb.block b (by rw [← hBh.out]; exact hb')
   obtain ⟨b, off, x, rfl, hbb, hx, d0⟩ := hLw.at hjn
   obtain ⟨b', off', y, e', hbb', hy, d1⟩ := hLw.at hkn
   cases e'
   clear hLw
   by_cases hxy : x < y
   ·have hal2 : Hid (∀ i, i + 1 < k + 1 → L.getD i 0 < L.getD (i + 1) 0) := by
     refine (?_ : ∀ i, i + 1 < k + 1 → L.getD i 0 < L.getD (i + 1) 0)
     intro i hi
     rcases Nat.lt_or_ge (i + 1) k with h | h
     ·exact hal.out i h
     ·have hij : i = j := by have := hj.out; omega
      rw [hij, hx.out, ← hj.out, hy.out]; exact hxy
    have hd : ¬ (y ≤ x) := by omega
    have hd' : decide (y ≤ x) = false := decide_eq_false hd
    go_wp2
    go_quiet (first | (go_at_call 79; refine Calls.quiet_of_same (links1_any _ _)))
    go_wp2
    go_roundw
    case rel => exact ⟨k + 1, by omega, .inl (by omega), by go_num, hal2, hbk.next (PgM.below_drewN (Below.refl _ _) _), PgM.below_drewN hb _⟩
    case measure => simp [intOf]; omega
   ·have hq : Hid (¬ risB L = true) := by
     refine (?_ : ¬ risB L = true)
     intro e
     have := ris_iff.1 e j (by rw [hn.out, ← hj.out]; exact hkn)
     rw [hx.out, ← hj.out, hy.out] at this
     exact hxy this
    have hd : y ≤ x := by omega
    have hd' : decide (y ≤ x) = true := decide_eq_true hd
    go_wp2
    go_quiet (first | (go_at_call 79; refine Calls.quiet_of_same (links1_any _ _)))
    go_wp2
    go_ret
    exact askP_no hq (by rw [hBh.out]; exact PgM.below_drewN hb _) id
  ·have hkn' : ¬ (k : Int) < n := by omega
   go_wp2
   go_ret
   exact askP_yes (ris_iff.2 fun i hi => hal.out i (by rw [hn.out] at hi; omega)) (by rw [hBh.out]; exact hb)
end Go.Proofs.Ytlaagheeemkklaa
namespace Go.Proofs.Ytlaagheeemkklaa
set_option maxRecDepth 100000
set_option maxHeartbeats 8000000
open Go.RowKit Go.Shelf
set_option linter.unusedVariables false
attribute [local go_sem] Oper.semAt_some
section
variable {w : World}
theorem tge_int (t : TypeId) (x y : Operand) (k : IntKind) (m n : Int) : ∃ b : Bool, (do eqGuard .geq t x y (.int k m) (.int k n); binOp .geq t (.int k m) (.int k n)).run Try.prog w = .ok (.bool b) w ∧ (b = true ↔ n ≤ m) :=
 ⟨decide (n ≤ m), by simp [eqGuard, binOp, Op.intCmp], by simp⟩
theorem tle_int (t : TypeId) (x y : Operand) (k : IntKind) (m n : Int) : ∃ b : Bool, (do eqGuard .leq t x y (.int k m) (.int k n); binOp .leq t (.int k m) (.int k n)).run Try.prog w = .ok (.bool b) w ∧ (b = true ↔ m ≤ n) :=
 ⟨decide (m ≤ n), by simp [eqGuard, binOp, Op.intCmp], by simp⟩
theorem tlt_int (t : TypeId) (x y : Operand) (k : IntKind) (m n : Int) : ∃ b : Bool, (do eqGuard .lss t x y (.int k m) (.int k n); binOp .lss t (.int k m) (.int k n)).run Try.prog w = .ok (.bool b) w ∧ (b = true ↔ m < n) :=
 ⟨decide (m < n), by simp [eqGuard, binOp, Op.intCmp], by simp⟩
theorem tgt_int (t : TypeId) (x y : Operand) (k : IntKind) (m n : Int) : ∃ b : Bool, (do eqGuard .gtr t x y (.int k m) (.int k n); binOp .gtr t (.int k m) (.int k n)).run Try.prog w = .ok (.bool b) w ∧ (b = true ↔ n < m) :=
 ⟨decide (n < m), by simp [eqGuard, binOp, Op.intCmp], by simp⟩
end
theorem thr_iff {t : Th} : thrB t = true ↔ ((∀ i, i < 4 → keptB (labs t i) = true) ∧ 0 ≤ t.state ∧ t.state ≤ 2 ∧ t.alerts.length ≤ 8 ∧ spanI t.lo t.hi = true ∧ (t.state = 1 ∨ (t.wc = 0 ∧ t.wi = 0 ∧ t.wx = 0 ∧ t.wv = 0 ∧ t.wd = false))) := by
 have e : (∀ i, i < 4 → keptB (labs t i) = true) ↔ (keptB t.l0 = true ∧ keptB t.l1 = true ∧ keptB t.l2 = true ∧ keptB t.l3 = true) :=
  ⟨fun h => ⟨h 0 (by omega), h 1 (by omega), h 2 (by omega), h 3 (by omega)⟩, fun h i hi => by
   rcases i with _ | _ | _ | _ | i
   ·exact h.1
   ·exact h.2.1
   ·exact h.2.2.1
   ·exact h.2.2.2
   ·omega⟩
 rw [e]
 unfold thrB waitB spanB spanI
 simp
 constructor
 ·rintro ⟨h1, h2, h3, h4, h5⟩; exact ⟨⟨h1, h2, h3, h4⟩, h5⟩
 ·rintro ⟨⟨h1, h2, h3, h4⟩, h5⟩; exact ⟨h1, h2, h3, h4, h5⟩
theorem soundThread_any {w : World} {T : Array Value} {t : Th} (h : ThD (LtN w) w T t) : Asks 64 #[.agg T] (thrB t = true) w := by
 have hz := h.size
 obtain ⟨a17, n17, k17, c17, l17⟩ := h.f.clear
 obtain ⟨a28, n28, k28, c28, l28⟩ := h.f.alerts
 have hn28 : Hid (t.alerts.length = n28) := l28.1
 have x29 := ext2 h.f.lo h.f.hi
 have x23 := ext5 h.f.wc h.f.wi h.f.wx h.f.wv h.f.wd
 have c22 := h.f.state
 have ga0 := Try.isAgg24
 have ga1 := Try.isAgg22
 have ga2 := Try.isAgg3
 have ga3 := Try.isAgg4
 have ga4 := Try.isAgg25
 have ga5 := Try.isAgg26
 unfold Asks
 go_enter Try.func64, Try.ntmps64
 go_wp2_with (first
  | go_skip
  | (with_reducible refine wpList_box rfl _ _ rfl T rfl ?_; intro B W hB hb hk)
  | (with_reducible refine wpList_load1 (by kernel_rfl) _ _ rfl B _ rfl _ _ hb _ (by assumption) (by assumption) ?_)
  | (with_reducible refine wpList_loadp (by kernel_rfl) 33 _ rfl B _ rfl 2 _ _ hb _ (by assumption) (by omega) _ Try.underlying33 (by kernel_rfl) size33 ?_)
  | (with_reducible refine wpList_loadp (by kernel_rfl) 31 _ rfl B _ rfl 5 _ _ hb _ (by assumption) (by omega) _ Try.underlying31 (by kernel_rfl) size31 ?_)
  | ((with_reducible refine wpList_test (by kernel_rfl) .geq _ _ _ _ rfl _ _ rfl rfl (tge_int _ _ _ _ _ _) ?_ ?_) <;> intro hq)
  | ((with_reducible refine wpList_test (by kernel_rfl) .leq _ _ _ _ rfl _ _ rfl rfl (tle_int _ _ _ _ _ _) ?_ ?_) <;> intro hq)
  | ((with_reducible refine wpList_test (by kernel_rfl) .eql _ _ _ _ rfl _ _ rfl rfl (eqg_int _ _ _ _ _ _) ?_ ?_) <;> intro hq)
  | ((with_reducible refine wpList_test (by kernel_rfl) .eql _ _ _ _ rfl _ _ rfl rfl (eqg_wait _ _ _ _ _ _ _ _ _ _ _ _) ?_ ?_) <;> intro hq)
  | (go_at_call 84; (with_reducible refine (every4_any (ThD.four (h.next hk) hb)).on ?_ ?_) <;> (intro w1 hq hb1; replace hb := hb.next hb1; replace hk := hk.trans (hb1.mono hk.size); clear hb1))
  | (go_at_call 85; (with_reducible refine (span_any t.lo t.hi _).on ?_ ?_) <;> (intro w1 hq hb1; replace hb := hb.next hb1; replace hk := hk.trans (hb1.mono hk.size); clear hb1)))
 all_goals go_ret
 all_goals first
  | (refine askP_yes (thr_iff.2 ⟨Hid.out (by assumption), Hid.out (by assumption), Hid.out (by assumption), ?_, Hid.out (by assumption), .inl (Hid.out (by assumption))⟩) hk; (have hl : (n28 : Int) ≤ 8 := Hid.out (by assumption)); rw [hn28.out]; omega)
  | (refine askP_yes (thr_iff.2 ⟨Hid.out (by assumption), Hid.out (by assumption), Hid.out (by assumption), ?_, Hid.out (by assumption), .inr (Hid.out (by assumption))⟩) hk; (have hl : (n28 : Int) ≤ 8 := Hid.out (by assumption)); rw [hn28.out]; omega)
  | (refine askP_no (Y := (t.wc = 0 ∧ t.wi = 0 ∧ t.wx = 0 ∧ t.wv = 0 ∧ t.wd = false)) (by assumption) hk (fun e => ?_); exact (thr_iff.1 e).2.2.2.2.2.resolve_left (Hid.out (by assumption)))
  | (refine askP_no (Y := spanI t.lo t.hi = true) (by assumption) hk (fun e => ?_); exact (thr_iff.1 e).2.2.2.2.1)
  | (have hl : 8 < (n28 : Int) := Hid.out (by assumption); refine ⟨false, rfl, ⟨fun e => absurd e Bool.false_ne_true, fun e => ?_⟩, hk⟩; exfalso; have := (thr_iff.1 e).2.2.2.1; rw [hn28.out] at this; omega)
  | (have hl : 2 < t.state := Hid.out (by assumption); refine ⟨false, rfl, ⟨fun e => absurd e Bool.false_ne_true, fun e => ?_⟩, hk⟩; exfalso; have := (thr_iff.1 e).2.2.1; omega)
  | (have hl : t.state < 0 := Hid.out (by assumption); refine ⟨false, rfl, ⟨fun e => absurd e Bool.false_ne_true, fun e => ?_⟩, hk⟩; exfalso; have := (thr_iff.1 e).2.1; omega)
  | (refine askP_no (Y := ∀ i, i < 4 → keptB (labs t i) = true) (by assumption) hk (fun e => ?_); exact (thr_iff.1 e).1)
  | fail
theorem rthread_any {w : World} {T : Array Value} {t : Th} {ao : Option Addr} {n cap : Nat} {l : Lb} (hl : LabD (LtN w) w ao n cap l) (h : ThD (LtN w) w T t) : Asks 40 #[.slice ao n cap, .agg T] (keptB t.clear = true ∧ rleqB l t.clear = true ∧ thrB t = true) w := by
 have hz := h.size
 obtain ⟨a17, n17, k17, c17, l17⟩ := h.f.clear
 obtain ⟨a28, n28, k28, c28, l28⟩ := h.f.alerts
 have hn28 : Hid (t.alerts.length = n28) := l28.1
 have x29 := ext2 h.f.lo h.f.hi
 have x23 := ext5 h.f.wc h.f.wi h.f.wx h.f.wv h.f.wd
 have c22 := h.f.state
 have ga0 := Try.isAgg24
 have ga1 := Try.isAgg22
 have ga2 := Try.isAgg3
 have ga3 := Try.isAgg4
 have ga4 := Try.isAgg25
 have ga5 := Try.isAgg26
 unfold Asks
 go_enter Try.func40, Try.ntmps40
 go_wp2_with (first
  | go_skip
  | (with_reducible refine wpList_box rfl _ _ rfl T rfl ?_; intro B W hB hb hk))
 have hf := ThD.four (h.next hk) hb
 go_loopw [5] (fun i wr => ∃ k : Nat, k ≤ 4 ∧ i = .int .i64 k ∧ Hid (∀ j, j < k → keptB (labs t j) = true) ∧ Below W.heap.size W wr) (fun i _ => 4 - (intOf i).toNat)
 case atStart => exact ⟨0, Nat.zero_le _, rfl, fun j hj => absurd hj (by omega), Below.refl _ _⟩
 case round =>
  obtain ⟨k, hk4, rfl, hal, hbw⟩ := hrel
  by_cases hkn : k < 4
  ·obtain ⟨ai, ni, ci, d1, q2⟩ := (hf.next hbw).2 k hkn
   have hkn' : (k : Int) < 4 := by omega
   clear hf
   go_wp2_with (go_at_call 35; (with_reducible refine (rkept_any q2 (Below.refl _ _)).on ?_ ?_) <;> intro w1 hq hb1)
   ·go_roundw
    case rel => exact ⟨k + 1, by omega, by go_num, fn_succ hal.out hq.out, hbw.trans (hb1.mono hbw.size)⟩
    case measure => simp [intOf]; omega
   ·go_ret
    exact askP_no hq (hk.trans ((hbw.trans (hb1.mono hbw.size)).mono hk.size)) (fun e => (thr_iff.1 e.2.2).1 k hkn)
  ·obtain rfl : k = 4 := by omega
   replace hb := hb.next hbw
   replace hk := hk.trans (hbw.mono hk.size)
   clear hf hbw
   simp only [show ((4 : Nat) : Int) = 4 from rfl]
   go_wp2_with (first
     | go_skip
     | (with_reducible refine wpList_load1 (by kernel_rfl) _ _ rfl B _ rfl _ _ hb _ (by assumption) (by assumption) ?_)
     | (with_reducible refine wpList_loadp (by kernel_rfl) 31 _ rfl B _ rfl 5 _ _ hb _ (by assumption) (by omega) _ Try.underlying31 (by kernel_rfl) size31 ?_)
     | ((with_reducible refine wpList_test (by kernel_rfl) .neq _ _ _ _ rfl _ _ rfl rfl (neg_int _ _ _ _ _ _) ?_ ?_) <;> intro hq)
     | ((with_reducible refine wpList_test (by kernel_rfl) .neq _ _ _ _ rfl _ _ rfl rfl (neg_wait _ _ _ _ _ _ _ _ _ _ _ _) ?_ ?_) <;> intro hq)
     | (with_reducible refine wpList_loadp (by kernel_rfl) 33 _ rfl B _ rfl 2 _ _ hb _ (by assumption) (by omega) _ Try.underlying33 (by kernel_rfl) size33 ?_)
     | ((with_reducible refine wpList_test (by kernel_rfl) .geq _ _ _ _ rfl _ _ rfl rfl (tge_int _ _ _ _ _ _) ?_ ?_) <;> intro hq)
     | ((with_reducible refine wpList_test (by kernel_rfl) .leq _ _ _ _ rfl _ _ rfl rfl (tle_int _ _ _ _ _ _) ?_ ?_) <;> intro hq)
     | (go_at_call 35; (with_reducible refine (rkept_any l17 hk).on ?_ ?_) <;> (intro w1 hq hb1; replace hb := hb.next hb1; replace hk := hk.trans (hb1.mono hk.size); clear hb1))
     | (go_at_call 41; (with_reducible refine (Asks.of (rlleq_any (hl.lab' hk) (l17.lab' hk))).on ?_ ?_) <;> (intro w1 hq hb1; replace hb := hb.next hb1; replace hk := hk.trans (hb1.mono hk.size); clear hb1))
     | (go_at_call 50; (with_reducible refine (rspan_any t.lo t.hi _).on ?_ ?_) <;> (intro w1 hq hb1; replace hb := hb.next hb1; replace hk := hk.trans (hb1.mono hk.size); clear hb1)))
   all_goals (first | go_ret | skip)
   all_goals first
     | (refine askP_no (Y := (t.wc = 0 ∧ t.wi = 0 ∧ t.wx = 0 ∧ t.wv = 0 ∧ t.wd = false)) (by assumption) hk (fun e => ?_); exact (thr_iff.1 e.2.2).2.2.2.2.2.resolve_left (Hid.out (by assumption)))
     | (refine askP_yes ⟨Hid.out (by assumption), Hid.out (by assumption), thr_iff.2 ⟨Hid.out (by assumption), Hid.out (by assumption), Hid.out (by assumption), ?_, Hid.out (by assumption), .inl (Classical.not_not.1 (Hid.out (by assumption)))⟩⟩ hk; (have hl : (n28 : Int) ≤ 8 := Hid.out (by assumption)); rw [hn28.out]; omega)
     | (refine askP_yes ⟨Hid.out (by assumption), Hid.out (by assumption), thr_iff.2 ⟨Hid.out (by assumption), Hid.out (by assumption), Hid.out (by assumption), ?_, Hid.out (by assumption), .inr (Classical.not_not.1 (Hid.out (by assumption)))⟩⟩ hk; (have hl : (n28 : Int) ≤ 8 := Hid.out (by assumption)); rw [hn28.out]; omega)
     | (refine askP_no (Y := spanI t.lo t.hi = true) (by assumption) hk (fun e => ?_); exact (thr_iff.1 e.2.2).2.2.2.2.1)
     | (have hl : 8 < (n28 : Int) := Hid.out (by assumption); refine ⟨false, rfl, ⟨fun e => absurd e Bool.false_ne_true, fun e => ?_⟩, hk⟩; exfalso; have := (thr_iff.1 e.2.2).2.2.2.1; rw [hn28.out] at this; omega)
     | (have hl : 2 < t.state := Hid.out (by assumption); refine ⟨false, rfl, ⟨fun e => absurd e Bool.false_ne_true, fun e => ?_⟩, hk⟩; exfalso; have := (thr_iff.1 e.2.2).2.2.1; omega)
     | (have hl : t.state < 0 := Hid.out (by assumption); refine ⟨false, rfl, ⟨fun e => absurd e Bool.false_ne_true, fun e => ?_⟩, hk⟩; exfalso; have := (thr_iff.1 e.2.2).2.1; omega)
     | (refine askP_no (Y := rleqB l t.clear = true) (by assumption) hk (fun e => ?_); exact e.2.1)
     | (refine askP_no (Y := keptB t.clear = true) (by assumption) hk (fun e => ?_); exact e.1)
     | fail
end Go.Proofs.Ytlaagheeemkklaa
namespace Go.Proofs.Ytlaagheeemkklaa
set_option maxRecDepth 100000
set_option maxHeartbeats 8000000
open Go.RowKit Go.Shelf
set_option linter.unusedVariables false
attribute [local go_sem] Oper.semAt_some
section
variable {P : Program} {ops : Array Oper} {rest : List Oper} {op : Oper} {a : Act} {Q : Exit → Act → World → Prop} {w : World}
theorem wpList_loadb (hw : Region.wanted op (yielded ops a.tmps) = true) (ty : TypeId) (x : Operand) (ho : op.op = .load ty x) (B : Nat) (hx : a.eval x = .pointer (some ⟨B, 0, none⟩)) (C : Array Value) (hB : Blk w B C ty) (d : TypeDesc)
  (hu : P.underlying ty = some d) (hd : d.isRow = true) (hi : (P.info? ty).map (·.size) = some C.size) (h : wpList P ops Q rest (a.put op.dst (.agg C)) w) : wpList P ops Q (op :: rest) a w := by
 refine wpList_val hw ?_ h
 have := ob_loadb (S := fun W => W = w) (P := P) (fun _ e => by rw [e]; exact hB) hu hd hi w rfl
 unfold execOp
 simp [ho, hx, Instr.loadAt, Instr.sureAddr, this]
end
theorem com_iff {x : Ob} : comB x = true ↔ (idB x.id = true ∧ 1 ≤ x.quota ∧ x.quota ≤ 4096 ∧ keptB x.label = true ∧ (x.kind = 4 ∨ owned x.label = [])) := by unfold comB; simp
theorem owned_ask {w0 w : World} {ao : Option Addr} {n cap : Nat} {L : Lb} (h : LabD (LtN w0) w0 ao n cap L) (hk : Below w0.heap.size w0 w) (hn : n < 274877906944) : Calls Try.prog 58 #[.slice ao n cap] w fun e w' => ∃ ao1 cap1, e = .returned (.slice ao1 (owned L).length cap1) ∧ Below w.heap.size w w' := by
 refine (owned_any (h.lab' hk) hn).mono ?_
 rintro e w' ⟨ao1, n1, cap1, rfl, hc, hb⟩
 have e1 := hc.1
 subst e1
 exact ⟨ao1, cap1, rfl, hb⟩
theorem len_nil {L : Lb} : ((owned L).length : Int) = 0 ↔ owned L = [] := by
 constructor
 ·intro h; exact List.eq_nil_of_length_eq_zero (by omega)
 ·intro h; rw [h]; rfl
theorem soundCommon_any {w : World} {C : Array Value} {x : Ob} (h : ObD (LtN w) w C x) : Asks 44 #[.agg C] (comB x = true) w := by
 have hz := h.size
 have c0 := h.id
 have c1 := h.kind
 obtain ⟨a2, n2, k2, c2, l2⟩ := h.label
 have hn2 : Hid (x.label.length = n2) := l2.1
 have c3 := h.quota
 have c4 := h.fixed
 obtain ⟨a5, n5, k5, c5, l5⟩ := h.links
 have hn5 : Hid (x.links.length = n5) := l5.1
 obtain ⟨a6, n6, k6, c6, l6⟩ := h.data
 have hn6 : Hid (x.data.length = n6) := l6.1
 obtain ⟨a7, n7, k7, c7, l7⟩ := h.maps
 have hn7 : Hid (x.maps.length = n7) := l7.1
 obtain ⟨a49, n49, k49, c49, l49⟩ := h.inn
 have hn49 : Hid (x.inn.length = n49) := l49.1
 obtain ⟨a50, n50, k50, c50, l50⟩ := h.out
 have hn50 : Hid (x.out.length = n50) := l50.1
 obtain ⟨a25, n25, k25, c25, l25⟩ := h.th.clear
 obtain ⟨a43, n43, k43, c43, l43⟩ := h.gt.grant
 obtain ⟨a44, n44, k44, c44, l44⟩ := h.gt.clear
 replace c25 : C[25]? = some (.slice a25 n25 k25) := c25
 replace c43 : C[43]? = some (.slice a43 n43 k43) := c43
 replace c44 : C[44]? = some (.slice a44 n44 k44) := c44
 have ga0 := Try.isAgg24
 have ga1 := Try.isAgg22
 have ga2 := Try.isAgg3
 have ga3 := Try.isAgg4
 have ga4 := Try.isAgg25
 have ga5 := Try.isAgg26
 have hkl : ∀ (_ : keptB x.label = true), n2 < 274877906944 := fun e => by
  have := (kept_iff.1 e).1
  rw [hn2.out] at this; omega
 unfold Asks
 go_enter Try.func44, Try.ntmps44
 go_wp2_with (first
  | go_skip
  | (with_reducible refine wpList_box rfl _ _ rfl C rfl ?_; intro B W hB hb hk)
  | (with_reducible refine wpList_load1 (by kernel_rfl) _ _ rfl B _ rfl _ _ hb _ (by assumption) (by assumption) ?_)
  | ((with_reducible refine wpList_test (by kernel_rfl) .geq _ _ _ _ rfl _ _ rfl rfl (tge_int _ _ _ _ _ _) ?_ ?_) <;> intro hq)
  | ((with_reducible refine wpList_test (by kernel_rfl) .leq _ _ _ _ rfl _ _ rfl rfl (tle_int _ _ _ _ _ _) ?_ ?_) <;> intro hq)
  | ((with_reducible refine wpList_test (by kernel_rfl) .eql _ _ _ _ rfl _ _ rfl rfl (eqg_int _ _ _ _ _ _) ?_ ?_) <;> intro hq)
  | (go_at_call 56; (with_reducible refine (isId_any x.id _).on ?_ ?_) <;> (intro w1 hq hb1; replace hb := hb.next hb1; replace hk := hk.trans (hb1.mono hk.size); clear hb1))
  | (go_at_call 57; (with_reducible refine (kept_any l2 hk).on ?_ ?_) <;> (intro w1 hq hb1; replace hb := hb.next hb1; replace hk := hk.trans (hb1.mono hk.size); clear hb1))
  | (go_at_call 58; (with_reducible refine (owned_ask l2 hk ?hn).mono ?_); (case hn => exact hkl (Hid.out (by assumption))); rintro e w1 ⟨ao1, cap1, rfl, hb1⟩; replace hb := hb.next hb1; replace hk := hk.trans (hb1.mono hk.size); clear hb1))
 all_goals go_ret
 all_goals first
  | (exact askP_yes (com_iff.2 ⟨Hid.out (by assumption), Hid.out (by assumption), Hid.out (by assumption), Hid.out (by assumption), .inl (Hid.out (by assumption))⟩) hk)
  | (exact askP_yes (com_iff.2 ⟨Hid.out (by assumption), Hid.out (by assumption), Hid.out (by assumption), Hid.out (by assumption), .inr (len_nil.1 (Hid.out (by assumption)))⟩) hk)
  | (refine askP_no (Y := ((owned x.label).length : Int) = 0) (by assumption) hk (fun e => ?_); exact len_nil.2 ((com_iff.1 e).2.2.2.2.resolve_left (Hid.out (by assumption))))
  | (refine askP_no (Y := keptB x.label = true) (by assumption) hk (fun e => ?_); exact (com_iff.1 e).2.2.2.1)
  | (have hl : 4096 < x.quota := Hid.out (by assumption); refine ⟨false, rfl, ⟨fun e => absurd e Bool.false_ne_true, fun e => ?_⟩, hk⟩; exfalso; have := (com_iff.1 e).2.2.1; omega)
  | (have hl : x.quota < 1 := Hid.out (by assumption); refine ⟨false, rfl, ⟨fun e => absurd e Bool.false_ne_true, fun e => ?_⟩, hk⟩; exfalso; have := (com_iff.1 e).2.1; omega)
  | (refine askP_no (Y := idB x.id = true) (by assumption) hk (fun e => ?_); exact (com_iff.1 e).1)
  | fail
theorem own1 {x : Ob} (h : x.kind = 1) : ownB x = true ↔ ((x.data.length : Int) ≤ 16 * (x.quota - 1)) := by unfold ownB; rw [if_pos h]; try simp
theorem own2 {x : Ob} (h : x.kind = 2) : ownB x = true ↔ (x.links.length ≤ 64 ∧ allI x.links = true ∧ risB x.links = true) := by unfold ownB; rw [if_neg (by omega), if_pos h]; try simp [allI]
theorem own3 {x : Ob} (h : x.kind = 3) : ownB x = true ↔ (PgM.Pg.fitB x.maps = true) := by unfold ownB; rw [if_neg (by omega), if_neg (by omega), if_pos h]; try simp [allI]
theorem own4 {x : Ob} (h : x.kind = 4) : ownB x = true ↔ (x.fixed = false ∧ bounB x.label x.th.clear = true ∧ thrB x.th = true) := by unfold ownB; rw [if_neg (by omega), if_neg (by omega), if_neg (by omega), if_pos h]; try simp
theorem own5 {x : Ob} (h : x.kind = 5) : ownB x = true ↔ (bounB x.gt.grant x.gt.clear = true) := by unfold ownB; rw [if_neg (by omega), if_neg (by omega), if_neg (by omega), if_neg (by omega), if_pos h]; try simp [allI]
theorem own6 {x : Ob} (h : x.kind = 6) : ownB x = true ↔ (x.inn.length ≤ 64 ∧ x.out.length ≤ 1024) := by unfold ownB; rw [if_neg (by omega), if_neg (by omega), if_neg (by omega), if_neg (by omega), if_neg (by omega), if_pos h]; try simp
theorem own7 {x : Ob} (h : ¬ (1 ≤ x.kind ∧ x.kind ≤ 6)) : ownB x = true ↔ False := by unfold ownB; rw [if_neg (by omega), if_neg (by omega), if_neg (by omega), if_neg (by omega), if_neg (by omega), if_neg (by omega)]; simp
theorem soundOwn_any {w : World} {C : Array Value} {x : Ob} (h : ObD (LtN w) w C x) (hq1 : 1 ≤ x.quota) (hq2 : x.quota ≤ 4096) : Asks 45 #[.agg C] (ownB x = true) w := by
 have hz := h.size
 have c0 := h.id
 have c1 := h.kind
 obtain ⟨a2, n2, k2, c2, l2⟩ := h.label
 have hn2 : Hid (x.label.length = n2) := l2.1
 have c3 := h.quota
 have c4 := h.fixed
 obtain ⟨a5, n5, k5, c5, l5⟩ := h.links
 have hn5 : Hid (x.links.length = n5) := l5.1
 obtain ⟨a6, n6, k6, c6, l6⟩ := h.data
 have hn6 : Hid (x.data.length = n6) := l6.1
 obtain ⟨a7, n7, k7, c7, l7⟩ := h.maps
 have hn7 : Hid (x.maps.length = n7) := l7.1
 obtain ⟨a49, n49, k49, c49, l49⟩ := h.inn
 have hn49 : Hid (x.inn.length = n49) := l49.1
 obtain ⟨a50, n50, k50, c50, l50⟩ := h.out
 have hn50 : Hid (x.out.length = n50) := l50.1
 obtain ⟨a25, n25, k25, c25, l25⟩ := h.th.clear
 obtain ⟨a43, n43, k43, c43, l43⟩ := h.gt.grant
 obtain ⟨a44, n44, k44, c44, l44⟩ := h.gt.clear
 replace c25 : C[25]? = some (.slice a25 n25 k25) := c25
 replace c43 : C[43]? = some (.slice a43 n43 k43) := c43
 replace c44 : C[44]? = some (.slice a44 n44 k44) := c44
 have ga0 := Try.isAgg24
 have ga1 := Try.isAgg22
 have ga2 := Try.isAgg3
 have ga3 := Try.isAgg4
 have ga4 := Try.isAgg25
 have ga5 := Try.isAgg26
 have hw1 : IntKind.i64.wrap (x.quota - 1) = x.quota - 1 := by rw [IntKind.wrap_i64]; omega
 have hw2 : IntKind.i64.wrap (16 * (x.quota - 1)) = 16 * (x.quota - 1) := by rw [IntKind.wrap_i64]; omega
 unfold Asks
 by_cases h1 : x.kind = 1
 ·replace c1 : C[1]? = some (.int .i64 1) := c1.trans (by rw [h1])
  rw [own1 h1]
  clear h1
  go_enter Try.func45, Try.ntmps45
  go_wp2_with (first
   | go_skip
   | (with_reducible refine wpList_box rfl _ _ rfl C rfl ?_; intro B W hB hb hk)
   | (with_reducible refine wpList_load1 (by kernel_rfl) _ _ rfl B _ rfl _ _ hb _ (by assumption) (by assumption) ?_)
   | ((with_reducible refine wpList_test (by kernel_rfl) .leq _ _ _ _ rfl _ _ rfl rfl (tle_int _ _ _ _ _ _) ?_ ?_) <;> intro hq))
  all_goals go_ret
  all_goals first
   | (refine askP_yes ?_ hk; rw [hn6.out]; exact Hid.out (by assumption))
   | (have hl : 16 * (x.quota - 1) < (n6 : Int) := Hid.out (by assumption); refine ⟨false, rfl, ⟨fun e => absurd e Bool.false_ne_true, fun e => ?_⟩, hk⟩; exfalso; rw [hn6.out] at e; omega)
   | fail
 by_cases h2 : x.kind = 2
 ·replace c1 : C[1]? = some (.int .i64 2) := c1.trans (by rw [h2])
  rw [own2 h2]
  clear h1 h2
  go_enter Try.func45, Try.ntmps45
  go_wp2_with (first
   | go_skip
   | (with_reducible refine wpList_box rfl _ _ rfl C rfl ?_; intro B W hB hb hk)
   | (with_reducible refine wpList_load1 (by kernel_rfl) _ _ rfl B _ rfl _ _ hb _ (by assumption) (by assumption) ?_)
   | ((with_reducible refine wpList_test (by kernel_rfl) .leq _ _ _ _ rfl _ _ rfl rfl (tle_int _ _ _ _ _ _) ?_ ?_) <;> intro hq)
   | (with_reducible refine wpList_loadb (by kernel_rfl) 40 _ rfl B rfl C hb _ Try.underlying40 (by kernel_rfl) (size40C hz) ?_)
   | (go_at_call 59; (with_reducible refine (everyU_any l5 hk).on ?_ ?_) <;> (intro w1 hq hb1; replace hb := hb.next hb1; replace hk := hk.trans (hb1.mono hk.size); clear hb1))
   | (go_at_call 60; (with_reducible refine (links_any (h.next hk) c5).mono ?_); rintro e w1 ⟨rfl, hb1⟩; replace hb := hb.next hb1; replace hk := hk.trans (hb1.mono hk.size); clear hb1)
   | (go_at_call 61; (with_reducible refine (risesU_any (l5.ct' hk)).on ?_ ?_) <;> (intro w1 hq hb1; replace hb := hb.next hb1; replace hk := hk.trans (hb1.mono hk.size); clear hb1)))
  all_goals go_ret
  all_goals first
   | (refine askP_yes ⟨?_, Hid.out (by assumption), Hid.out (by assumption)⟩ hk; (have hl : (n5 : Int) ≤ 64 := Hid.out (by assumption)); rw [hn5.out]; omega)
   | (refine askP_no (Y := risB x.links = true) (by assumption) hk (fun e => e.2.2))
   | (refine askP_no (Y := allI x.links = true) (by assumption) hk (fun e => e.2.1))
   | (have hl : 64 < (n5 : Int) := Hid.out (by assumption); refine ⟨false, rfl, ⟨fun e => absurd e Bool.false_ne_true, fun e => ?_⟩, hk⟩; exfalso; have := e.1; rw [hn5.out] at this; omega)
   | fail
 by_cases h3 : x.kind = 3
 ·replace c1 : C[1]? = some (.int .i64 3) := c1.trans (by rw [h3])
  rw [own3 h3]
  clear h1 h2 h3
  go_enter Try.func45, Try.ntmps45
  go_wp2_with (first
   | go_skip
   | (with_reducible refine wpList_box rfl _ _ rfl C rfl ?_; intro B W hB hb hk)
   | (with_reducible refine wpList_load1 (by kernel_rfl) _ _ rfl B _ rfl _ _ hb _ (by assumption) (by assumption) ?_)
   | (go_at_call 62; (with_reducible refine (Asks.of (PgM.fit_any (MpD.mp' l7 hk))).on ?_ ?_) <;> (intro w1 hq hb1; replace hb := hb.next hb1; replace hk := hk.trans (hb1.mono hk.size); clear hb1)))
  all_goals go_ret
  all_goals first
   | (exact askP_yes (Hid.out (by assumption)) hk)
   | (exact askP_no (by assumption) hk id)
   | fail
 by_cases h4 : x.kind = 4
 ·replace c1 : C[1]? = some (.int .i64 4) := c1.trans (by rw [h4])
  rw [own4 h4]
  clear h1 h2 h3 h4
  cases hfx : x.fixed with
  | false =>
   rw [hfx] at c4
   go_enter Try.func45, Try.ntmps45
   go_wp2_with (first
    | go_skip
    | (with_reducible refine wpList_box rfl _ _ rfl C rfl ?_; intro B W hB hb hk)
    | (with_reducible refine wpList_load1 (by kernel_rfl) _ _ rfl B _ rfl _ _ hb _ (by assumption) (by assumption) ?_)
    | (with_reducible refine wpList_loadp (by kernel_rfl) 36 _ rfl B _ rfl 35 _ _ hb _ rfl (by rw [hz]; omega) _ Try.underlying36 (by kernel_rfl) size36 ?_)
    | (go_at_call 63; (with_reducible refine (bounded_any l2 l25 hk).on ?_ ?_) <;> (intro w1 hq hb1; replace hb := hb.next hb1; replace hk := hk.trans (hb1.mono hk.size); clear hb1))
    | (go_at_call 64; (with_reducible refine (soundThread_any (h.thd.next hk)).on ?_ ?_) <;> (intro w1 hq hb1; replace hb := hb.next hb1; replace hk := hk.trans (hb1.mono hk.size); clear hb1)))
   all_goals go_ret
   all_goals first
    | (exact askP_yes ⟨trivial, Hid.out (by assumption), Hid.out (by assumption)⟩ hk)
    | (refine askP_no (Y := thrB x.th = true) (by assumption) hk (fun e => e.2.2))
    | (refine askP_no (Y := bounB x.label x.th.clear = true) (by assumption) hk (fun e => e.2.1))
    | (refine ⟨false, rfl, ⟨fun e => absurd e Bool.false_ne_true, fun e => ?_⟩, hk⟩; exfalso; cases e.1)
    | fail
  | true =>
   rw [hfx] at c4
   go_enter Try.func45, Try.ntmps45
   go_wp2_with (first
    | go_skip
    | (with_reducible refine wpList_box rfl _ _ rfl C rfl ?_; intro B W hB hb hk)
    | (with_reducible refine wpList_load1 (by kernel_rfl) _ _ rfl B _ rfl _ _ hb _ (by assumption) (by assumption) ?_)
    | (with_reducible refine wpList_loadp (by kernel_rfl) 36 _ rfl B _ rfl 35 _ _ hb _ rfl (by rw [hz]; omega) _ Try.underlying36 (by kernel_rfl) size36 ?_)
    | (go_at_call 63; (with_reducible refine (bounded_any l2 l25 hk).on ?_ ?_) <;> (intro w1 hq hb1; replace hb := hb.next hb1; replace hk := hk.trans (hb1.mono hk.size); clear hb1))
    | (go_at_call 64; (with_reducible refine (soundThread_any (h.thd.next hk)).on ?_ ?_) <;> (intro w1 hq hb1; replace hb := hb.next hb1; replace hk := hk.trans (hb1.mono hk.size); clear hb1)))
   all_goals go_ret
   all_goals first
    | (exact askP_yes ⟨trivial, Hid.out (by assumption), Hid.out (by assumption)⟩ hk)
    | (refine askP_no (Y := thrB x.th = true) (by assumption) hk (fun e => e.2.2))
    | (refine askP_no (Y := bounB x.label x.th.clear = true) (by assumption) hk (fun e => e.2.1))
    | (refine ⟨false, rfl, ⟨fun e => absurd e Bool.false_ne_true, fun e => ?_⟩, hk⟩; exfalso; cases e.1)
    | fail
 by_cases h5 : x.kind = 5
 ·replace c1 : C[1]? = some (.int .i64 5) := c1.trans (by rw [h5])
  rw [own5 h5]
  clear h1 h2 h3 h4 h5
  go_enter Try.func45, Try.ntmps45
  go_wp2_with (first
   | go_skip
   | (with_reducible refine wpList_box rfl _ _ rfl C rfl ?_; intro B W hB hb hk)
   | (with_reducible refine wpList_load1 (by kernel_rfl) _ _ rfl B _ rfl _ _ hb _ (by assumption) (by assumption) ?_)
   | (go_at_call 63; (with_reducible refine (bounded_any l43 l44 hk).on ?_ ?_) <;> (intro w1 hq hb1; replace hb := hb.next hb1; replace hk := hk.trans (hb1.mono hk.size); clear hb1)))
  all_goals go_ret
  all_goals first
   | (exact askP_yes (Hid.out (by assumption)) hk)
   | (exact askP_no (by assumption) hk id)
   | fail
 by_cases h6 : x.kind = 6
 ·replace c1 : C[1]? = some (.int .i64 6) := c1.trans (by rw [h6])
  rw [own6 h6]
  clear h1 h2 h3 h4 h5 h6
  go_enter Try.func45, Try.ntmps45
  go_wp2_with (first
   | go_skip
   | (with_reducible refine wpList_box rfl _ _ rfl C rfl ?_; intro B W hB hb hk)
   | (with_reducible refine wpList_load1 (by kernel_rfl) _ _ rfl B _ rfl _ _ hb _ (by assumption) (by assumption) ?_)
   | ((with_reducible refine wpList_test (by kernel_rfl) .leq _ _ _ _ rfl _ _ rfl rfl (tle_int _ _ _ _ _ _) ?_ ?_) <;> intro hq))
  all_goals go_ret
  all_goals first
   | (have h1 : (n49 : Int) ≤ 64 := Hid.out (by assumption); have h2 : (n50 : Int) ≤ 1024 := Hid.out (by assumption); exact askP_yes ⟨by rw [hn49.out]; omega, by rw [hn50.out]; omega⟩ hk)
   | (have hl : 1024 < (n50 : Int) := Hid.out (by assumption); refine ⟨false, rfl, ⟨fun e => absurd e Bool.false_ne_true, fun e => ?_⟩, hk⟩; exfalso; have := e.2; rw [hn50.out] at this; omega)
   | (have hl : 64 < (n49 : Int) := Hid.out (by assumption); refine ⟨false, rfl, ⟨fun e => absurd e Bool.false_ne_true, fun e => ?_⟩, hk⟩; exfalso; have := e.1; rw [hn49.out] at this; omega)
   | fail
 ·rw [own7 (by omega)]
  have g1 : (x.kind == 1) = false := by rw [beq_eq_false_iff_ne]; exact h1
  have g2 : (x.kind == 2) = false := by rw [beq_eq_false_iff_ne]; exact h2
  have g3 : (x.kind == 3) = false := by rw [beq_eq_false_iff_ne]; exact h3
  have g4 : (x.kind == 4) = false := by rw [beq_eq_false_iff_ne]; exact h4
  have g5 : (x.kind == 5) = false := by rw [beq_eq_false_iff_ne]; exact h5
  have g6 : (x.kind == 6) = false := by rw [beq_eq_false_iff_ne]; exact h6
  clear h1 h2 h3 h4 h5 h6
  go_enter Try.func45, Try.ntmps45
  go_wp2_with (first
   | go_skip
   | (with_reducible refine wpList_box rfl _ _ rfl C rfl ?_; intro B W hB hb hk)
   | (with_reducible refine wpList_load1 (by kernel_rfl) _ _ rfl B _ rfl _ _ hb _ (by assumption) (by assumption) ?_))
  all_goals go_ret
  all_goals first
   | (refine ⟨false, rfl, ⟨fun e => absurd e Bool.false_ne_true, fun e => ?_⟩, hk⟩; exfalso; exact e)
   | fail
end Go.Proofs.Ytlaagheeemkklaa
namespace Go.Proofs.Ytlaagheeemkklaa
set_option maxRecDepth 100000
set_option maxHeartbeats 8000000
open Go.RowKit Go.Shelf
set_option linter.unusedVariables false
attribute [local go_sem] Oper.semAt_some

section
variable {ops : Array Oper} {Q : Exit → Act → World → Prop} {S : World → Prop} {w : World} {fuel m : Nat} {a : Act} {l : Array Bool}
theorem wpOp_callL {i : Nat} {f : FuncId} {vs : List Value} {d : Option Tmp} {R : Ending → World → Prop} {K : Act → World → Prop} (hi : (ops[i]?).bind (fun o => callOf ops o a) = some (f, vs, d))
  (hf : ∀ args w, (callFunc f args).run Try.prog w = .ok (.enter f args) w) (hc : Calls Try.prog f vs.toArray w R)
  (h : ∀ e w', R e w' → ∃ v, e = .returned v ∧ K (a.put d v) w') : wpOp Try.prog ops Q i K a w := by
 cases ho : ops[i]? with
 | none => rw [ho] at hi; cases hi
 | some o =>
  rw [ho] at hi
  obtain ⟨h1, h2, h3⟩ := callOf_run (show callOf ops o a = _ from hi) hf w
  unfold wpOp
  simp only [ho, h1, if_true]
  left
  unfold Oper.wp
  rw [h3, Oper.upon_enter]
  refine hc.mono ?_
  intro e w' hR
  obtain ⟨v, rfl, h⟩ := h e w' hR
  rw [h2]
  exact h
theorem wpAnyH_callL {i : Nat} {f : FuncId} {vs : List Value} {d : Option Tmp} {R : Ending → World → Prop} (hm : m = fuel + 1) (hr : Region.ready .any ops l = [i]) (hi : (ops[i]?).bind (fun o => callOf ops o a) = some (f, vs, d))
  (hf : ∀ args w, (callFunc f args).run Try.prog w = .ok (.enter f args) w) (hc : Calls Try.prog f vs.toArray w R)
  (h : ∀ e w', R e w' → ∃ v, e = .returned v ∧ S w' ∧ wpAnyH Try.prog .any ops Q S fuel (l.setIfInBounds i true) (a.put d v) w') : wpAnyH Try.prog .any ops Q S m l a w := by
 subst hm
 refine wpAnyH_all hr (by simp) ?_
 intro j hj
 obtain rfl : j = i := by simpa using hj
 exact wpOp_callL hi hf hc h
theorem wpAnyH_askL {X : Prop} {i : Nat} {f : FuncId} {vs : List Value} {d : Option Tmp} (hm : m = fuel + 1) (hr : Region.ready .any ops l = [i]) (hi : (ops[i]?).bind (fun o => callOf ops o a) = some (f, vs, d))
  (hf : ∀ args w, (callFunc f args).run Try.prog w = .ok (.enter f args) w) (hc : Asks f vs.toArray X w) (hS : ∀ w', Below w.heap.size w w' → S w')
  (h1 : ∀ w', Hid X → Below w.heap.size w w' → S w' → wpAnyH Try.prog .any ops Q S fuel (l.setIfInBounds i true) (a.put d (.bool true)) w')
  (h0 : ∀ w', Hid (¬ X) → Below w.heap.size w w' → S w' → wpAnyH Try.prog .any ops Q S fuel (l.setIfInBounds i true) (a.put d (.bool false)) w') : wpAnyH Try.prog .any ops Q S m l a w := by
 refine wpAnyH_callL hm hr hi hf hc ?_
 rintro e w' ⟨b, rfl, hb, hk⟩
 refine ⟨_, rfl, hS w' hk, ?_⟩
 cases b with
 | true => exact h1 w' (hb.out.1 rfl) hk (hS w' hk)
 | false => exact h0 w' (fun x => absurd (hb.out.2 x) Bool.false_ne_true) hk (hS w' hk)
end
theorem sound_iff {x : Ob} : soundB x = true ↔ (comB x = true ∧ ownB x = true ∧ witO x = comO x) := by unfold soundB; simp [sameO_iff]
theorem sound_any {w : World} {C : Array Value} {x : Ob} (h : ObD (LtN w) w C x) : Asks 28 #[.agg C] (soundB x = true) w := by
 have hmx : Try.prog.follows .mixedOrders = true := by kernel_rfl
 have hz := h.size
 unfold Asks
 go_enter Try.func28, Try.ntmps28
 go_wp2_with (first
  | (with_reducible refine wpList_box rfl _ _ rfl C rfl ?_; intro B W hB hb hk))
 refine PgM.region_out (S := fun W => Blk W B C 40) hmx (hb.next (Below.refl _ _).drew) (fun hS => ?_)
 replace hk := hk.trans ((Below.refl _ W).drew.mono hk.size)
 generalize W.drew = W1 at hS hk ⊢
 clear hb hB
 have ld : ∀ (S : World → Prop), (∀ w, S w → Blk w B C 40) → Obl.holds Try.prog S (.load 40 B 0 (.agg C)) := fun S hS => ob_loadb hS Try.underlying40 (by kernel_rfl) (size40C hz)
 refine wpAnyH_sym (by kernel_rfl) (fun _ _ _ _ _ h => h) hS [(0, some (.agg C))] (l' := #[true, false, false, false, false, false, false, false, false, false, false, false, false, false]) (a' := { tmps := #[.agg C, .pointer (some ⟨B, 0, none⟩), .bool false, .agg C, ud, ud, ud, ud, ud, ud, ud, ud, ud, ud, ud, undef], defers := [] }) (obs := [.load 40 B 0 (.agg C)]) (n := 13) (by kernel_rfl) (by kernel_rfl) ⟨ld _ (fun _ h => h), trivial⟩ ?_
 refine wpAnyH_askL (fuel := 12) (i := 1) (f := 44) (vs := [.agg C]) (d := some 4) (by kernel_rfl) (by kernel_rfl) (by kernel_rfl) Try.call44 (soundCommon_any (h.next hk)) (fun _ hb => hS.next hb) ?_ ?_
 ·intro W2 q1 hb1 hS
  replace hk := hk.trans (hb1.mono hk.size)
  have qc := com_iff.1 q1.out
  refine wpAnyH_sym (by kernel_rfl) (fun _ _ _ _ _ h => h) hS [(2, none), (3, some (.agg C))] (l' := #[true, true, true, true, false, false, false, false, false, false, false, false, false, false]) (a' := { tmps := #[.agg C, .pointer (some ⟨B, 0, none⟩), .bool false, .agg C, .bool true, .bool true, .agg C, ud, ud, ud, ud, ud, ud, ud, ud, undef], defers := [] }) (obs := [.load 40 B 0 (.agg C)]) (n := 10) (by kernel_rfl) (by kernel_rfl) ⟨ld _ (fun _ h => h), trivial⟩ ?_
  refine wpAnyH_askL (fuel := 9) (i := 4) (f := 45) (vs := [.agg C]) (d := some 7) (by kernel_rfl) (by kernel_rfl) (by kernel_rfl) Try.call45 (soundOwn_any (h.next hk) qc.2.1 qc.2.2.1) (fun _ hb => hS.next hb) ?_ ?_
  ·intro W3 q2 hb2 hS
   replace hk := hk.trans (hb2.mono hk.size)
   clear hb1 hb2
   refine wpAnyH_sym (by kernel_rfl) (fun _ _ _ _ _ h => h) hS [(5, none), (6, none), (7, some (.agg C)), (9, some (.agg C))] (l' := #[true, true, true, true, true, true, true, true, false, true, false, false, false, false]) (a' := { tmps := #[.agg C, .pointer (some ⟨B, 0, none⟩), .bool false, .agg C, .bool true, .bool true, .agg C, .bool true, .bool true, .bool true, .agg C, undef, .agg C, ud, ud, undef], defers := [] }) (obs := [.load 40 B 0 (.agg C), .load 40 B 0 (.agg C)]) (n := 5) (by kernel_rfl) (by kernel_rfl) ⟨ld _ (fun _ h => h), ld _ (fun _ h => h), trivial⟩ ?_
   refine wpAnyH_callL (fuel := 4) (i := 8) (f := 47) (vs := [.agg C]) (d := some 11) (by kernel_rfl) (by kernel_rfl) (by kernel_rfl) Try.call47 (without_any (h.next hk)) ?_
   rintro e W4 ⟨C1, rfl, o1, hb1⟩
   refine ⟨_, rfl, hS.next hb1, ?_⟩
   replace hS := hS.next hb1
   replace hk := hk.trans (hb1.mono hk.size)
   refine wpAnyH_callL (fuel := 3) (i := 10) (f := 48) (vs := [.agg C]) (d := some 13) (by kernel_rfl) (by kernel_rfl) (by kernel_rfl) Try.call48 (common_any (h.next hk)) ?_
   rintro e W5 ⟨C2, rfl, o2, hb2⟩
   refine ⟨_, rfl, hS.next hb2, ?_⟩
   replace hS := hS.next hb2
   replace hk := hk.trans (hb2.mono hk.size)
   refine wpAnyH_askL (fuel := 2) (i := 11) (f := 46) (vs := [.agg C1, .agg C2]) (d := some 14) (by kernel_rfl) (by kernel_rfl) (by kernel_rfl) Try.call46 (sameOne_any (o1.next hb2) o2) (fun _ hb => hS.next hb) ?_ ?_
   ·intro W6 q3 hb3 hS
    replace hk := hk.trans (hb3.mono hk.size)
    refine wpAnyH_sym (by kernel_rfl) (fun _ _ _ _ _ h => h) hS [(12, none), (13, none)] (l' := #[true, true, true, true, true, true, true, true, true, true, true, true, true, true]) (a' := { tmps := #[.agg C, .pointer (some ⟨B, 0, none⟩), .bool true, .agg C, .bool true, .bool true, .agg C, .bool true, .bool true, .bool true, .agg C, .agg C1, .agg C, .agg C2, .bool true, .bool true], defers := [] }) (obs := []) (n := 0) (by kernel_rfl) (by kernel_rfl) trivial ?_
    refine wpAnyH_done (by kernel_rfl) ?_ _
    go_wp2
    go_ret
    exact askP_yes (sound_iff.2 ⟨q1.out, q2.out, q3.out⟩) hk
   ·intro W6 q3 hb3 hS
    replace hk := hk.trans (hb3.mono hk.size)
    refine wpAnyH_sym (by kernel_rfl) (fun _ _ _ _ _ h => h) hS [(12, none), (13, none)] (l' := #[true, true, true, true, true, true, true, true, true, true, true, true, true, true]) (a' := { tmps := #[.agg C, .pointer (some ⟨B, 0, none⟩), .bool false, .agg C, .bool true, .bool true, .agg C, .bool true, .bool true, .bool true, .agg C, .agg C1, .agg C, .agg C2, .bool false, .bool false], defers := [] }) (obs := []) (n := 0) (by kernel_rfl) (by kernel_rfl) trivial ?_
    refine wpAnyH_done (by kernel_rfl) ?_ _
    go_wp2
    go_ret
    exact askP_no q3 hk (fun e => (sound_iff.1 e).2.2)
  ·intro W3 q2 hb2 hS
   replace hk := hk.trans (hb2.mono hk.size)
   refine wpAnyH_sym (by kernel_rfl) (fun _ _ _ _ _ h => h) hS [(5, none), (6, none), (7, none), (8, none), (9, none), (10, none), (11, none), (12, none), (13, none)] (l' := #[true, true, true, true, true, true, true, true, true, true, true, true, true, true]) (a' := { tmps := #[.agg C, .pointer (some ⟨B, 0, none⟩), .bool false, .agg C, .bool true, .bool true, .agg C, .bool false, .bool false, .bool false, ud, ud, ud, ud, undef, .bool false], defers := [] }) (obs := []) (n := 0) (by kernel_rfl) (by kernel_rfl) trivial ?_
   refine wpAnyH_done (by kernel_rfl) ?_ _
   go_wp2
   go_ret
   exact askP_no q2 hk (fun e => (sound_iff.1 e).2.1)
 ·intro W2 q1 hb1 hS
  replace hk := hk.trans (hb1.mono hk.size)
  refine wpAnyH_sym (by kernel_rfl) (fun _ _ _ _ _ h => h) hS [(2, none), (3, none), (4, none), (5, none), (6, none), (7, none), (8, none), (9, none), (10, none), (11, none), (12, none), (13, none)] (l' := #[true, true, true, true, true, true, true, true, true, true, true, true, true, true]) (a' := { tmps := #[.agg C, .pointer (some ⟨B, 0, none⟩), .bool false, .agg C, .bool false, .bool false, ud, undef, .bool false, .bool false, ud, ud, ud, ud, undef, .bool false], defers := [] }) (obs := []) (n := 0) (by kernel_rfl) (by kernel_rfl) trivial ?_
  refine wpAnyH_done (by kernel_rfl) ?_ _
  go_wp2
  go_ret
  exact askP_no q1 hk (fun e => (sound_iff.1 e).1)
end Go.Proofs.Ytlaagheeemkklaa
