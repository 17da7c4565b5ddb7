/-
  PROVED HERE: what package obj's isId, notAbove, every, kept, bounded, links and rises, serial's Fit, and the document's id, Kept and Fit of numbers return when they are called (contracts over this translation). No condition.
-/
import Derived.Test.YtfpmkihlfhpgdaaOb10
import Derived.BigQuiet
namespace Go.Proofs.Ytfpmkihlfhpgdaa
section
open Go.RowKit Go.Shelf
set_option linter.unusedVariables false
attribute [local go_sem] Oper.semAt_some

theorem askP_b {X : Prop} {W w' : World} {b : Bool} (h : b = true ↔ X) (hk : Below W.heap.size W w') : AskP X W (.returned (.bool b)) w' := ⟨b, rfl, h, hk⟩
theorem Asks.of {f : FuncId} {args : Array Value} {W : World} {b : Bool} (h : Calls Try.prog f args W fun e w' => e = .returned (.bool b) ∧ Below W.heap.size W w') : Asks f args (b = true) W := by
  refine h.mono ?_
  rintro e w' ⟨rfl, hk⟩
  exact askP_b Iff.rfl hk
theorem isId_any (n : Int) (w : World) : Asks 63 #[.int .u64 n] (idB n = true) w := by
  unfold Asks
  go_enter Try.func63, Try.ntmps63
  go_wp2
  all_goals go_ret
  all_goals (refine askP_b ?_ (Below.refl _ _); unfold idB; simp; omega)
theorem rid_any (n : Int) (w : World) : Asks 35 #[.int .u64 n] (idB n = true) w := by
  unfold Asks
  go_enter Try.func35, Try.ntmps35
  go_wp2
  all_goals go_ret
  all_goals (refine askP_b ?_ (Below.refl _ _); unfold idB; simp; omega)
theorem notAbove_any (c l : Int) (w : World) : Asks 89 #[.agg #[.int .u64 c, .int .i64 l]] (¬ l = 5) w := by
  unfold Asks
  go_enter Try.func89, Try.ntmps89
  go_wp2
  all_goals go_ret
  all_goals (refine askP_b ?_ ((Below.refl _ w).alloc (Nat.le_refl _) _); simp)
def spanI (lo hi : Int) : Bool := decide (lo ≤ hi) && decide (hi ≤ 2305843009213693952)
theorem numFit_any (lo hi : Int) (w : World) : Asks 109 #[.agg #[.int .u64 lo, .int .u64 hi]] (spanI lo hi = true) w := by
  unfold Asks
  go_enter Try.func109, Try.ntmps109
  go_wp2
  all_goals go_ret
  all_goals (refine askP_b ?_ ((Below.refl _ w).alloc (Nat.le_refl _) _); unfold spanI; simp; omega)
theorem rspan_any (lo hi : Int) (w : World) : Asks 74 #[.agg #[.int .u64 lo, .int .u64 hi]] (spanI lo hi = true) w := by
  unfold Asks
  go_enter Try.func74, Try.ntmps74
  go_wp2
  all_goals go_ret
  all_goals (refine askP_b ?_ ((Below.refl _ w).alloc (Nat.le_refl _) _); unfold spanI; simp; omega)
theorem span_any (lo hi : Int) (w : World) : Asks 96 #[.agg #[.int .u64 lo, .int .u64 hi]] (spanI lo hi = true) w := by
  have hB := (Below.refl w.heap.size w).alloc (Nat.le_refl _) (.cells #[.int .u64 lo, .int .u64 hi] 33)
  unfold Asks
  go_enter Try.func96, Try.ntmps96
  go_wp2_with (go_at_call 109; (with_reducible refine (numFit_any lo hi _).on ?_ ?_) <;> intro w1 hq hk)
  · go_ret
    exact askP_yes hq.out (hB.trans (hk.mono hB.size))
  · go_ret
    exact askP_no hq (hB.trans (hk.mono hB.size)) id
def noA (L : Lb) : Bool := L.all fun p => !decide (p.2 = 5)
theorem noA_iff {L : Lb} : noA L = true ↔ ∀ i, i < L.length → ¬ (L.getD i (0, 0)).2 = 5 := by
  unfold noA
  rw [List.all_eq_true]
  constructor
  · intro h i hi
    have := h L[i] (List.getElem_mem hi)
    simpa [List.getD_eq_getElem?_getD, List.getElem?_eq_getElem hi] using this
  · intro h p hp
    obtain ⟨i, hi, e⟩ := List.mem_iff_getElem.1 hp
    have := h i hi
    simpa [List.getD_eq_getElem?_getD, List.getElem?_eq_getElem hi, e] using this
theorem kept_iff {L : Lb} : keptB L = true ↔ (L.length ≤ 16 ∧ fitB L = true ∧ noA L = true) := by unfold keptB noA; simp
set_option maxRecDepth 100000 in
theorem everyP_any {w : World} {ao : Option Addr} {n cap : Nat} {L : Lb} (hL : Lab w.heap.size w ao n cap L) : Asks 88 #[.slice ao n cap, .func (.func 89) #[] #[]] (noA L = true) w := by
  have hn : Hid (L.length = n) := hL.1
  have hnc := hL.2.1
  have hcm := hL.2.2.1.1
  unfold Asks
  go_enter Try.func88, Try.ntmps88
  go_wp2
  go_loopw [9] (fun i wr => ∃ k : Nat, k ≤ n ∧ i = .int .i64 k ∧ Hid (∀ j, j < k → ¬ (L.getD j (0, 0)).2 = 5) ∧ Below w.heap.size w wr) (fun i _ => n - (intOf i).toNat)
  case atStart => exact ⟨0, Nat.zero_le _, rfl, fun j hj => absurd hj (by omega), Below.refl _ _⟩
  case round =>
    obtain ⟨k, hk, rfl, hal, hb⟩ := hrel
    have hbs := hb.size
    by_cases hkn : k < n
    · obtain ⟨b, off, x, y, rfl, hB, d0, d1, hxy⟩ := hL.at hb hkn
      have hkn' : (k : Int) < n := by omega
      have hbw : b < wr.heap.size := Nat.lt_of_lt_of_le hB hbs
      have hal1 := hb.alloc hbs (.cells #[.int .u64 x, .int .i64 y] 61)
      go_wp2_with (go_at_call 89; (with_reducible refine (notAbove_any x y _).on ?_ ?_) <;> intro w1 hq hk1)
      · go_roundw
        case rel => exact ⟨k + 1, by omega, by go_num, fun j hj => by
            rcases Nat.lt_or_ge j k with h | h
            · exact hal.out j h
            · obtain rfl : j = k := by omega
              rw [hxy.out]; exact hq.out, hal1.trans (hk1.mono hal1.size)⟩
        case measure => simp [intOf]; omega
      · go_ret
        exact askP_no hq (hal1.trans (hk1.mono hal1.size)) (fun e => by have := noA_iff.1 e k (by rw [hn.out]; exact hkn); rw [hxy.out] at this; exact this)
    · obtain rfl : k = n := by omega
      go_wp2
      go_ret
      exact askP_yes (noA_iff.2 fun i hi => hal.out i (by rw [hn.out] at hi; exact hi)) hb
theorem kept_any {w0 w : World} {ao : Option Addr} {n cap : Nat} {L : Lb} (h0 : LabD (LtN w0) w0 ao n cap L) (hk : Below w0.heap.size w0 w) : Asks 64 #[.slice ao n cap] (keptB L = true) w := by
  have hL := h0.lab' hk
  have hn : Hid (L.length = n) := hL.1
  clear h0 hk
  unfold Asks
  by_cases h16 : n ≤ 16
  · have h16' : (n : Int) ≤ 16 := by omega
    go_enter Try.func64, Try.ntmps64
    go_wp2_with (first | (go_at_call 87; (with_reducible refine (Asks.of (lfit_any hL (Nat.le_refl _))).on ?_ ?_) <;> intro w1 hq hk1) | (go_at_call 88; (with_reducible refine (everyP_any (hL.next hk1)).on ?_ ?_) <;> intro w2 hq2 hk2))
    all_goals go_ret
    · exact askP_yes (kept_iff.2 ⟨by rw [hn.out]; exact h16, hq.out, hq2.out⟩) (hk1.trans (hk2.mono hk1.size))
    · exact askP_no hq2 (hk1.trans (hk2.mono hk1.size)) (fun e => (kept_iff.1 e).2.2)
    · exact askP_no hq hk1 (fun e => (kept_iff.1 e).2.1)
  · have h16' : ¬ (n : Int) ≤ 16 := by omega
    go_enter Try.func64, Try.ntmps64
    go_wp2
    go_ret
    exact askP_no (show Hid (¬ n ≤ 16) from h16) (Below.refl _ _) (fun e => by have := (kept_iff.1 e).1; rw [hn.out] at this; exact this)
theorem rkept_any {w0 w : World} {ao : Option Addr} {n cap : Nat} {L : Lb} (h0 : LabD (LtN w0) w0 ao n cap L) (hk : Below w0.heap.size w0 w) : Asks 36 #[.slice ao n cap] (keptB L = true) w := by
  have hL := h0.lab' hk
  have hn : Hid (L.length = n) := hL.1
  have hnc := hL.2.1
  have hcm := hL.2.2.1.1
  clear h0 hk
  unfold Asks
  go_enter Try.func36, Try.ntmps36
  go_wp2
  go_loopw [3] (fun i wr => ∃ k : Nat, k ≤ n ∧ i = .int .i64 k ∧ Hid (∀ j, j < k → ¬ (L.getD j (0, 0)).2 = 5) ∧ Below w.heap.size w wr) (fun i _ => n - (intOf i).toNat)
  case atStart => exact ⟨0, Nat.zero_le _, rfl, fun j hj => absurd hj (by omega), Below.refl _ _⟩
  case round =>
    obtain ⟨k, hk, rfl, hal, hb⟩ := hrel
    have hbs := hb.size
    by_cases hkn : k < n
    · obtain ⟨b, off, x, y, rfl, hB, d0, d1, hxy⟩ := hL.at hb hkn
      have hkn' : (k : Int) < n := by omega
      by_cases hy : y = 5
      · have hq : Hid (¬ noA L = true) := by
          refine (?_ : ¬ noA L = true)
          intro e; have := noA_iff.1 e k (by rw [hn.out]; exact hkn); rw [hxy.out] at this; exact this hy
        subst hy
        go_wp2
        go_ret
        exact askP_no hq hb (fun e => (kept_iff.1 e).2.2)
      · have hy' : (y == 5) = false := by rw [beq_eq_false_iff_ne]; exact hy
        have hyh : Hid (¬ y = 5) := hy
        clear hy
        go_wp2
        go_roundw
        case rel => exact ⟨k + 1, by omega, by go_num, fun j hj => by
            rcases Nat.lt_or_ge j k with h | h
            · exact hal.out j h
            · obtain rfl : j = k := by omega
              rw [hxy.out]; exact hyh.out, hb⟩
        case measure => simp [intOf]; omega
    · obtain rfl : k = n := by omega
      have hno : Hid (noA L = true) := noA_iff.2 fun i hi => hal.out i (by rw [hn.out] at hi; exact hi)
      clear hal
      by_cases h16 : k ≤ 16
      · have h16' : (k : Int) ≤ 16 := by omega
        go_wp2_with (go_at_call 72; (with_reducible refine (Asks.of (rlfit_any (hL.later hb) hbs)).on ?_ ?_) <;> intro w1 hq hk1)
        · go_ret
          exact askP_yes (kept_iff.2 ⟨by rw [hn.out]; exact h16, hq.out, hno.out⟩) (hb.trans (hk1.mono hbs))
        · go_ret
          exact askP_no hq (hb.trans (hk1.mono hbs)) (fun e => (kept_iff.1 e).2.1)
      · have h16' : ¬ (k : Int) ≤ 16 := by omega
        go_wp2
        go_ret
        exact askP_no (show Hid (¬ k ≤ 16) from h16) hb (fun e => by have := (kept_iff.1 e).1; rw [hn.out] at this; exact this)
theorem boun_iff {l b : Lb} : bounB l b = true ↔ (keptB l = true ∧ keptB b = true ∧ leqB l b = true) := by unfold bounB; simp
theorem bounded_any {w0 w : World} {ao ao' : Option Addr} {n cap n' cap' : Nat} {L L' : Lb} (h : LabD (LtN w0) w0 ao n cap L) (h' : LabD (LtN w0) w0 ao' n' cap' L') (hk : Below w0.heap.size w0 w) : Asks 70 #[.slice ao n cap, .slice ao' n' cap'] (bounB L L' = true) w := by
  unfold Asks
  have hb0 := Below.refl w.heap.size w
  go_enter Try.func70, Try.ntmps70
  go_wp2_with (first
    | (go_at_call 64; (with_reducible refine (kept_any h hk).on ?_ ?_) <;> (intro w1 hq hk1; replace hk := hk.trans (hk1.mono hk.size); replace hb0 := hb0.trans (hk1.mono hb0.size)))
    | (go_at_call 64; (with_reducible refine (kept_any h' hk).on ?_ ?_) <;> (intro w2 hq2 hk2; replace hk := hk.trans (hk2.mono hk.size); replace hb0 := hb0.trans (hk2.mono hb0.size)))
    | (go_at_call 94; (with_reducible refine (Asks.of (lleq_any (B := 0) (h.lab' hk) (h'.lab' hk))).on ?_ ?_) <;> (intro w3 hq3 hk3; replace hb0 := hb0.trans (hk3.mono hb0.size))))
  all_goals go_ret
  · exact askP_yes (boun_iff.2 ⟨hq.out, hq2.out, hq3.out⟩) hb0
  · exact askP_no hq3 hb0 (fun e => (boun_iff.1 e).2.2)
  · exact askP_no hq2 hb0 (fun e => (boun_iff.1 e).2.1)
  · exact askP_no hq hb0 (fun e => (boun_iff.1 e).1)
end
section
open Go.RowKit Go.Shelf
set_option linter.unusedVariables false
attribute [local go_sem] Oper.semAt_some

theorem ris_iff : ∀ {l : List Int}, risB l = true ↔ ∀ i, i + 1 < l.length → l.getD i 0 < l.getD (i + 1) 0 := by
  intro l
  unfold risB
  rw [decide_eq_true_iff]
  induction l with
  | nil => simp
  | cons x l ih =>
    rw [List.pairwise_cons, ih]
    constructor
    · rintro ⟨h1, h2⟩ i hi
      cases i with
      | zero =>
        have hl : 0 < l.length := by simpa using hi
        have := h1 l[0] (List.getElem_mem hl)
        simpa [List.getD_eq_getElem?_getD, List.getElem?_eq_getElem hl] using this
      | succ i => exact h2 i (by simpa using hi)
    · intro h
      have h2 : ∀ i, i + 1 < l.length → l.getD i 0 < l.getD (i + 1) 0 := fun i hi => h (i + 1) (by simpa using hi)
      refine ⟨fun y hy => ?_, h2⟩
      obtain ⟨j, hj, rfl⟩ := List.mem_iff_getElem.1 hy
      have h0 : x < l.getD 0 0 := h 0 (by simp; omega)
      have : ∀ j, j < l.length → x < l.getD j 0 := by
        intro j
        induction j with
        | zero => intro _; exact h0
        | succ j ihj => intro hj; exact Int.lt_trans (ihj (by omega)) (h2 j hj)
      have := this j hj
      simpa [List.getD_eq_getElem?_getD, List.getElem?_eq_getElem hj] using this
def allI (l : List Int) : Bool := l.all idB
theorem allI_iff {l : List Int} : allI l = true ↔ ∀ i, i < l.length → idB (l.getD i 0) = true := by
  unfold allI
  rw [List.all_eq_true]
  constructor
  · intro h i hi
    have := h l[i] (List.getElem_mem hi)
    simpa [List.getD_eq_getElem?_getD, List.getElem?_eq_getElem hi] using this
  · intro h p hp
    obtain ⟨i, hi, e⟩ := List.mem_iff_getElem.1 hp
    have := h i hi
    simpa [List.getD_eq_getElem?_getD, List.getElem?_eq_getElem hi, e] using this
theorem fn_succ {p : Nat → Prop} {k : Nat} (h : ∀ i, i < k → p i) (hk : p k) : ∀ i, i < k + 1 → p i := fun i hi => by
  rcases Nat.lt_or_ge i k with h' | h'
  · exact h i h'
  · have : i = k := by omega
    rw [this]; exact hk
set_option maxRecDepth 100000 in
theorem everyU_any {w0 w : World} {ao : Option Addr} {n cap : Nat} {L : List Int} (h0 : CtD (LtN w0) w0 ao n cap L) (hk0 : Below w0.heap.size w0 w) : Asks 66 #[.slice ao n cap, .func (.func 63) #[] #[]] (allI L = true) w := by
  have hL := h0.ct' hk0
  clear h0 hk0
  have hn : Hid (L.length = n) := hL.1
  have hnc := hL.2.1
  have hcm := hL.2.2.1.1
  unfold Asks
  go_enter Try.func66, Try.ntmps66
  go_wp2
  go_loopw [9] (fun i wr => ∃ k : Nat, k ≤ n ∧ i = .int .i64 k ∧ Hid (∀ j, j < k → idB (L.getD j 0) = true) ∧ Below w.heap.size w wr) (fun i _ => n - (intOf i).toNat)
  case atStart => exact ⟨0, Nat.zero_le _, rfl, fun j hj => absurd hj (by omega), Below.refl _ _⟩
  case round =>
    obtain ⟨k, hk, rfl, hal, hb⟩ := hrel
    have hbs := hb.size
    by_cases hkn : k < n
    · obtain ⟨b, off, x, rfl, hB, hx, d0⟩ := (hL.laterK fun b hb' => hb.block b hb').at hkn
      have hkn' : (k : Int) < n := by omega
      go_wp2_with (go_at_call 63; (with_reducible refine (isId_any x _).on ?_ ?_) <;> intro w1 hq hk1)
      · go_roundw
        case rel => exact ⟨k + 1, by omega, by go_num, fn_succ hal.out (by rw [hx.out]; exact hq.out), hb.trans (hk1.mono hbs)⟩
        case measure => simp [intOf]; omega
      · go_ret
        exact askP_no hq (hb.trans (hk1.mono hbs)) (fun e => by have := allI_iff.1 e k (by rw [hn.out]; exact hkn); rw [hx.out] at this; exact this)
    · obtain rfl : k = n := by omega
      go_wp2
      go_ret
      exact askP_yes (allI_iff.2 fun i hi => hal.out i (by rw [hn.out] at hi; exact hi)) hb
set_option maxRecDepth 100000 in
theorem every4_any {w : World} {b o : Nat} {R : Nat → Lb} (h : Four w b o R) : Asks 95 #[.slice (some ⟨b, o, none⟩) 4 4, .func (.func 64) #[] #[]] (∀ i, i < 4 → keptB (R i) = true) w := by
  unfold Asks
  go_enter Try.func95, Try.ntmps95
  go_wp2
  go_loopw [9] (fun i wr => ∃ k : Nat, k ≤ 4 ∧ i = .int .i64 k ∧ Hid (∀ j, j < k → keptB (R j) = true) ∧ Below w.heap.size w wr) (fun i _ => 4 - (intOf i).toNat)
  case atStart => exact ⟨0, Nat.zero_le _, rfl, fun j hj => absurd hj (by omega), Below.refl _ _⟩
  case round =>
    obtain ⟨k, hk, rfl, hal, hb⟩ := hrel
    have hbs := hb.size
    by_cases hkn : k < 4
    · have hh := h.next hb
      obtain ⟨ai, ni, ci, q1, q2⟩ := hh.2 k hkn
      have hkn' : (k : Int) < 4 := by omega
      clear hh
      go_wp2_with (go_at_call 64; (with_reducible refine (kept_any q2 (Below.refl _ _)).on ?_ ?_) <;> intro w1 hq hk1)
      · go_roundw
        case rel => exact ⟨k + 1, by omega, by go_num, fn_succ hal.out hq.out, hb.trans (hk1.mono hbs)⟩
        case measure => simp [intOf]; omega
      · go_ret
        exact askP_no hq (hb.trans (hk1.mono hbs)) (fun e => e k hkn)
    · obtain rfl : k = 4 := by omega
      go_wp2
      go_ret
      exact askP_yes hal.out hb
theorem links1_any (n : Int) (w : World) : Calls Try.prog 90 #[.int .u64 n] w fun e w' => e = .returned (.int .u64 n) ∧ w' = w := by
  go_enter Try.func90, Try.ntmps90
  go_wp2
  go_ret
  exact ⟨rfl, rfl⟩
theorem links_any {w : World} {C : Array Value} {x : Ob} (h : ObD (LtN w) w C x) {ao : Option Addr} {n cap : Nat} (c5 : C[5]? = some (.slice ao n cap)) :
    Calls Try.prog 67 #[.agg C] w fun e w' => e = .returned (.agg #[.slice ao n cap, .func (.func 90) #[] #[]]) ∧ Below w.heap.size w w' := by
  go_enter Try.func67, Try.ntmps67
  go_wp2_with (first
    | (with_reducible refine wpList_box rfl _ _ rfl C rfl ?_; intro B W hB hb hk; have q6 := fun o => cellLater ((hb.cell 5).trans c5) o))
  refine bodyPost_ret (v := .agg #[.slice ao n cap, .func (.func 90) #[] #[]]) (by simp [results, Try.f67, go_sem]) rfl ?_
  exact ⟨rfl, hk.alloc hk.size _⟩
set_option maxRecDepth 100000 in
theorem risesU_any {w : World} {ao : Option Addr} {n cap : Nat} {L : List Int} (hL : CtD (LtN w) w ao n cap L) : Asks 68 #[.agg #[.slice ao n cap, .func (.func 90) #[] #[]]] (risB L = true) w := by
  have hn : Hid (L.length = n) := hL.1
  have hnc := hL.2.1
  have hcm := hL.2.2.1.1
  unfold Asks
  go_enter Try.func68, Try.ntmps68
  go_wp2
  have hA := (Below.refl w.heap.size w).alloc (Nat.le_refl _) (.cells #[.slice ao n cap, .func (.func 90) #[] #[]] 85)
  have hBk := Blk.new w #[.slice ao n cap, .func (.func 90) #[] #[]] 85
  generalize w.alloc (.cells #[.slice ao n cap, .func (.func 90) #[] #[]] 85) = W0 at hA hBk ⊢
  obtain ⟨B, hB⟩ : ∃ B, w.heap.size = B := ⟨_, rfl⟩
  have hBh : Hid (w.heap.size = B) := hB
  rw [hB] at hBk hA ⊢
  clear hB
  go_loopw [3] (fun i wr => ∃ k : Nat, 1 ≤ k ∧ (k ≤ n ∨ k = 1) ∧ i = .int .i64 k ∧ Hid (∀ j, j + 1 < k → L.getD j 0 < L.getD (j + 1) 0) ∧ Blk wr B #[.slice ao n cap, .func (.func 90) #[] #[]] 85 ∧ Below B w wr) (fun i _ => n - (intOf i).toNat)
  case atStart => exact ⟨1, Nat.le_refl _, .inr rfl, rfl, fun j hj => absurd hj (by omega), hBk, hA⟩
  case round =>
    obtain ⟨k, hk1, hkn1, rfl, hal, hbk, hb⟩ := hrel
    have e0 := (hbk.cell 0).trans (show _ = some (.slice ao n cap) from rfl)
    have e1 := (hbk.cell 1).trans (show _ = some (.func (.func 90) #[] #[]) from rfl)
    by_cases hkn : k < n
    · obtain ⟨j, hj⟩ : ∃ j, Hid (k = j + 1) := ⟨k - 1, by show _ = _; omega⟩
      have hw : IntKind.i64.wrap ((k : Int) - 1) = (j : Int) := by have := hj.out; rw [IntKind.wrap_i64]; omega
      have hjn : j < n := by have := hj.out; omega
      have hjn' : (j : Int) < n := by omega
      have hkn' : (k : Int) < n := by omega
      have hLw := hL.laterK fun b hb' => hb.block b (by rw [← hBh.out]; exact hb')
      obtain ⟨b, off, x, rfl, hbb, hx, d0⟩ := hLw.at hjn
      obtain ⟨b', off', y, e', hbb', hy, d1⟩ := hLw.at hkn
      cases e'
      clear hLw
      by_cases hxy : x < y
      · have hal2 : Hid (∀ i, i + 1 < k + 1 → L.getD i 0 < L.getD (i + 1) 0) := by
          refine (?_ : ∀ i, i + 1 < k + 1 → L.getD i 0 < L.getD (i + 1) 0)
          intro i hi
          rcases Nat.lt_or_ge (i + 1) k with h | h
          · exact hal.out i h
          · have hij : i = j := by have := hj.out; omega
            rw [hij, hx.out, ← hj.out, hy.out]; exact hxy
        have hd : ¬ (y ≤ x) := by omega
        have hd' : decide (y ≤ x) = false := decide_eq_false hd
        go_wp2
        go_quiet (first | (go_at_call 90; refine Calls.quiet_of_same (links1_any _ _)))
        go_wp2
        go_roundw
        case rel => exact ⟨k + 1, by omega, .inl (by omega), by go_num, hal2, hbk.next (PgM.below_drewN (Below.refl _ _) _), PgM.below_drewN hb _⟩
        case measure => simp [intOf]; omega
      · have hq : Hid (¬ risB L = true) := by
          refine (?_ : ¬ risB L = true)
          intro e
          have := ris_iff.1 e j (by rw [hn.out, ← hj.out]; exact hkn)
          rw [hx.out, ← hj.out, hy.out] at this
          exact hxy this
        have hd : y ≤ x := by omega
        have hd' : decide (y ≤ x) = true := decide_eq_true hd
        go_wp2
        go_quiet (first | (go_at_call 90; refine Calls.quiet_of_same (links1_any _ _)))
        go_wp2
        go_ret
        exact askP_no hq (by rw [hBh.out]; exact PgM.below_drewN hb _) id
    · have hkn' : ¬ (k : Int) < n := by omega
      go_wp2
      go_ret
      exact askP_yes (ris_iff.2 fun i hi => hal.out i (by rw [hn.out] at hi; omega)) (by rw [hBh.out]; exact hb)
end
end Go.Proofs.Ytfpmkihlfhpgdaa
