/-
  PROVED HERE: what the iterator of package intern over the places that are asked for hands out, for every loop body (a contract over this translation). No condition.
-/
import Derived.Test.YtjkncajcmdlmgaaItn2
import Derived.Test.YtjkncajcmdlmgaaLabFold
import Derived.Test.YtjkncajcmdlmgaaLabIter
namespace Go.Proofs.Ytjkncajcmdlmgaa
open Go.RowKit Go.Shelf
set_option linter.unusedVariables false
attribute [local go_sem] Oper.semAt_some

/-- The places among the first k that are asked for, rising. -/
def askK (Z : Zt) (k : Nat) : List Nat := (List.range k).filter fun i => !decide ((zat Z i).2 = 0)
def askd (Z : Zt) : List Nat := askK Z Z.length
theorem askK_hit {Z : Zt} {k : Nat} (h : ¬ (zat Z k).2 = 0) : askK Z (k + 1) = askK Z k ++ [k] := by
  unfold askK; rw [List.range_succ, List.filter_append]; simp [h]
theorem askK_miss {Z : Zt} {k : Nat} (h : (zat Z k).2 = 0) : askK Z (k + 1) = askK Z k := by
  unfold askK; rw [List.range_succ, List.filter_append]; simp [h]
theorem askK_pre {Z : Zt} {j k : Nat} (h : j ≤ k) : askK Z j <+: askK Z k := by
  induction k with
  | zero => have : j = 0 := by omega
            subst this; exact List.prefix_refl _
  | succ k ih =>
    by_cases hj : j = k + 1
    · subst hj; exact List.prefix_refl _
    · refine (ih (by omega)).trans ?_
      by_cases hz : (zat Z k).2 = 0
      · rw [askK_miss hz]; exact List.prefix_refl _
      · rw [askK_hit hz]; exact List.prefix_append _ _
theorem askd_mem {Z : Zt} {j : Nat} : j ∈ askd Z ↔ j < Z.length ∧ (zat Z j).2 ≠ 0 := by
  unfold askd askK; simp
theorem askd_split {Z : Zt} {pre : List Nat} {x : Nat} (h : pre ++ [x] <+: askd Z) : x < Z.length ∧ (zat Z x).2 ≠ 0 ∧ (∀ j, j < x → (zat Z j).2 ≠ 0 → j ∈ pre) ∧ ∀ j ∈ pre, j < x := by
  obtain ⟨t, ht⟩ := h
  have hs : (askd Z).Pairwise (· < ·) := List.Pairwise.filter _ List.pairwise_lt_range
  rw [← ht, List.append_assoc] at hs
  obtain ⟨h1, h2, h3⟩ := List.pairwise_append.1 hs
  have hx : x ∈ askd Z := by rw [← ht]; simp
  obtain ⟨q1, q2⟩ := askd_mem.1 hx
  refine ⟨q1, q2, fun j hj hc => ?_, fun j hj => h3 j hj x (by simp)⟩
  have hm : j ∈ askd Z := askd_mem.2 ⟨by omega, hc⟩
  rw [← ht] at hm
  simp only [List.append_assoc, List.mem_append, List.mem_singleton] at hm
  rcases hm with hm | hm | hm
  · exact hm
  · omega
  · have := (List.pairwise_cons.1 h2).1 j hm; omega

/-- A label's place in memory, as a slice. -/
abbrev Sr := Option Addr × (Nat × Nat)
def slV (s : Sr) : Value := .slice s.1 s.2.1 s.2.2
def encA (r : Nat → Sr) (i : Nat) : Array Value := #[.int .i64 i, .slice (r i).1 (r i).2.1 (r i).2.2]
/-- r tells where the labels of a table's places lie. -/
def Lie (D : Nat → Prop) (w : World) (a : Option Addr) (n : Nat) (Z : Zt) (r : Nat → Sr) : Prop :=
  (∀ i, LabD D w (r i).1 (r i).2.1 (r i).2.2 (zat Z i).1) ∧ ∀ b off, a = some ⟨b, off, none⟩ → ∀ i, i < n → w.cell? ⟨b, off + i, none⟩ = some (.slice (r i).1 (r i).2.1 (r i).2.2)
theorem TabD.lie {D : Nat → Prop} {w : World} {a a' : Option Addr} {n c c' : Nat} {Z : Zt} (h : TabD D w a n c a' n c' (Z.map (·.1)) (Z.map (·.2))) : ∃ r, Lie D w a n Z r := by
  have key : ∀ i, ∃ s : Sr, LabD D w s.1 s.2.1 s.2.2 (zat Z i).1 ∧ (i < n → ∀ b off, a = some ⟨b, off, none⟩ → w.cell? ⟨b, off + i, none⟩ = some (.slice s.1 s.2.1 s.2.2)) := by
    intro i
    by_cases hi : i < n
    · obtain ⟨b, off, b', off', ai, ki, ci, e, _, _, _, q1, _, q2⟩ := h.at hi
      refine ⟨(ai, ki, ci), q2, fun _ b2 off2 e2 => ?_⟩
      rw [e] at e2
      cases e2
      exact q1
    · have hl : Z.length = n := by have := h.1.1; simpa using this
      refine ⟨(none, 0, 0), ?_, fun h => absurd h hi⟩
      rw [zat_out (by omega)]
      exact ⟨rfl, Nat.le_refl _, ⟨by show (0 : Nat) ≤ _; omega, fun _ => rfl⟩, fun h => absurd h (by show ¬ (0 < (0 : Nat)); omega)⟩
  refine ⟨fun i => Classical.choose (key i), fun i => (Classical.choose_spec (key i)).1, fun b off e i hi => (Classical.choose_spec (key i)).2 hi b off e⟩
theorem Lie.later {D : Nat → Prop} {w w' : World} {a : Option Addr} {n : Nat} {Z : Zt} {r : Nat → Sr} (h : Lie D w a n Z r) (k : Keeps D w w') (hD : ∀ b off, a = some ⟨b, off, none⟩ → 0 < n → D b) : Lie D w' a n Z r :=
  ⟨fun i => (h.1 i).later k, fun b off e i hi => (cellK k (hD b off e (by omega))).trans (h.2 b off e i hi)⟩

set_option maxRecDepth 100000 in
set_option maxHeartbeats 1000000 in
theorem asked1_in (N : Nat) (hn : 1 ≤ N) (l Bt : Nat) (D : Nat → Prop) {a a' : Option Addr} {n c c' : Nat} {Z : Zt} (r : Nat → Sr) (J Jx : List Nat → World → Prop)
    (hY : ∀ pre x W, J pre W → pre.length < (askd Z).length → YieldAt Fence.wide (N - 1) Try.prog l (encA r x) W fun e W' =>
      (e = .returned (.bool true) ∧ J (pre ++ [x]) W' ∧ Keeps D W W') ∨ (e = .returned (.bool false) ∧ Jx (pre ++ [x]) W'))
    (W : World) (hJ : AbidesFrom W.heap.size J) (hD : ∀ b, D b → b < W.heap.size) (hDt : D Bt) (hBt : Two W Bt 27 (.slice a n c) (.slice a' n c'))
    (hT : TabD D W a n c a' n c' (Z.map (·.1)) (Z.map (·.2))) (hr : Lie D W a n Z r) (h0 : J [] W) :
    CallsIn Fence.wide N Try.prog 28 #[.func (.yield l) #[] #[], .pointer (some ⟨Bt, 0, none⟩)] W fun e W' => (∃ v, e = .returned v) ∧
      ((∃ ys, ys = askd Z ∧ J ys W') ∨ (∃ pre, pre <+: askd Z ∧ Jx pre W')) := by
  have hl : Z.length = n := by have := hT.1.1; simpa using this
  have hcm := hT.2.2.2.1.1
  have hnc := hT.2.2.1
  have c0 := hBt.cell0
  have c1 := hBt.cell1
  refine callsIn_of_wp Try.func28 rfl trivial ?_ rfl
  simp only [Try.ntmps28, List.size_toArray, List.length_cons, List.length_nil, Nat.reduceAdd, Nat.reduceSub, Array.replicate_succ, Array.replicate_zero, List.push_toArray, List.append_toArray, List.nil_append, List.cons_append]
  gi_wp2_with (refine ⟨trivial, ?_⟩; gi_at_call 11; refine (callsIn_wide.2 (places_any _ _ _ _ _ _ (by omega))).mono ?_; rintro e w1 ⟨rfl, hb1⟩)
  gi_loopw [6] (fun i wr => ∃ k : Nat, k ≤ n ∧ i = .int .i64 k ∧ Keeps D W wr ∧ J (askK Z k) wr) (fun i _ => n - (intOf i).toNat)
  case atStart => exact ⟨0, Nat.zero_le _, rfl, ⟨hb1.size, fun b hb => hb1.block b (hD b hb)⟩, hJ _ W _ none h0 (below_grown hb1) (fun r e => by cases e)⟩
  case round =>
    obtain ⟨k, hk, rfl, hkp, hJk⟩ := hrel
    by_cases hkn : k < n
    · obtain ⟨b, off, b', off', ai, ki, ci, rfl, rfl, hB, hB', q0, q3, q2⟩ := TabD.at (hT.later hkp) hkn
      clear q0 q2
      have q1 := (cellK (off := off + k) hkp hB).trans (hr.2 b off rfl k hkn)
      obtain ⟨y, hy⟩ : ∃ y, Hid ((zat Z k).2 = y) := ⟨_, rfl⟩
      rw [hy.out] at q3
      have d0 := (cellK (off := 0) hkp hDt).trans c0
      have d1 := (cellK (off := 1) hkp hDt).trans c1
      have hkn' : (k : Int) < n := by omega
      have hnk : ∀ w', Keeps D wr w' → ∀ b, D b → b < w'.heap.size := fun w' h b hb => Nat.lt_of_lt_of_le (hD b hb) (Nat.le_trans hkp.1 h.1)
      by_cases hy0 : y = 0
      · subst hy0
        gi_wp2
        refine ⟨fun f e => (by cases e), ?_⟩
        gi_wp2
        go_roundw
        case rel => exact ⟨k + 1, by omega, by go_num, hkp, by rw [askK_miss hy.out]; exact hJk⟩
        case measure => simp [intOf]; omega
      · have hy1 : (y == 0) = false := by simpa using hy0
        have hys : ¬ (zat Z k).2 = 0 := by rw [hy.out]; exact hy0
        gi_wp2
        obtain ⟨fn, tmps, assign, body, hyy, hR⟩ := hY (askK Z k) k wr hJk (by
          have h1 := (askK_pre (Z := Z) (j := k + 1) (k := Z.length) (by omega)).length_le
          rw [askK_hit hys] at h1
          simp at h1
          unfold askd; omega)
        dsimp only [encA] at hyy
        rw [hyy]
        gi_wp2
        refine hR.mono ?_
        rintro e W3 (⟨rfl, hJ3, hk3⟩ | ⟨rfl, hJx3⟩)
        · gi_wp2
          go_roundw
          case rel => exact ⟨k + 1, by omega, by go_num, hkp.trans hk3, by rw [askK_hit hys]; exact hJ3⟩
          case measure => simp [intOf]; omega
        · gi_wp2
          refine bodyPost_ret (results_none rfl _ _ _) rfl ?_
          exact ⟨⟨_, rfl⟩, .inr ⟨_, by have h1 := askK_pre (Z := Z) (j := k + 1) (k := Z.length) (by omega); rw [askK_hit hys] at h1; exact h1, hJx3⟩⟩
    · obtain rfl : k = n := by omega
      gi_wp2
      go_end0
      exact ⟨⟨_, rfl⟩, .inl ⟨_, rfl, by unfold askd; rw [hl]; exact hJk⟩⟩
theorem asked_any (a a' : Option Addr) (n n' c c' : Nat) (w : World) :
    Calls Try.prog 24 #[.agg #[.slice a n c, .slice a' n' c']] w fun e w' => e = .returned (.func (.func 28) #[] #[.pointer (some ⟨w.heap.size, 0, none⟩)]) ∧
      w' = w.alloc (.cells #[.slice a n c, .slice a' n' c'] 27) := by
  go_enter Try.func24, Try.ntmps24
  go_wp2
  go_ret
  exact ⟨rfl, rfl⟩
theorem asked_stops (N : Nat) (hn : 1 ≤ N) (Bt : Nat) (D : Nat → Prop) {a a' : Option Addr} {n c c' : Nat} {Z : Zt} (r : Nat → Sr) (w : World) (hD : ∀ b, D b → b < w.heap.size) (hDt : D Bt) (hBt : Two w Bt 27 (.slice a n c) (.slice a' n c'))
    (hT : TabD D w a n c a' n c' (Z.map (·.1)) (Z.map (·.2))) (hr : Lie D w a n Z r) :
    SeqStopsK Fence.wide N Try.prog 28 #[.pointer (some ⟨Bt, 0, none⟩)] (encA r) (Keeps D) (fun ys => ys = askd Z) (fun pre => pre <+: askd Z) (askd Z).length w := fun l J Jx W hW hJ _ hY h0 =>
  have hk : Keeps D w W := ⟨hW.size, fun b hb => hW.block b (hD b hb)⟩
  asked1_in N hn l Bt D r J Jx hY W hJ (fun b hb => Nat.lt_of_lt_of_le (hD b hb) hW.size) hDt ((hW.block Bt (hD Bt hDt)).trans hBt) (hT.later hk)
    (hr.later hk (fun b off e hp => by obtain ⟨b2, off2, e2, hb2, _⟩ := hT.1.2.2.2 hp; rw [e] at e2; cases e2; exact hb2)) h0
end Go.Proofs.Ytjkncajcmdlmgaa
