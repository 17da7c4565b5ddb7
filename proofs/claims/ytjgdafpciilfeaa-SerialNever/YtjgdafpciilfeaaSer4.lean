/-
  PROVED HERE: what serial's Split and Has return when they are called, and the laws' own example (contracts over this translation). The numbers are fit.
-/
import Derived.Test.YtjgdafpciilfeaaSer3
import Derived.Deep.QuietTactic
import Derived.BigQuiet
namespace Go.Proofs.Ytjgdafpciilfeaa
open Go.ChangeShapes Go.WideShapes Go.ChangeAt Go.RowKit
set_option linter.unusedVariables false

set_option maxHeartbeats 1000000 in
theorem split_some {a b c : Nat} (hab : a ≤ b) (hb : b ≤ 2305843009213693952) (hs : 0 < share a b) (hc : Hid (b - share a b = c)) (w : World) :
    Calls Try.prog 9 #[.agg #[.int .u64 (a : Int), .int .u64 (b : Int)]] w fun e w' => e = .returned (.tuple #[.agg #[.int .u64 (a : Int), .int .u64 (c : Int)], .agg #[.int .u64 (c : Int), .int .u64 (b : Int)], .int .i64 0]) ∧ Below w.heap.size w w' := by
  have hv : ltB 0 (share a b) = true := decide_eq_true hs
  have hG := giver2_new w a b
  clear hs
  go_enter Try.func9, Try.ntmps9
  go_upto_region 2 with fail
  obtain ⟨w3, hw3⟩ : ∃ w3, Hid ((((w.alloc (.cells #[.int .u64 (a : Int), .int .u64 (b : Int)] 24)).alloc (.cells #[.int .u64 0, .int .u64 0] 24)).alloc (.cells #[.int .u64 0, .int .u64 0] 24)).alloc (.cells #[.int .u64 (a : Int), .int .u64 (b : Int)] 43) = w3) := ⟨_, rfl⟩
  rw [hw3.out] at hG ⊢
  clear hw3
  go_upto_region 6 with (first | (go_at_call 14; refine (askedD_any hab (by omega) hG.g true hv).mono ?_; rintro e w1 ⟨rfl, hb⟩; replace hG := hG.next hb; clear hb) | (go_at_call 18; refine (part_raw hab hb hc hG.g).mono ?_; rintro e w2 ⟨rfl, hg2, hk2, hB2⟩))
  have hlt := hG.g.lt
  have hsz := hB2.size
  have r2 : Two w2 (w.heap.size + 1) 24 (.int .u64 0) (.int .u64 0) := (hk2 _ (by omega) (by omega)).trans hG.r
  have t2 : Two w2 (w.heap.size + 1 + 1) 24 (.int .u64 0) (.int .u64 0) := (hk2 _ (by omega) (by omega)).trans hG.t
  have b2 : Below w.heap.size w w2 := hG.bel.trans (hB2.mono (by omega))
  have g3 := hg2.alloc (.cells #[.int .u64 (c : Int), .int .u64 (b : Int)] 24)
  have r3 := r2.alloc (.cells #[.int .u64 (c : Int), .int .u64 (b : Int)] 24)
  have t3 := t2.alloc (.cells #[.int .u64 (c : Int), .int .u64 (b : Int)] 24)
  have v3 := Two.new w2 24 (.int .u64 (c : Int)) (.int .u64 (b : Int))
  have b3 := b2.alloc (by omega) (.cells #[.int .u64 (c : Int), .int .u64 (b : Int)] 24)
  obtain ⟨W, hW⟩ : ∃ W, Hid (w2.alloc (.cells #[.int .u64 (c : Int), .int .u64 (b : Int)] 24) = W) := ⟨_, rfl⟩
  rw [hW.out] at g3 r3 t3 v3 b3 ⊢
  clear hW r2 t2 b2 hG hk2 hB2 hg2
  have s0 := g3.cell0
  have s1 := g3.cell1
  have v0 := v3.cell0
  have v1 := v3.cell1
  have r0 := r3.cell0
  have r1 := r3.cell1
  have r2 := r3.frozen0 0
  have r4 := r3.frozen0 1
  have u0 := t3.cell0
  have u1 := t3.cell1
  have u2 := t3.frozen0 0
  have u3 := t3.frozen0 1
  have q := two_over2 (B := w.heap.size + 1 + 1) (x := .int .u64 (c : Int)) (y := .int .u64 (b : Int)) (two_over (x := .int .u64 (a : Int)) (y := .int .u64 (c : Int)) r3) (by omega)
  have q' := two_over (x := .int .u64 (c : Int)) (y := .int .u64 (b : Int)) (two_over2 (B := w.heap.size + 1) (x := .int .u64 (a : Int)) (y := .int .u64 (c : Int)) t3 (by omega))
  have qb := below_over (below_over b3 (B := w.heap.size + 1) (by omega) (.int .u64 (a : Int)) (.int .u64 (c : Int))) (B := w.heap.size + 1 + 1) (by omega) (.int .u64 (c : Int)) (.int .u64 (b : Int))
  have e0 := q.cell0
  have e1 := q.cell1
  have e2 := q'.cell0
  have e3 := q'.cell1
  clear q q' g3 r3 t3 v3 b3
  have n1 : w2.heap.size ≠ w.heap.size + 1 := by omega
  have n2 : w2.heap.size ≠ w.heap.size + 1 + 1 := by omega
  go_region
  all_goals
    go_wp2
    exact bodyPost_ret (v := .tuple #[.agg #[.int .u64 (a : Int), .int .u64 (c : Int)], .agg #[.int .u64 (c : Int), .int .u64 (b : Int)], .int .i64 0]) (by simp [results, Try.f9, go_sem, e0, e1, e2, e3]) rfl ⟨rfl, qb.drew⟩
theorem below_drewN {n : Nat} {w W : World} (h : Below n w W) (k : Nat) : Below n w (W.drewN k) := h.trans ⟨rfl, rfl, rfl, Nat.le_refl _, fun _ _ => rfl⟩
def hasK (k a b m : Nat) : Bool := (decide (1 ≤ m) && decide (m ≤ 2305843009213693952)) && hasB a b (Pm.numN k m)
set_option maxHeartbeats 1000000 in
theorem Has_any {k a b m : Nat} (hm : m < 18446744073709551616) (w : World) :
    Calls Try.prog 12 #[.int .u64 (k : Int), .agg #[.int .u64 (a : Int), .int .u64 (b : Int)], .int .u64 (m : Int)] w fun e w' => e = .returned (.bool (hasK k a b m)) ∧ Below w.heap.size w w' := by
  have hB := (Below.refl w.heap.size w).alloc (Nat.le_refl _) (.cells #[.int .u64 (a : Int), .int .u64 (b : Int)] 24)
  have hT := Two.new w 24 (.int .u64 (a : Int)) (.int .u64 (b : Int))
  have hn := fun w => num_any (key := k) hm w
  have hr : Hid (hasK k a b m = ((decide (1 ≤ m) && decide (m ≤ 2305843009213693952)) && hasB a b (Pm.numN k m))) := rfl
  obtain ⟨y, hy⟩ : ∃ y, Hid (Pm.numN k m = y) := ⟨_, rfl⟩
  rw [hy.out] at hr
  simp only [hy.out] at hn
  go_enter Try.func12, Try.ntmps12
  go_upto_region 1 with fail
  obtain ⟨W, hW⟩ : ∃ W, Hid (w.alloc (.cells #[.int .u64 (a : Int), .int .u64 (b : Int)] 24) = W) := ⟨_, rfl⟩
  rw [hW.out] at hT hB ⊢
  clear hW
  have d0 := hT.cell0
  have d1 := hT.cell1
  by_cases h1 : 1 ≤ m
  · have v1 : decide ((1 : Int) ≤ (m : Int)) = true := decide_eq_true (by omega)
    by_cases h2 : m ≤ 2305843009213693952
    · have e : Hid (hasK k a b m = hasB a b y) := by show _ = _; rw [hr.out, decide_eq_true h1, decide_eq_true h2]; rfl
      have v2 : decide ((m : Int) ≤ 2305843009213693952) = true := decide_eq_true (by omega)
      clear hr h1 h2
      go_region_held3 (fun w' => w'.cell? ⟨w.heap.size, 0, none⟩ = some (.int .u64 (a : Int)) ∧ w'.cell? ⟨w.heap.size, 1, none⟩ = some (.int .u64 (b : Int))) (go_keep) (first | (go_at_call 22; refine (hn _).mono ?_; rintro e w1 ⟨rfl, hb1⟩; have hb2 : Below W.heap.size W w1 := (Below.refl _ W).drew.trans hb1; have c0 := (hT.next hb2).cell0; have c1 := (hT.next hb2).cell1) | (go_at_call 21; refine (has_any _ _ _ _).mono ?_; rintro e w2 ⟨rfl, hb3⟩; have z0 := ((hT.next hb2).next hb3).cell0; have z1 := ((hT.next hb2).next hb3).cell1))
      go_wp2
      go_ret
      exact ⟨by rw [e.out]; rfl, (hB.trans (hb2.mono hB.size)).trans (hb3.mono (Nat.le_trans hB.size hb2.size))⟩
    · have e : Hid (hasK k a b m = false) := by show _ = _; rw [hr.out, decide_eq_true h1, decide_eq_false h2]; rfl
      have v2 : decide ((m : Int) ≤ 2305843009213693952) = false := decide_eq_false (by omega)
      clear hr h1 h2
      go_quiet (fail)
      go_wp2
      go_ret
      exact ⟨by rw [e.out]; rfl, below_drewN hB _⟩
  · have e : Hid (hasK k a b m = false) := by show _ = _; rw [hr.out, decide_eq_false h1]; rfl
    have v1 : decide ((1 : Int) ≤ (m : Int)) = false := decide_eq_false (by omega)
    clear hr h1
    go_quiet (fail)
    go_wp2
    go_ret
    exact ⟨by rw [e.out]; rfl, below_drewN hB _⟩
theorem awake7_any (w : World) :
    Calls Try.prog 7 #[] w fun e w' => e = .returned (.bool true) ∧ Below w.heap.size w w' := by
  have hB := Below.refl w.heap.size w
  have h1 := fun w => take_some (a := 3) (b := 5) (by omega) (by omega) w
  have h2 := fun w => split_some (a := 0) (b := 32) (c := 30) (by omega) (by omega) (by decide) (show 32 - share 0 32 = 30 by decide) w
  go_enter Try.func7, Try.ntmps7
  go_upto_region 1 with fail
  go_upto_region 2 with (go_at_call 8; refine (h1 _).mono ?_; rintro e w1 ⟨rfl, hb1⟩)
  have hA := Two.new w1 24 (.int .u64 4) (.int .u64 5)
  have hB1 : Below w.heap.size w (w1.alloc (.cells #[.int .u64 4, .int .u64 5] 24)) := hb1.alloc hb1.size _
  obtain ⟨W, hW⟩ : ∃ W, Hid (w1.alloc (.cells #[.int .u64 4, .int .u64 5] 24) = W) := ⟨_, rfl⟩
  rw [hW.out] at hA hB1 ⊢
  clear hW
  go_upto_region 3 with (go_at_call 9; refine (h2 _).mono ?_; rintro e w2 ⟨rfl, hb2⟩)
  have hA3 := ((hA.next hb2).alloc (.cells #[.int .u64 0, .int .u64 30] 24)).alloc (.cells #[.int .u64 30, .int .u64 32] 24)
  have hB3 : Below w.heap.size w ((w2.alloc (.cells #[.int .u64 0, .int .u64 30] 24)).alloc (.cells #[.int .u64 30, .int .u64 32] 24)) := ((hB1.trans (hb2.mono hB1.size)).alloc (Nat.le_trans hB1.size hb2.size) _).alloc (by have := hB1.size; have := hb2.size; simp; omega) _
  have a0 := hA3.cell0
  have a1 := hA3.cell1
  clear hA hA3
  go_wp2
  go_ret
  exact ⟨rfl, hB3⟩
end Go.Proofs.Ytjgdafpciilfeaa
