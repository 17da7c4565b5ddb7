/-
  PROVED HERE: what there, Get, Used and Same of the document's layer 5 return when they are called (contracts over this translation). No condition.
-/
import Derived.Test.YtdljoapbeelgiaaItn7
import Derived.Deep.RegionHeld3
namespace Go.Proofs.Ytdljoapbeelgiaa
open Go.ChangeShapes Go.WideShapes Go.ChangeAt Go.RowKit
set_option linter.unusedVariables false

theorem bx_cells {w wr : World} {u v : Value} (hb : Below (w.heap.size + 1) (w.alloc (.cells #[u, v] 25)) wr) : wr.cell? ⟨w.heap.size, 0, none⟩ = some u ∧ wr.cell? ⟨w.heap.size, 1, none⟩ = some v :=
  ⟨(hb.cell (p := ⟨w.heap.size, 0, none⟩) (by show w.heap.size < w.heap.size + 1; omega)).trans (by simp), (hb.cell (p := ⟨w.heap.size, 1, none⟩) (by show w.heap.size < w.heap.size + 1; omega)).trans (by simp)⟩
theorem bx_below {w wr : World} {u v : Value} (hb : Below (w.heap.size + 1) (w.alloc (.cells #[u, v] 25)) wr) : Below w.heap.size w wr := ((Below.refl _ w).alloc (Nat.le_refl _) _).trans (hb.mono (by omega))
theorem there_any {w : World} {a a' : Option Addr} {n c c' : Nat} {Z : Zt} (x : Int) (hT : Tab w a n c a' c' Z) :
    Calls Try.prog 35 #[.agg #[.slice a n c, .slice a' n c'], .int .i64 x] w fun e w' => e = .returned (.bool (asksB Z x)) ∧ Below w.heap.size w w' := by
  have hl := hT.len
  have hcm := hT.2.2.2.1.1
  have hnc := hT.2.2.1
  have hb0 : Below w.heap.size w (w.alloc (.cells #[.slice a n c, .slice a' n c'] 25)) := (Below.refl _ w).alloc (Nat.le_refl _) _
  by_cases h0 : 0 ≤ x
  · obtain ⟨m, rfl⟩ : ∃ m : Nat, x = m := ⟨x.toNat, by omega⟩
    by_cases h1 : (m : Int) < n
    · obtain ⟨b, off, b', off', ai, ki, ci, rfl, rfl, hB, hB', q1, q3, q2⟩ := TabD.at hT (i := m) (by omega)
      obtain ⟨y, hy⟩ : ∃ y, Hid ((zat Z m).2 = y) := ⟨_, rfl⟩
      rw [hy.out] at q3
      have hr : asksB Z (m : Int) = !decide (y = 0) := by
        unfold asksB; rw [show ((m : Int)).toNat = m from rfl, hy.out]; simp; omega
      rw [hr]
      have q4 := (hb0.cell (p := ⟨b', off' + m, none⟩) hB').trans q3
      clear hT q1 q2
      by_cases hy0 : y = 0
      · subst hy0
        go_enter Try.func35, Try.ntmps35
        go_wp2
        go_ret
        exact ⟨rfl, hb0⟩
      · have hy1 : (y == 0) = false := by simpa using hy0
        go_enter Try.func35, Try.ntmps35
        go_wp2
        go_ret
        exact ⟨by simp [hy0], hb0⟩
    · have hr : asksB Z (m : Int) = false := by unfold asksB; rw [hl, decide_eq_false h1]; simp
      rw [hr]
      clear hT
      go_enter Try.func35, Try.ntmps35
      go_wp2
      go_ret
      exact ⟨rfl, hb0⟩
  · have hr : asksB Z x = false := by unfold asksB; rw [decide_eq_false h0]; rfl
    rw [hr]
    clear hT
    go_enter Try.func35, Try.ntmps35
    go_wp2
    go_ret
    exact ⟨rfl, hb0⟩
theorem rtget_any {w : World} {a a' : Option Addr} {n c c' : Nat} {Z : Zt} (x : Int) (hT : Tab w a n c a' c' Z) :
    Calls Try.prog 17 #[.agg #[.slice a n c, .slice a' n c'], .int .i64 x] w fun e w' => ∃ ao k cap, e = .returned (.tuple #[.slice ao k cap, .int .i64 (getR Z x).2]) ∧ Lab w'.heap.size w' ao k cap (getR Z x).1 ∧ Below w.heap.size w w' := by
  have hl := hT.len
  have hnc1 := hT.1.2.1
  have hcm1 := hT.1.2.2.1.1
  have hb0 : Below w.heap.size w (w.alloc (.cells #[.slice a n c, .slice a' n c'] 25)) := (Below.refl _ w).alloc (Nat.le_refl _) _
  have hT0 := hT.next hb0
  cases hk : asksB Z x with
  | false =>
    have hg : getR Z x = ([], 1) := by unfold getR; rw [hk]; rfl
    rw [hg]
    clear hT
    go_enter Try.func17, Try.ntmps17
    go_wp2_with (go_at_call 35; refine (there_any x hT0).mono ?_; rintro e w1 ⟨rfl, hb1⟩; rw [hk])
    go_ret2
    exact ⟨_, _, _, rfl, Lab.nil _ _, hb0.trans (hb1.mono hb0.size)⟩
  | true =>
    have hg : getR Z x = ((zat Z x.toNat).1, 0) := by unfold getR; rw [hk]; rfl
    rw [hg]
    have hk' := hk
    unfold asksB at hk'
    simp only [Bool.and_eq_true, decide_eq_true_iff] at hk'
    obtain ⟨h0, h1, h2⟩ := hk'
    obtain ⟨m, rfl⟩ : ∃ m : Nat, x = m := ⟨x.toNat, by omega⟩
    have hmn : (m : Int) < n := by omega
    obtain ⟨b, off, b', off', ai, ki, ci, rfl, rfl, hB, hB', q1, q3, q2⟩ := TabD.at hT0 (i := m) (by omega)
    have HQ : Hid (LabD _ _ ai ki ci (zat Z m).1) := q2
    clear hT h2 q2 q3
    go_enter Try.func17, Try.ntmps17
    go_wp2_with (go_at_call 35; refine (there_any (m : Int) hT0).mono ?_; rintro e w1 ⟨rfl, hb1⟩; rw [hk]; have d0 := (hb1.cell (p := ⟨w.heap.size, 0, none⟩) (by simp)).trans (show (w.alloc (.cells #[.slice (some ⟨b, off, none⟩) n c, .slice (some ⟨b', off', none⟩) n c'] 25)).cell? ⟨w.heap.size, 0, none⟩ = some (.slice (some ⟨b, off, none⟩) n c) from by simp); have d1 := (hb1.cell (p := ⟨b, off + m, none⟩) hB).trans q1; have HB : Hid (Below w.heap.size w w1) := hb0.trans (hb1.mono hb0.size); have HL : Hid (Lab w1.heap.size w1 ai ki ci (zat Z m).1) := Lab.next HQ.out hb1; clear hT0 q1)
    go_ret2
    exact ⟨_, _, _, rfl, HL.out, HB.out⟩
def uK (Z : Zt) (k : Nat) : Nat := (Z.take k).countP fun x => !decide (x.2 = 0)
theorem uK_succ {Z : Zt} {k : Nat} (h : k < Z.length) : uK Z (k + 1) = uK Z k + (if (zat Z k).2 = 0 then 0 else 1) := by
  unfold uK
  rw [List.take_add_one, zat_lt h]
  simp only [Option.toList, List.countP_append]
  by_cases hz : (zat Z k).2 = 0 <;> simp [hz]
theorem uK_le (Z : Zt) (k : Nat) : uK Z k ≤ k := Nat.le_trans List.countP_le_length (by rw [List.length_take]; omega)
theorem rused_any {w : World} {a a' : Option Addr} {n c c' : Nat} {Z : Zt} (hT : Tab w a n c a' c' Z) :
    Calls Try.prog 22 #[.agg #[.slice a n c, .slice a' n c']] w fun e w' => e = .returned (.int .i64 (usd Z)) ∧ Below w.heap.size w w' := by
  have hl := hT.len
  have hcm := hT.2.2.2.1.1
  have hnc := hT.2.2.1
  go_enter Try.func22, Try.ntmps22
  go_wp2
  go_loopw [3, 4] (fun u i wr => ∃ k : Nat, k ≤ n ∧ i = .int .i64 k ∧ u = .int .i64 (uK Z k) ∧ Below (w.heap.size + 1) (w.alloc (.cells #[.slice a n c, .slice a' n c'] 25)) wr) (fun _ i _ => n - (intOf i).toNat)
  case atStart => exact ⟨0, Nat.zero_le _, rfl, by simp [uK], Below.refl _ _⟩
  case round =>
    obtain ⟨k, hk, rfl, rfl, hb⟩ := hrel
    obtain ⟨d0, d1⟩ := bx_cells hb
    have hbw := bx_below hb
    have hul := uK_le Z k
    by_cases hkn : k < n
    · obtain ⟨b, off, b', off', ai, ki, ci, rfl, rfl, hB, hB', q1, q3, q2⟩ := TabD.at (hT.next hbw) (i := k) hkn
      have hus := uK_succ (Z := Z) (k := k) (by omega)
      obtain ⟨y, hy⟩ : ∃ y, Hid ((zat Z k).2 = y) := ⟨_, rfl⟩
      rw [hy.out] at q3 hus
      have hkn' : (k : Int) < n := by omega
      clear hT q1 q2
      by_cases hy0 : y = 0
      · subst hy0
        have hus : Hid (uK Z (k + 1) = uK Z k) := by unfold Hid; simpa using hus
        go_wp2
        go_roundw
        case rel => exact ⟨k + 1, by omega, by go_num, by rw [hus.out], hb⟩
        case measure => simp [intOf]; omega
      · have hy1 : (y == 0) = false := by simpa using hy0
        have hus : Hid (uK Z (k + 1) = uK Z k + 1) := by unfold Hid; simpa [hy0] using hus
        go_wp2
        go_roundw
        case rel => exact ⟨k + 1, by omega, by go_num, by rw [hus.out]; go_num, hb⟩
        case measure => simp [intOf]; omega
    · obtain rfl : k = n := by omega
      have hu : Hid (uK Z k = usd Z) := by unfold Hid uK usd; rw [← hl, List.take_length]
      go_wp2
      go_ret
      exact ⟨(by rw [← hu.out]; rfl), hbw⟩
end Go.Proofs.Ytdljoapbeelgiaa
