/-
  PROVED HERE: what Same and Get of package intern return when they are called (contracts over this translation). Get's labels have at most 16 pairs.
-/
import Derived.Test.YtjkncajcmdlmgaaItn6
namespace Go.Proofs.Ytjkncajcmdlmgaa
open Go.ChangeShapes Go.WideShapes Go.ChangeAt Go.RowKit
set_option linter.unusedVariables false

def eqT (LL LL' : List (List (Int × Int))) (CC CC' : List Int) : Bool := decide (LL = LL') && decide (CC = CC')
theorem eqT_refl (LL : List (List (Int × Int))) (CC : List Int) : eqT LL LL CC CC = true := by simp [eqT]
theorem tget_any {w : World} {a a' : Option Addr} {n c c' : Nat} {Z : Zt} (x : Int) (hT : Tab w a n c a' c' Z) (hs : ∀ i, (zat Z i).1.length ≤ 16) :
    Calls Try.prog 14 #[.agg #[.slice a n c, .slice a' n c'], .int .i64 x] w fun e w' => ∃ ao k cap, e = .returned (.tuple #[.slice ao k cap, .int .i64 (getR Z x).2]) ∧ Lab w'.heap.size w' ao k cap (getR Z x).1 ∧ Below w.heap.size w w' := by
  have hl := hT.len
  have hnc1 := hT.1.2.1
  have hcm1 := hT.1.2.2.1.1
  have hb0 : Below w.heap.size w (w.alloc (.cells #[.slice a n c, .slice a' n c'] 27)) := (Below.refl _ w).alloc (Nat.le_refl _) _
  have hT0 := hT.next hb0
  cases hk : asksB Z x with
  | false =>
    have hg : getR Z x = ([], 1) := by unfold getR; rw [hk]; rfl
    rw [hg]
    clear hT
    go_enter Try.func14, Try.ntmps14
    go_wp2_with (go_at_call 21; refine (isAsked_any x hT0).mono ?_; rintro e w1 ⟨rfl, hb1⟩; rw [hk])
    go_ret2
    exact ⟨_, _, _, rfl, Lab.nil _ _, hb0.trans (hb1.mono hb0.size)⟩
  | true =>
    have hg : getR Z x = ((zat Z x.toNat).1, 0) := by unfold getR; rw [hk]; rfl
    rw [hg]
    have hk' := hk
    unfold asksB at hk'
    simp only [Bool.and_eq_true, decide_eq_true_iff] at hk'
    obtain ⟨h0, h1, h2⟩ := hk'
    obtain ⟨m, rfl⟩ : ∃ m : Nat, x = m := ⟨x.toNat, by omega⟩
    have hmn : (m : Int) < n := by omega
    obtain ⟨b, off, b', off', ai, ki, ci, rfl, rfl, hB, hB', q1, q3, q2⟩ := TabD.at hT0 (i := m) (by omega)
    have hki := q2.1
    have h16 := hs m
    have HQ : Hid (LabD _ _ ai ki ci (zat Z m).1) := q2
    clear hT h2 q2 q3
    go_enter Try.func14, Try.ntmps14
    go_wp2_with (first | (go_at_call 21; refine (isAsked_any (m : Int) hT0).mono ?_; rintro e w1 ⟨rfl, hb1⟩; rw [hk]; have d0 := (hb1.cell (p := ⟨w.heap.size, 0, none⟩) (by simp)).trans (show (w.alloc (.cells #[.slice (some ⟨b, off, none⟩) n c, .slice (some ⟨b', off', none⟩) n c'] 27)).cell? ⟨w.heap.size, 0, none⟩ = some (.slice (some ⟨b, off, none⟩) n c) from by simp); have d1 := (hb1.cell (p := ⟨b, off + m, none⟩) hB).trans q1; have HB : Hid (Below w.heap.size w w1) := hb0.trans (hb1.mono hb0.size); have HL : Hid (Lab w1.heap.size w1 ai ki ci (zat Z m).1) := Lab.next HQ.out hb1; clear hT0 q1) | (go_at_call 23; refine (icopied_any HL.out (by omega)).mono ?_; rintro e w2 ⟨ao, cap, rfl, ho, hb2⟩))
    go_ret2
    exact ⟨_, _, _, rfl, ho.lab, HB.out.trans (hb2.mono HB.out.size)⟩
end Go.Proofs.Ytjkncajcmdlmgaa
