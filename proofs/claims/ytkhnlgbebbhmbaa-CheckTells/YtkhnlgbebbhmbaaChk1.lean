/-
  PROVED HERE: what the questions of package check answer when they are asked (contracts over this translation). A row of labels has at least one and fewer than 100 of them.
-/
import Derived.Test.YtkhnlgbebbhmbaaLabArms
import Derived.Deep.RegionHeld3
namespace Go.Proofs.Ytkhnlgbebbhmbaa
open Go.ChangeShapes Go.WideShapes Go.ChangeAt Go.RowKit
set_option linter.unusedVariables false

/-- A row of labels lies at block b. -/
def LRow (w : World) (b : Nat) (ls : List (Option Addr × Nat × Nat × List (Int × Int))) : Prop :=
  b < w.heap.size ∧ (∀ i, i < ls.length → w.cell? ⟨b, i, none⟩ = some (.slice (ls.getD i (none, 0, 0, [])).1 (ls.getD i (none, 0, 0, [])).2.1 (ls.getD i (none, 0, 0, [])).2.2.1)) ∧ Labs w ls
theorem LRow.next {w w' : World} {b : Nat} {ls : List (Option Addr × Nat × Nat × List (Int × Int))} (h : LRow w b ls) (k : Below w.heap.size w w') : LRow w' b ls :=
  ⟨Nat.lt_of_lt_of_le h.1 k.size, fun i hi => (k.cell (p := ⟨b, i, none⟩) h.1).trans (h.2.1 i hi), h.2.2.next k⟩
theorem LRow.at {w : World} {b : Nat} {ls : List (Option Addr × Nat × Nat × List (Int × Int))} (h : LRow w b ls) {i : Nat} (hi : i < ls.length) :
    ∃ ao n cap L, w.cell? ⟨b, i, none⟩ = some (.slice ao n cap) ∧ Lab w.heap.size w ao n cap L ∧ Hid (ls.getD i (none, 0, 0, []) = (ao, n, cap, L)) := by
  obtain ⟨ao, n, cap, L, e⟩ : ∃ ao n cap L, ls.getD i (none, 0, 0, []) = (ao, n, cap, L) := ⟨_, _, _, _, rfl⟩
  have hc := h.2.1 i hi
  rw [e] at hc
  refine ⟨ao, n, cap, L, hc, ?_, e⟩
  have hm : ls.getD i (none, 0, 0, []) ∈ ls := by
    rw [List.getD_eq_getElem?_getD, List.getElem?_eq_getElem hi]
    exact List.getElem_mem hi
  have := h.2.2 _ hm
  rw [e] at this
  exact this

def labOf (ls : List (Option Addr × Nat × Nat × List (Int × Int))) (i : Nat) : List (Int × Int) := (ls.getD i (none, 0, 0, [])).2.2.2

/-- Each of the first k labels is at most the next one. -/
def risB (ls : List (Option Addr × Nat × Nat × List (Int × Int))) : Bool := (List.range (ls.length - 1)).all fun j => leqB (labOf ls j) (labOf ls (j + 1))
theorem risB_no {ls : List (Option Addr × Nat × Nat × List (Int × Int))} {j : Nat} (hj : j + 1 < ls.length) (h : leqB (labOf ls j) (labOf ls (j + 1)) = false) : risB ls = false := by
  unfold risB
  rw [List.all_eq_false]
  exact ⟨j, List.mem_range.2 (by omega), by rw [h]; simp⟩
theorem risB_yes {ls : List (Option Addr × Nat × Nat × List (Int × Int))} (h : ∀ j, j + 1 < ls.length → leqB (labOf ls j) (labOf ls (j + 1)) = true) : risB ls = true := by
  unfold risB
  rw [List.all_eq_true]
  intro j hj
  exact h j (by have := List.mem_range.1 hj; omega)

set_option maxHeartbeats 2000000 in
theorem rising1_any {w : World} {Bx b m : Nat} {ls : List (Option Addr × Nat × Nat × List (Int × Int))} (hm : ls.length = m) (h1 : 1 ≤ m) (hmm : m < 100) (hbx : w.cell? ⟨Bx, 0, none⟩ = some (.slice (some ⟨b, 0, none⟩) m m)) (hbl : Bx < w.heap.size) (hR : LRow w b ls) :
    Calls Try.prog 58 #[.pointer (some ⟨Bx, 0, none⟩)] w fun e w' => e = .returned (.bool (risB ls)) ∧ Below w.heap.size w w' := by
  go_enter Try.func58, Try.ntmps58
  go_wp2
  go_loopw [2] (fun i wr => ∃ j : Nat, j + 1 ≤ m ∧ i = .int .i64 ((j + 1 : Nat) : Int) ∧ (∀ t, t < j → leqB (labOf ls t) (labOf ls (t + 1)) = true) ∧ Below w.heap.size w wr) (fun i _ => m - (intOf i).toNat)
  case atStart => exact ⟨0, by omega, rfl, fun j hj => absurd hj (by omega), Below.refl _ _⟩
  case round =>
    obtain ⟨j, hj, rfl, hg, hb⟩ := hrel
    have hG : Hid (∀ t, t < j → leqB (labOf ls t) (labOf ls (t + 1)) = true) := hg
    clear hg
    have hbs := hb.size
    have cb := (hb.cell (p := ⟨Bx, 0, none⟩) hbl).trans hbx
    by_cases hjm : j + 1 < m
    · obtain ⟨ao, n, cap, L, d0, hL, e0⟩ := (hR.next hb.drew).at (i := j) (by omega)
      obtain ⟨ao', n', cap', L', d1, hL', e1⟩ := (hR.next hb.drew).at (i := j + 1) (by omega)
      have hwm : IntKind.i64.wrap (((j + 1 : Nat) : Int) - 1) = j := by rw [IntKind.wrap_i64]; omega
      obtain ⟨k, hk⟩ : ∃ k, Hid (j + 1 = k) := ⟨_, rfl⟩
      rw [hk.out] at hwm d1 e1 hjm
      have hjm' : (k : Int) < m := by omega
      have hjm2 : (j : Int) < m := by omega
      have hl : Hid (leqB (labOf ls j) (labOf ls (j + 1)) = leqB L L') := by unfold labOf; rw [hk.out, e0.out, e1.out]; rfl
      rw [hk.out]
      clear hR
      cases hq : leqB L L' with
      | false =>
        have hr : Hid (risB ls = false) := risB_no (j := j) (by have := hk.out; omega) (by rw [hl.out, hq])
        go_wp2
        go_region_held3 (fun w' => w'.cell? ⟨Bx, 0, none⟩ = some (.slice (some ⟨b, 0, none⟩) m m) ∧ w'.cell? ⟨b, j, none⟩ = some (.slice ao n cap) ∧ w'.cell? ⟨b, k, none⟩ = some (.slice ao' n' cap')) (go_keep) (first | (go_at_call 59; refine (lleq_any (B := 0) hL hL').mono ?_; rintro e w1 ⟨rfl, hb1⟩; have f0 := cell_later hb1 cb; have f1 := cell_later hb1 d0; have f2 := cell_later hb1 d1))
        go_wp2
        go_ret
        exact ⟨by rw [hr.out]; rfl, hb.drew.trans (hb1.mono hbs)⟩
      | true =>
        have hG' : Hid (∀ t, t < j + 1 → leqB (labOf ls t) (labOf ls (t + 1)) = true) := by
          intro t ht
          rcases Nat.lt_or_ge t j with h | h
          · exact hG.out t h
          · have : t = j := by omega
            rw [this, hl.out, hq]
        go_wp2
        go_region_held3 (fun w' => w'.cell? ⟨Bx, 0, none⟩ = some (.slice (some ⟨b, 0, none⟩) m m) ∧ w'.cell? ⟨b, j, none⟩ = some (.slice ao n cap) ∧ w'.cell? ⟨b, k, none⟩ = some (.slice ao' n' cap')) (go_keep) (first | (go_at_call 59; refine (lleq_any (B := 0) hL hL').mono ?_; rintro e w1 ⟨rfl, hb1⟩; have f0 := cell_later hb1 cb; have f1 := cell_later hb1 d0; have f2 := cell_later hb1 d1))
        go_wp2
        go_roundw
        case rel => exact ⟨j + 1, by have := hk.out; omega, by rw [hk.out]; go_num, hG'.out, hb.drew.trans (hb1.mono hbs)⟩
        case measure => have := hk.out; simp [intOf]; omega
    · have hr : Hid (risB ls = true) := risB_yes (fun t ht => hG.out t (by omega))
      have hj1 : j + 1 = m := by omega
      clear hR
      subst hj1
      go_wp2
      go_ret
      exact ⟨by rw [hr.out]; rfl, hb⟩
end Go.Proofs.Ytkhnlgbebbhmbaa
