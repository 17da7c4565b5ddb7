/-
  PROVED HERE: what the statements' own helpers 'few' and 'awake' return when they are called (contracts over this translation). No condition.
-/
import Derived.Test.YtaekiclhddfonaaLabMake
import Derived.Test.YtaekiclhddfonaaLabCon2
namespace Go.Proofs.Ytaekiclhddfonaa
open Go.ChangeShapes Go.WideShapes Go.ChangeAt Go.RowKit
set_option linter.unusedVariables false

def fewB (ns : List Nat) : Bool := ns.all fun n => decide (n ≤ 40)
theorem fewB_no {ns : List Nat} {k : Nat} (h : k < ns.length) (e : 40 < ns.getD k 0) : fewB ns = false := by
  unfold fewB
  rw [List.all_eq_false]
  have e' : 40 < ns[k] := by simpa [List.getD_eq_getElem?_getD, List.getElem?_eq_getElem h] using e
  exact ⟨ns[k], List.getElem_mem h, by simp; omega⟩
theorem fewB_yes {ns : List Nat} (h : ∀ k, k < ns.length → ns.getD k 0 ≤ 40) : fewB ns = true := by
  unfold fewB
  rw [List.all_eq_true]
  intro x hx
  obtain ⟨k, hk, rfl⟩ := List.getElem_of_mem hx
  have := h k hk
  simpa [List.getD_eq_getElem?_getD, List.getElem?_eq_getElem hk] using this

theorem few_any {w : World} {b m : Nat} (ns : List Nat) (hm : ns.length = m) (hmm : m < 100) (hc : ∀ i, i < m → ∃ ao cap, w.cell? ⟨b, i, none⟩ = some (.slice ao (ns.getD i 0) cap)) :
    Calls Try.prog 9 #[.slice (some ⟨b, 0, none⟩) m m] w fun e w' => e = .returned (.bool (fewB ns)) ∧ w' = w := by
  go_enter Try.func9, Try.ntmps9
  go_wp2
  go_loop [7] (fun i => ∃ k : Nat, k ≤ m ∧ i = .int .i64 k ∧ (∀ j, j < k → ns.getD j 0 ≤ 40)) (fun i => m - (intOf i).toNat)
  case atStart => exact ⟨0, Nat.zero_le _, rfl, fun j hj => absurd hj (by omega)⟩
  case round =>
    obtain ⟨k, hk, rfl, hg⟩ := hrel
    have hG : Hid (∀ j, j < k → ns.getD j 0 ≤ 40) := hg
    clear hg
    by_cases hkm : k < m
    · obtain ⟨ao, cap, hcell⟩ := hc k hkm
      obtain ⟨x, hx⟩ : ∃ x, Hid (ns.getD k 0 = x) := ⟨_, rfl⟩
      rw [hx.out] at hcell
      clear hc
      by_cases hx40 : x ≤ 40
      · go_wp2
        go_round
        case rel => exact ⟨k + 1, by omega, by go_num, fun j hj => by
          rcases Nat.lt_or_ge j k with h | h
          · exact hG.out j h
          · have : j = k := by omega
            rw [this, hx.out]; exact hx40⟩
        case measure => simp [intOf]; omega
      · have hr : Hid (fewB ns = false) := fewB_no (k := k) (by omega) (by rw [hx.out]; omega)
        go_wp2
        go_ret
        exact ⟨by rw [hr.out]; rfl, rfl⟩
    · have hr : Hid (fewB ns = true) := fewB_yes (fun j hj => hG.out j (by omega))
      clear hc
      go_wp2
      go_ret
      exact ⟨by rw [hr.out]; rfl, rfl⟩

theorem labLit (w : World) (c l : Int) : Lab (w.alloc (.cells #[.int .u64 c, .int .i64 l] 43)).heap.size (w.alloc (.cells #[.int .u64 c, .int .i64 l] 43)) (some ⟨w.heap.size, 0, none⟩) 1 1 [(c, l)] :=
  ⟨rfl, Nat.le_refl _, ⟨by omega, fun hz => by cases hz⟩, fun _ => ⟨_, _, rfl, by simp, fun i hi => by
    have : i = 0 := by omega
    subst this
    have b := Two.new w 43 (.int .u64 c) (.int .i64 l)
    exact ⟨b.cell0, b.cell1⟩⟩⟩

theorem awake_any (w : World) : Calls Try.prog 14 #[] w fun e w' => e = .returned (.bool true) ∧ Below w.heap.size w w' := by
  have hs0 := labLit w 7 4
  have ho0 : Lab ((w.alloc (.cells #[.int .u64 7, .int .i64 4] 43)).alloc (.cells #[.int .u64 7, .int .i64 0] 43)).heap.size ((w.alloc (.cells #[.int .u64 7, .int .i64 4] 43)).alloc (.cells #[.int .u64 7, .int .i64 0] 43)) (some ⟨w.heap.size + 1, 0, none⟩) 1 1 [(7, 0)] := by
    have h := labLit (w.alloc (.cells #[.int .u64 7, .int .i64 4] 43)) 7 0
    rw [World.size_alloc w] at h
    exact h
  have hB1 := (Below.refl w.heap.size w).alloc (Nat.le_refl _) (.cells #[.int .u64 7, .int .i64 4] 43)
  have hB2 := hB1.alloc (by simp) (.cells #[.int .u64 7, .int .i64 0] 43)
  have hs1 := hs0.next ((Below.refl _ _).alloc (Nat.le_refl _) (.cells #[.int .u64 7, .int .i64 0] 43))
  have f1 : foldP (fun x _ => Lv.raise x) (both [(7, 0)] []) = [(7, 5)] := by decide +kernel
  have f2 : leqB [(7, 4)] [] = false := by decide +kernel
  have f3 : leqB [(7, 0)] [] = true := by decide +kernel
  have f4 : get [] 7 = 2 := rfl
  clear hs0
  go_enter Try.func14, Try.ntmps14
  go_wp2_with (first | (go_at_call 26; refine (lraise_any ho0 (by omega)).mono ?_; rintro e w1 ⟨ao1, n1, cap1, rfl, ho1, hb1⟩; rw [f1] at ho1; obtain ⟨bu, ou, rfl, hbu, d0, d1, rfl⟩ := ho1.lab.head; replace hB2 := hB2.trans (hb1.mono hB2.size); replace hs1 := hs1.next hb1; replace ho0 := ho0.next hb1) | (go_at_call 17; refine (get_any 7 (Lab.nil _ _) (Nat.le_refl _)).mono ?_; rintro e w2 ⟨rfl, hb2⟩; replace hB2 := hB2.trans (hb2.mono hB2.size); replace hs1 := hs1.next hb2; replace ho0 := ho0.next hb2; replace d1 := cell_later hb2 d1) | (go_at_call_of 19 (Value.slice (some { block := w.heap.size, off := 0 }) 1 1); refine (lleq_any (B := 0) hs1 (Lab.nil _ _)).mono ?_; rintro e w3 ⟨rfl, hb3⟩; replace hB2 := hB2.trans (hb3.mono hB2.size); clear hs1; replace ho0 := ho0.next hb3; replace d1 := cell_later hb3 d1) | (go_at_call 19; refine (lleq_any (B := 0) ho0 (Lab.nil _ _)).mono ?_; rintro e w4 ⟨rfl, hb4⟩; replace hB2 := hB2.trans (hb4.mono hB2.size); clear ho0; replace d1 := cell_later hb4 d1))
  go_ret
  exact ⟨rfl, hB2⟩
end Go.Proofs.Ytaekiclhddfonaa
