/-
  PROVED HERE: what word and goes of package curtilageref10 return when they are called (contracts over this translation). Names of at most 65536 bytes.
-/
import Derived.Test.YtnghendglcblkaaGreatDoorAsm17
namespace Go.Proofs.YtnghendglcblkaaGreatDoor
open Go.RowKit Go.Shelf
set_option linter.unusedVariables false
open Asm

theorem rgoes_any (op : Int) (w : World) : Calls Tryz.prog 62 #[.int .i64 op] w fun e w' => e = .returned (.bool (jmpB op)) ∧ w = w' := by
  go_enter Tryz.func62, Tryz.ntmps62
  by_cases h1 : op = 18
  · subst h1; go_wp2; go_ret; exact ⟨rfl, rfl⟩
  · by_cases h2 : op = 19
    · subst h2; go_wp2; go_ret; exact ⟨rfl, rfl⟩
    · by_cases h3 : op = 20
      · subst h3; go_wp2; go_ret; exact ⟨rfl, rfl⟩
      · go_wp2
        go_ret
        exact ⟨rfl, rfl⟩
theorem name_no {s : ByteArray} {k : Nat} (h : k < s.size) (hl : ldB (s[k]'h) = false) : nameB s = false := by
  by_cases h0 : s.size = 0 ∨ 16 < s.size
  · exact nameB_false h0
  · rw [nameB_at (by omega) (by omega), all_no (k := k) (by rw [size_list]; exact h) (by rw [at_list h]; exact hl)]
    simp
theorem name_dig {s : ByteArray} (h : 0 < s.size) (hl : digB (s[0]'h) = true) : nameB s = false := by
  by_cases h0 : s.size = 0 ∨ 16 < s.size
  · exact nameB_false h0
  · rw [nameB_at (by omega) (by omega), hl]
    rfl
set_option maxRecDepth 100000 in
set_option maxHeartbeats 2000000 in
theorem rword_any (s : ByteArray) (hs : s.size ≤ 65536) (w : World) :
    Calls Tryz.prog 60 #[.string s] w fun e w' => e = .returned (.bool (nameB s)) ∧ w = w' := by
  go_enter Tryz.func60, Tryz.ntmps60
  go_wp2
  go_loopw [3] (fun vi wr => ∃ k : Nat, vi = .int .i64 k ∧ k ≤ s.size ∧ Hid ((s.data.toList.take k).all ldB = true ∧ ∀ h0 : 0 < s.size, 0 < k → digB (s[0]'h0) = false) ∧ w = wr) (fun vi _ => s.size - (intOf vi).toNat)
  case atStart => exact ⟨0, rfl, by omega, ⟨rfl, fun _ h => absurd h (by omega)⟩, rfl⟩
  case round =>
    obtain ⟨k, rfl, hk, hp, rfl⟩ := hrel
    by_cases hks : k < s.size
    · have hks' : k < s.data.toList.length := by rw [size_list]; exact hks
      have hat := at_list hks
      have hno : Hid (ldB (s[k]'hks) = false → nameB s = false) := name_no hks
      have hnd : Hid (k = 0 → digB (s[k]'hks) = true → nameB s = false) := by rintro rfl h; exact name_dig hks h
      have hgo : Hid (ldB (s[k]'hks) = true → (k = 0 → digB (s[k]'hks) = false) → (s.data.toList.take (k + 1)).all ldB = true ∧ ∀ h0 : 0 < s.size, 0 < k + 1 → digB (s[0]'h0) = false) := fun h1 h2 => by
        refine ⟨by rw [all_take hks' hp.out.1, hat]; exact h1, fun h0 _ => ?_⟩
        by_cases hk0 : k = 0
        · subst hk0; exact h2 rfl
        · exact hp.out.2 h0 (by omega)
      clear hat
      have hld : ldB (s[k]'hks) = (letB (s[k]'hks) || digB (s[k]'hks)) := rfl
      unfold letB digB at hld
      have hdg : digB (s[k]'hks) = (decide (48 ≤ (s[k]'hks).toNat) && decide ((s[k]'hks).toNat ≤ 57)) := rfl
      by_cases hD : 48 ≤ (s[k]'hks).toNat ∧ (s[k]'hks).toNat ≤ 57
      · obtain ⟨hD0, hD1⟩ := hD
        have hD0' : 48 ≤ ((s[k]'hks).toNat : Int) := by omega
        have hD1' : ((s[k]'hks).toNat : Int) ≤ 57 := by omega
        have hd : digB (s[k]'hks) = true := by rw [hdg]; simp [hD0, hD1]
        have hl : ldB (s[k]'hks) = true := by rw [hld]; simp [hD0, hD1]
        by_cases hk0 : k = 0
        · have hr : Hid (nameB s = false) := hnd.out hk0 hd
          subst hk0
          clear hno hnd hgo hld hdg hd hl hp
          go_wp2
          go_ret
          exact ⟨by rw [hr.out]; rfl, rfl⟩
        · have hq := hgo.out hl (fun h => absurd h hk0)
          clear hno hnd hgo hld hdg hd hl hp
          have hq : Hid _ := hq
          have hk0' : ¬ (k : Int) = 0 := by omega
          go_wp2
          go_roundw
          case rel => exact ⟨k + 1, by go_num, by omega, hq, trivial⟩
          case measure => simp [intOf]; omega
      · have hd : digB (s[k]'hks) = false := by rw [hdg]; simp; omega
        by_cases hl : ldB (s[k]'hks) = true
        · have hq := hgo.out hl (fun _ => hd)
          have hq : Hid _ := hq
          rw [hld] at hl
          simp only [Bool.or_eq_true, Bool.and_eq_true, decide_eq_true_eq, beq_iff_eq] at hl
          have hl3 : ((s[k]'hks).toNat : Int) = 95 ∨ (97 ≤ ((s[k]'hks).toNat : Int) ∧ ((s[k]'hks).toNat : Int) ≤ 122) ∨ (65 ≤ ((s[k]'hks).toNat : Int) ∧ ((s[k]'hks).toNat : Int) ≤ 90) := by omega
          have hD' : ¬ (48 ≤ ((s[k]'hks).toNat : Int) ∧ ((s[k]'hks).toNat : Int) ≤ 57) := by omega
          clear hno hnd hgo hld hdg hd hl hp hD
          by_cases hk0 : k = 0
          · subst hk0
            go_wp2
            all_goals first | (exfalso; omega) | go_roundw
            all_goals first | exact ⟨0 + 1, by go_num, by omega, hq, trivial⟩ | (simp [intOf]; done) | (simp [intOf]; omega)
          · have hk0' : ¬ (k : Int) = 0 := by omega
            go_wp2
            all_goals first | (exfalso; omega) | go_roundw
            all_goals first | exact ⟨k + 1, by go_num, by omega, hq, trivial⟩ | (simp [intOf]; done) | (simp [intOf]; omega)
        · have hr : Hid (nameB s = false) := hno.out (by simpa using hl)
          rw [hld] at hl
          simp only [Bool.or_eq_true, Bool.and_eq_true, decide_eq_true_eq, beq_iff_eq] at hl
          have hl3 : ¬ (((s[k]'hks).toNat : Int) = 95 ∨ (97 ≤ ((s[k]'hks).toNat : Int) ∧ ((s[k]'hks).toNat : Int) ≤ 122) ∨ (65 ≤ ((s[k]'hks).toNat : Int) ∧ ((s[k]'hks).toNat : Int) ≤ 90)) := by omega
          have hD' : ¬ (48 ≤ ((s[k]'hks).toNat : Int) ∧ ((s[k]'hks).toNat : Int) ≤ 57) := by omega
          clear hno hnd hgo hld hdg hd hl hp hD
          go_wp2
          all_goals (go_ret; exact ⟨by rw [hr.out]; rfl, rfl⟩)
    · obtain rfl : k = s.size := by omega
      have hr : Hid (nameB s = (decide (1 ≤ s.size) && decide (s.size ≤ 16))) := by
        show _ = _
        by_cases h0 : s.size = 0 ∨ 16 < s.size
        · rw [nameB_false h0]
          rcases h0 with h0 | h0
          · rw [decide_eq_false (by omega : ¬ 1 ≤ s.size)]; rfl
          · rw [decide_eq_false (by omega : ¬ s.size ≤ 16), Bool.and_false]
        · have h1 := hp.out.1
          rw [← size_list, List.take_length] at h1
          rw [nameB_at (by omega) (by omega), h1, hp.out.2 (by omega) (by omega), decide_eq_true (by omega : 1 ≤ s.size), decide_eq_true (by omega : s.size ≤ 16)]
          rfl
      clear hp
      by_cases h1 : 1 ≤ s.size
      · have hr1 : Hid (nameB s = decide (s.size ≤ 16)) := by show _ = _; rw [hr.out, decide_eq_true h1, Bool.true_and]
        have h1' : 1 ≤ (s.size : Int) := by omega
        clear hr
        go_wp2
        go_ret
        exact ⟨by rw [hr1.out]; exact congrArg (fun z => Ending.returned (.bool z)) (decide_eq_decide.2 (by omega)), rfl⟩
      · have hr1 : Hid (nameB s = false) := by show _ = _; rw [hr.out, decide_eq_false h1]; rfl
        have h1' : ¬ 1 ≤ (s.size : Int) := by omega
        clear hr
        go_wp2
        go_ret
        exact ⟨by rw [hr1.out]; rfl, rfl⟩
end Go.Proofs.YtnghendglcblkaaGreatDoor
