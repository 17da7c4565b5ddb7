/-
  PROVED HERE: what each function of package level, and of the document's answer to it, returns when it is called (contracts over this translation). No condition.
-/
import Derived.Test.YtbmfehkahjeobaaDoorRows
import Derived.Test.YtbmfehkahjeobaaDoorLv
import Derived.WalkKit
import Derived.ProofKit
import Derived.OpenShut
import Derived.Below
namespace Go.Proofs.YtbmfehkahjeobaaDoor
open Go.ChangeShapes Go.WideShapes Go.ChangeAt Go.RowKit
set_option linter.unusedVariables false

/-- Two steps of which each leaves what was there. -/
theorem next {w a b : World} (h : Below w.heap.size w a) (k : Below a.heap.size a b) : Below w.heap.size w b := h.trans (k.mono h.size)



theorem fit_any (n : Int) (w : World) : Calls Tryd.prog 28 #[.int .i64 n] w fun e w' => e = .returned (.bool (Lv.fit n)) ∧ w' = w := by
  by_cases h0 : 0 ≤ n
  · by_cases h5 : n ≤ 5
    · have hf : Lv.fit n = true := by simp [Lv.fit, h0, h5]
      rw [hf]
      go_enter Tryd.func28, Tryd.ntmps28
      go_wp2
      go_ret
      exact ⟨rfl, rfl⟩
    · have hf : Lv.fit n = false := by simp [Lv.fit, h0, h5]
      rw [hf]
      go_enter Tryd.func28, Tryd.ntmps28
      go_wp2
      go_ret
      exact ⟨rfl, rfl⟩
  · have hf : Lv.fit n = false := by simp [Lv.fit, h0]
    rw [hf]
    go_enter Tryd.func28, Tryd.ntmps28
    go_wp2
    go_ret
    exact ⟨rfl, rfl⟩

theorem meant_any (n : Int) (w : World) : Calls Tryd.prog 30 #[.int .i64 n] w fun e w' => e = .returned (.int .i64 (Lv.lv n)) ∧ w' = w := by
  by_cases h : 0 ≤ n ∧ n ≤ 5
  · have hf : Lv.fit n = true := by simp [Lv.fit, h]
    have hl : Lv.lv n = n := Lv.lv_of h.1 h.2
    rw [hl]
    clear h hl
    go_enter Tryd.func30, Tryd.ntmps30
    go_wp2_with (go_at_call 28; refine (fit_any _ _).mono ?_; rintro e w' ⟨rfl, rfl⟩)
    go_ret
    exact ⟨rfl, rfl⟩
  · have hf : Lv.fit n = false := by simp [Lv.fit, h]
    have hl : Lv.lv n = 2 := Lv.lv_no h
    rw [hl]
    clear h hl
    go_enter Tryd.func30, Tryd.ntmps30
    go_wp2_with (go_at_call 28; refine (fit_any _ _).mono ?_; rintro e w' ⟨rfl, rfl⟩)
    go_ret
    exact ⟨rfl, rfl⟩

theorem text_any (n : Int) (w : World) : Calls Tryd.prog 17 #[.int .i64 n] w fun e w' => e = .returned (.string (Lv.txt n)) ∧ w' = w := by
  rcases Lv.lv_cases n with h | h | h | h | h | h
  all_goals
    unfold Lv.txt
    simp only [h]
    go_enter Tryd.func17, Tryd.ntmps17
    go_wp2_with (go_at_call 30; refine (meant_any _ _).mono ?_; rintro e w' ⟨rfl, rfl⟩)
    go_ret
    exact ⟨rfl, rfl⟩

theorem read_any (s : ByteArray) (w : World) : Calls Tryd.prog 37 #[.string s] w fun e w' => e = .returned (.tuple #[.int .i64 (Lv.rdN s), .int .i64 (Lv.rdE s)]) ∧ w' = w := by
  go_enter Tryd.func37, Tryd.ntmps37
  go_wp2
  go_loop [5] (fun i => ∃ k : Nat, k ≤ Lv.at_ s ∧ i = .int .i64 k) (fun i => (6 - intOf i).toNat)
  case atStart => exact ⟨0, Nat.zero_le _, rfl⟩
  case round =>
    obtain ⟨k, hk, rfl⟩ := hrel
    have hl := Lv.at_le s
    by_cases h : k < 6
    · by_cases he : Lv.txt (k : Int) = s
      · have ha := Lv.at_hit hk (by omega) he
        have hn : Hid (Lv.rdN s = k) := Lv.rdN_hit ha h
        have hm : Hid (Lv.rdE s = 0) := Lv.rdE_hit ha h
        have hb : ((Lv.txt (k : Int)).toList == s.toList) = true := by simp [he]
        clear he ha
        go_wp2_with (go_at_call 17; refine (text_any _ _).mono ?_; rintro e w' ⟨rfl, rfl⟩)
        go_ret2
        exact ⟨by rw [hn.out, hm.out]; rfl, rfl⟩
      · have ha := Lv.at_miss hk (by omega) he
        have hb : ((Lv.txt (k : Int)).toList == s.toList) = false := by
          rw [beq_eq_false_iff_ne]; exact fun e => he (Lv.toList_inj e)
        clear he
        go_wp2_with (go_at_call 17; refine (text_any _ _).mono ?_; rintro e w' ⟨rfl, rfl⟩)
        go_round
        case rel => exact ⟨k + 1, ha, by go_num⟩
        case measure => simp [intOf]; omega
    · have ha : Lv.at_ s = 6 := by omega
      have hn : Hid (Lv.rdN s = 0) := Lv.rdN_no ha
      have hm : Hid (Lv.rdE s = 11) := Lv.rdE_no ha
      have hk6 : k = 6 := by omega
      subst hk6
      clear hl hk ha
      go_wp2
      go_ret2
      exact ⟨by rw [hn.out, hm.out]; rfl, rfl⟩

theorem of_any (n : Int) (w : World) : Calls Tryd.prog 34 #[.int .i64 n] w fun e w' => e = .returned (.int .i64 (Lv.lv n)) ∧ w' = w := by
  by_cases h0 : n < 0
  · have hl : Lv.lv n = 2 := Lv.lv_no (by omega)
    rw [hl]
    clear hl
    go_enter Tryd.func34, Tryd.ntmps34
    go_wp2
    go_ret
    exact ⟨rfl, rfl⟩
  · by_cases h5 : 5 < n
    · have hl : Lv.lv n = 2 := Lv.lv_no (by omega)
      rw [hl]
      clear hl
      go_enter Tryd.func34, Tryd.ntmps34
      go_wp2
      go_ret
      exact ⟨rfl, rfl⟩
    · have hl : Lv.lv n = n := Lv.lv_of (by omega) (by omega)
      rw [hl]
      clear hl
      go_enter Tryd.func34, Tryd.ntmps34
      go_wp2
      go_ret
      exact ⟨rfl, rfl⟩

theorem rfit_any (n : Int) (w : World) : Calls Tryd.prog 27 #[.int .i64 n] w fun e w' => e = .returned (.bool (Lv.fit n)) ∧ w' = w := by
  by_cases h0 : 0 ≤ n
  · by_cases h5 : n ≤ 5
    · have hf : Lv.fit n = true := by simp [Lv.fit, h0, h5]
      rw [hf]
      go_enter Tryd.func27, Tryd.ntmps27
      go_wp2
      go_ret
      exact ⟨rfl, rfl⟩
    · have hf : Lv.fit n = false := by simp [Lv.fit, h0, h5]
      rw [hf]
      go_enter Tryd.func27, Tryd.ntmps27
      go_wp2
      go_ret
      exact ⟨rfl, rfl⟩
  · have hf : Lv.fit n = false := by simp [Lv.fit, h0]
    rw [hf]
    go_enter Tryd.func27, Tryd.ntmps27
    go_wp2
    go_ret
    exact ⟨rfl, rfl⟩

theorem rtext_any (n : Int) (w : World) : Calls Tryd.prog 20 #[.int .i64 n] w fun e w' => e = .returned (.string (Lv.txt n)) ∧ w' = w := by
  rcases Lv.lv_cases n with h | h | h | h | h | h
  all_goals
    unfold Lv.txt
    simp only [h]
    go_enter Tryd.func20, Tryd.ntmps20
    go_wp2_with (go_at_call 34; refine (of_any _ _).mono ?_; rintro e w' ⟨rfl, rfl⟩)
    go_ret
    exact ⟨rfl, rfl⟩

theorem rread_any (s : ByteArray) (w : World) : Calls Tryd.prog 26 #[.string s] w fun e w' => e = .returned (.tuple #[.int .i64 (Lv.rdN s), .int .i64 (Lv.rdE s)]) ∧ w' = w := by
  go_enter Tryd.func26, Tryd.ntmps26
  go_wp2
  go_loop [4] (fun i => ∃ k : Nat, k ≤ Lv.at_ s ∧ i = .int .i64 k) (fun i => (6 - intOf i).toNat)
  case atStart => exact ⟨0, Nat.zero_le _, rfl⟩
  case round =>
    obtain ⟨k, hk, rfl⟩ := hrel
    have hl := Lv.at_le s
    by_cases h : k ≤ 5
    · by_cases he : Lv.txt (k : Int) = s
      · have ha := Lv.at_hit hk (by omega) he
        have hn : Hid (Lv.rdN s = k) := Lv.rdN_hit ha (by omega)
        have hm : Hid (Lv.rdE s = 0) := Lv.rdE_hit ha (by omega)
        have hb : ((Lv.txt (k : Int)).toList == s.toList) = true := by simp [he]
        clear he ha
        go_wp2_with (go_at_call 20; refine (rtext_any _ _).mono ?_; rintro e w' ⟨rfl, rfl⟩)
        go_ret2
        exact ⟨by rw [hn.out, hm.out]; rfl, rfl⟩
      · have ha := Lv.at_miss hk (by omega) he
        have hb : ((Lv.txt (k : Int)).toList == s.toList) = false := by
          rw [beq_eq_false_iff_ne]; exact fun e => he (Lv.toList_inj e)
        clear he
        go_wp2_with (go_at_call 20; refine (rtext_any _ _).mono ?_; rintro e w' ⟨rfl, rfl⟩)
        go_round
        case rel => exact ⟨k + 1, ha, by go_num⟩
        case measure => simp [intOf]; omega
    · have ha : Lv.at_ s = 6 := by omega
      have hn : Hid (Lv.rdN s = 0) := Lv.rdN_no ha
      have hm : Hid (Lv.rdE s = 11) := Lv.rdE_no ha
      have hk6 : k = 6 := by omega
      subst hk6
      clear hl hk ha
      go_wp2
      go_ret2
      exact ⟨by rw [hn.out, hm.out]; rfl, rfl⟩

end Go.Proofs.YtbmfehkahjeobaaDoor
