/-
  PROVED HERE: what each function of package level, and of the document's answer to it, returns when it is called (contracts over this translation). No condition.
-/
import Derived.Test.YtdpacicgpiminaaRows
import Derived.Test.YtdpacicgpiminaaLv
import Derived.WalkKit
import Derived.ProofKit
import Derived.OpenShut
import Derived.Below
namespace Go.Proofs.Ytdpacicgpiminaa
open Go.ChangeShapes Go.WideShapes Go.ChangeAt Go.RowKit
set_option linter.unusedVariables false

theorem fit_any (n : Int) (w : World) : Calls Try.prog 9 #[.int .i64 n] w fun e w' => e = .returned (.bool (Lv.fit n)) ∧ w' = w := by
  by_cases h0 : 0 ≤ n
  · by_cases h5 : n ≤ 5
    · have hf : Lv.fit n = true := by simp [Lv.fit, h0, h5]
      rw [hf]
      go_enter Try.func9, Try.ntmps9
      go_wp2
      go_ret
      exact ⟨rfl, rfl⟩
    · have hf : Lv.fit n = false := by simp [Lv.fit, h0, h5]
      rw [hf]
      go_enter Try.func9, Try.ntmps9
      go_wp2
      go_ret
      exact ⟨rfl, rfl⟩
  · have hf : Lv.fit n = false := by simp [Lv.fit, h0]
    rw [hf]
    go_enter Try.func9, Try.ntmps9
    go_wp2
    go_ret
    exact ⟨rfl, rfl⟩

theorem meant_any (n : Int) (w : World) : Calls Try.prog 27 #[.int .i64 n] w fun e w' => e = .returned (.int .i64 (Lv.lv n)) ∧ w' = w := by
  by_cases h : 0 ≤ n ∧ n ≤ 5
  · have hf : Lv.fit n = true := by simp [Lv.fit, h]
    have hl : Lv.lv n = n := Lv.lv_of h.1 h.2
    rw [hl]
    clear h hl
    go_enter Try.func27, Try.ntmps27
    go_wp2_with (go_at_call 9; refine (fit_any _ _).mono ?_; rintro e w' ⟨rfl, rfl⟩)
    go_ret
    exact ⟨rfl, rfl⟩
  · have hf : Lv.fit n = false := by simp [Lv.fit, h]
    have hl : Lv.lv n = 2 := Lv.lv_no h
    rw [hl]
    clear h hl
    go_enter Try.func27, Try.ntmps27
    go_wp2_with (go_at_call 9; refine (fit_any _ _).mono ?_; rintro e w' ⟨rfl, rfl⟩)
    go_ret
    exact ⟨rfl, rfl⟩

theorem leq_any (a b : Int) (w : World) : Calls Try.prog 11 #[.int .i64 a, .int .i64 b] w fun e w' => e = .returned (.bool (Lv.leq a b)) ∧ w' = w := by
  unfold Lv.leq
  go_enter Try.func11, Try.ntmps11
  go_wp2_with (go_at_call 27; refine (meant_any _ _).mono ?_; rintro e w' ⟨rfl, rfl⟩)
  go_ret
  exact ⟨rfl, rfl⟩

theorem mirror_any (n : Int) (w : World) : Calls Try.prog 29 #[.int .i64 n] w fun e w' => e = .returned (.int .i64 (5 - Lv.lv n)) ∧ w' = w := by
  have h0 := Lv.lv_lo n
  have h5 := Lv.lv_hi n
  go_enter Try.func29, Try.ntmps29
  go_wp2_with (go_at_call 27; refine (meant_any _ _).mono ?_; rintro e w' ⟨rfl, rfl⟩)
  go_ret
  exact ⟨rfl, rfl⟩

set_option maxHeartbeats 400000 in
theorem greatest_two (b : Nat) (x y : Int) (w : World) (c0 : w.cell? ⟨b, 0, none⟩ = some (.int .i64 x)) (c1 : w.cell? ⟨b, 1, none⟩ = some (.int .i64 y)) :
    Calls Try.prog 28 #[.slice (some ⟨b, 0, none⟩) 2 2] w fun e w' => e = .returned (.int .i64 (Lv.join x y)) ∧ w' = w := by
  have x0 := Lv.lv_lo x
  go_enter Try.func28, Try.ntmps28
  go_wp2
  go_loop [3, 8] (fun t i => (i = .int .i64 0 ∧ t = .int .i64 0) ∨ (i = .int .i64 1 ∧ t = .int .i64 (Lv.lv x)) ∨ (i = .int .i64 2 ∧ t = .int .i64 (Lv.join x y))) (fun _ i => (2 - intOf i).toNat)
  case atStart => exact .inl ⟨rfl, rfl⟩
  case round =>
    rcases hrel with ⟨rfl, rfl⟩ | ⟨rfl, rfl⟩ | ⟨rfl, rfl⟩
    · by_cases h : 0 < Lv.lv x
      · go_wp2_with (go_at_call 27; refine (meant_any _ _).mono ?_; rintro e w' ⟨rfl, rfl⟩)
        go_round
        case rel => exact .inr (.inl ⟨rfl, rfl⟩)
        case measure => simp [intOf]
      · have hx : Hid (Lv.lv x = 0) := by show Lv.lv x = 0; omega
        go_wp2_with (go_at_call 27; refine (meant_any _ _).mono ?_; rintro e w' ⟨rfl, rfl⟩)
        go_round
        case rel => exact .inr (.inl ⟨rfl, by rw [hx.out]⟩)
        case measure => simp [intOf]
    · by_cases h : Lv.lv x < Lv.lv y
      · have hj : Hid (Lv.join x y = Lv.lv y) := by show Lv.join x y = Lv.lv y; unfold Lv.join; rw [if_pos h]
        go_wp2_with (go_at_call 27; refine (meant_any _ _).mono ?_; rintro e w' ⟨rfl, rfl⟩)
        go_round
        case rel => exact .inr (.inr ⟨rfl, by rw [hj.out]⟩)
        case measure => simp [intOf]
      · have hj : Hid (Lv.join x y = Lv.lv x) := by show Lv.join x y = Lv.lv x; unfold Lv.join; rw [if_neg h]
        go_wp2_with (go_at_call 27; refine (meant_any _ _).mono ?_; rintro e w' ⟨rfl, rfl⟩)
        go_round
        case rel => exact .inr (.inr ⟨rfl, by rw [hj.out]⟩)
        case measure => simp [intOf]
    · go_wp2
      go_ret
      exact ⟨rfl, rfl⟩

theorem raise_any (n : Int) (w : World) : Calls Try.prog 17 #[.int .i64 n] w fun e w' => e = .returned (.int .i64 (Lv.raise n)) ∧ w' = w := by
  by_cases h : n = 0
  · subst h
    have hr : Lv.raise 0 = 5 := by decide
    rw [hr]
    go_enter Try.func17, Try.ntmps17
    go_wp2
    go_ret
    exact ⟨rfl, rfl⟩
  · have hn : (n == 0) = false := by simpa using h
    have hr : Lv.raise n = Lv.lv n := by unfold Lv.raise Lv.lv; split <;> simp_all
    rw [hr]
    clear h hr
    go_enter Try.func17, Try.ntmps17
    go_wp2_with (go_at_call 27; refine (meant_any _ _).mono ?_; rintro e w' ⟨rfl, rfl⟩)
    go_ret
    exact ⟨rfl, rfl⟩

theorem lower_any (n : Int) (w : World) : Calls Try.prog 19 #[.int .i64 n] w fun e w' => e = .returned (.int .i64 (Lv.lower n)) ∧ w' = w := by
  by_cases h : n = 5
  · subst h
    have hr : Lv.lower 5 = 0 := by decide
    rw [hr]
    go_enter Try.func19, Try.ntmps19
    go_wp2
    go_ret
    exact ⟨rfl, rfl⟩
  · have hn : (n == 5) = false := by simpa using h
    have hr : Lv.lower n = Lv.lv n := by unfold Lv.lower Lv.lv; split <;> simp_all
    rw [hr]
    clear h hr
    go_enter Try.func19, Try.ntmps19
    go_wp2_with (go_at_call 27; refine (meant_any _ _).mono ?_; rintro e w' ⟨rfl, rfl⟩)
    go_ret
    exact ⟨rfl, rfl⟩

theorem join_any (a b : Int) (w : World) : Calls Try.prog 13 #[.int .i64 a, .int .i64 b] w fun e w' => e = .returned (.int .i64 (Lv.join a b)) ∧ Below w.heap.size w w' := by
  go_enter Try.func13, Try.ntmps13
  go_wp2_with (go_at_call 28; refine (greatest_two _ a b _ (by go_simp) (by go_simp)).mono ?_; rintro e w' ⟨rfl, rfl⟩)
  go_ret
  exact ⟨rfl, (Below.refl _ _).alloc (Nat.le_refl _) _⟩

theorem meet_any (a b : Int) (w : World) : Calls Try.prog 15 #[.int .i64 a, .int .i64 b] w fun e w' => e = .returned (.int .i64 (Lv.meet a b)) ∧ Below w.heap.size w w' := by
  have hm : Lv.meet a b = 5 - Lv.lv (Lv.join (5 - Lv.lv a) (5 - Lv.lv b)) := by
    have a0 := Lv.lv_lo a; have a5 := Lv.lv_hi a; have b0 := Lv.lv_lo b; have b5 := Lv.lv_hi b
    rw [Lv.lv_of (Lv.join_lo _ _) (Lv.join_hi _ _)]
    unfold Lv.join Lv.meet
    rw [Lv.lv_of (n := 5 - Lv.lv a) (by omega) (by omega), Lv.lv_of (n := 5 - Lv.lv b) (by omega) (by omega)]
    split <;> split <;> omega
  rw [hm]
  clear hm
  go_enter Try.func15, Try.ntmps15
  go_wp2_with (first | (go_at_call 29; refine (mirror_any _ _).mono ?_; rintro e w' ⟨rfl, rfl⟩) | (go_at_call 28; refine (greatest_two _ (5 - Lv.lv a) (5 - Lv.lv b) _ (by go_simp) (by go_simp)).mono ?_; rintro e w' ⟨rfl, rfl⟩))
  go_ret
  exact ⟨rfl, (Below.refl _ _).alloc (Nat.le_refl _) _⟩

theorem text_any (n : Int) (w : World) : Calls Try.prog 24 #[.int .i64 n] w fun e w' => e = .returned (.string (Lv.txt n)) ∧ w' = w := by
  rcases Lv.lv_cases n with h | h | h | h | h | h
  all_goals
    unfold Lv.txt
    simp only [h]
    go_enter Try.func24, Try.ntmps24
    go_wp2_with (go_at_call 27; refine (meant_any _ _).mono ?_; rintro e w' ⟨rfl, rfl⟩)
    go_ret
    exact ⟨rfl, rfl⟩

theorem read_any (s : ByteArray) (w : World) : Calls Try.prog 22 #[.string s] w fun e w' => e = .returned (.tuple #[.int .i64 (Lv.rdN s), .int .i64 (Lv.rdE s)]) ∧ w' = w := by
  go_enter Try.func22, Try.ntmps22
  go_wp2
  go_loop [5] (fun i => ∃ k : Nat, k ≤ Lv.at_ s ∧ i = .int .i64 k) (fun i => (6 - intOf i).toNat)
  case atStart => exact ⟨0, Nat.zero_le _, rfl⟩
  case round =>
    obtain ⟨k, hk, rfl⟩ := hrel
    have hl := Lv.at_le s
    by_cases h : k < 6
    · by_cases he : Lv.txt (k : Int) = s
      · have ha := Lv.at_hit hk (by omega) he
        have hn : Hid (Lv.rdN s = k) := Lv.rdN_hit ha h
        have hm : Hid (Lv.rdE s = 0) := Lv.rdE_hit ha h
        have hb : ((Lv.txt (k : Int)).toList == s.toList) = true := by simp [he]
        clear he ha
        go_wp2_with (go_at_call 24; refine (text_any _ _).mono ?_; rintro e w' ⟨rfl, rfl⟩)
        go_ret2
        exact ⟨by rw [hn.out, hm.out]; rfl, rfl⟩
      · have ha := Lv.at_miss hk (by omega) he
        have hb : ((Lv.txt (k : Int)).toList == s.toList) = false := by
          rw [beq_eq_false_iff_ne]; exact fun e => he (Lv.toList_inj e)
        clear he
        go_wp2_with (go_at_call 24; refine (text_any _ _).mono ?_; rintro e w' ⟨rfl, rfl⟩)
        go_round
        case rel => exact ⟨k + 1, ha, by go_num⟩
        case measure => simp [intOf]; omega
    · have ha : Lv.at_ s = 6 := by omega
      have hn : Hid (Lv.rdN s = 0) := Lv.rdN_no ha
      have hm : Hid (Lv.rdE s = 11) := Lv.rdE_no ha
      have hk6 : k = 6 := by omega
      subst hk6
      clear hl hk ha
      go_wp2
      go_ret2
      exact ⟨by rw [hn.out, hm.out]; rfl, rfl⟩

theorem of_any (n : Int) (w : World) : Calls Try.prog 26 #[.int .i64 n] w fun e w' => e = .returned (.int .i64 (Lv.lv n)) ∧ w' = w := by
  by_cases h0 : n < 0
  · have hl : Lv.lv n = 2 := Lv.lv_no (by omega)
    rw [hl]
    clear hl
    go_enter Try.func26, Try.ntmps26
    go_wp2
    go_ret
    exact ⟨rfl, rfl⟩
  · by_cases h5 : 5 < n
    · have hl : Lv.lv n = 2 := Lv.lv_no (by omega)
      rw [hl]
      clear hl
      go_enter Try.func26, Try.ntmps26
      go_wp2
      go_ret
      exact ⟨rfl, rfl⟩
    · have hl : Lv.lv n = n := Lv.lv_of (by omega) (by omega)
      rw [hl]
      clear hl
      go_enter Try.func26, Try.ntmps26
      go_wp2
      go_ret
      exact ⟨rfl, rfl⟩

theorem rfit_any (n : Int) (w : World) : Calls Try.prog 10 #[.int .i64 n] w fun e w' => e = .returned (.bool (Lv.fit n)) ∧ w' = w := by
  by_cases h0 : 0 ≤ n
  · by_cases h5 : n ≤ 5
    · have hf : Lv.fit n = true := by simp [Lv.fit, h0, h5]
      rw [hf]
      go_enter Try.func10, Try.ntmps10
      go_wp2
      go_ret
      exact ⟨rfl, rfl⟩
    · have hf : Lv.fit n = false := by simp [Lv.fit, h0, h5]
      rw [hf]
      go_enter Try.func10, Try.ntmps10
      go_wp2
      go_ret
      exact ⟨rfl, rfl⟩
  · have hf : Lv.fit n = false := by simp [Lv.fit, h0]
    rw [hf]
    go_enter Try.func10, Try.ntmps10
    go_wp2
    go_ret
    exact ⟨rfl, rfl⟩

theorem rleq_any (a b : Int) (w : World) : Calls Try.prog 12 #[.int .i64 a, .int .i64 b] w fun e w' => e = .returned (.bool (Lv.leq a b)) ∧ w' = w := by
  unfold Lv.leq
  go_enter Try.func12, Try.ntmps12
  go_wp2_with (go_at_call 26; refine (of_any _ _).mono ?_; rintro e w' ⟨rfl, rfl⟩)
  go_ret
  exact ⟨rfl, rfl⟩

theorem rjoin_any (a b : Int) (w : World) : Calls Try.prog 14 #[.int .i64 a, .int .i64 b] w fun e w' => e = .returned (.int .i64 (Lv.join a b)) ∧ w' = w := by
  by_cases h : Lv.lv b < Lv.lv a
  · have hj : Lv.join a b = Lv.lv a := by unfold Lv.join; rw [if_neg (by omega)]
    rw [hj]
    clear hj
    go_enter Try.func14, Try.ntmps14
    go_wp2_with (go_at_call 26; refine (of_any _ _).mono ?_; rintro e w' ⟨rfl, rfl⟩)
    go_ret
    exact ⟨rfl, rfl⟩
  · have hj : Lv.join a b = Lv.lv b := by unfold Lv.join; split <;> omega
    rw [hj]
    clear hj
    go_enter Try.func14, Try.ntmps14
    go_wp2_with (go_at_call 26; refine (of_any _ _).mono ?_; rintro e w' ⟨rfl, rfl⟩)
    go_ret
    exact ⟨rfl, rfl⟩

theorem rmeet_any (a b : Int) (w : World) : Calls Try.prog 16 #[.int .i64 a, .int .i64 b] w fun e w' => e = .returned (.int .i64 (Lv.meet a b)) ∧ w' = w := by
  by_cases h : Lv.lv a < Lv.lv b
  · have hj : Lv.meet a b = Lv.lv a := by unfold Lv.meet; rw [if_pos h]
    rw [hj]
    clear hj
    go_enter Try.func16, Try.ntmps16
    go_wp2_with (go_at_call 26; refine (of_any _ _).mono ?_; rintro e w' ⟨rfl, rfl⟩)
    go_ret
    exact ⟨rfl, rfl⟩
  · have hj : Lv.meet a b = Lv.lv b := by unfold Lv.meet; rw [if_neg h]
    rw [hj]
    clear hj
    go_enter Try.func16, Try.ntmps16
    go_wp2_with (go_at_call 26; refine (of_any _ _).mono ?_; rintro e w' ⟨rfl, rfl⟩)
    go_ret
    exact ⟨rfl, rfl⟩

theorem rraise_any (n : Int) (w : World) : Calls Try.prog 18 #[.int .i64 n] w fun e w' => e = .returned (.int .i64 (Lv.raise n)) ∧ w' = w := by
  by_cases h : Lv.lv n = 0
  · have hr : Lv.raise n = 5 := by unfold Lv.raise; rw [if_pos h]
    have hn : (Lv.lv n == 0) = true := by simpa using h
    rw [hr]
    clear h hr
    go_enter Try.func18, Try.ntmps18
    go_wp2_with (go_at_call 26; refine (of_any _ _).mono ?_; rintro e w' ⟨rfl, rfl⟩)
    go_ret
    exact ⟨rfl, rfl⟩
  · have hr : Lv.raise n = Lv.lv n := by unfold Lv.raise; rw [if_neg h]
    have hn : (Lv.lv n == 0) = false := by simpa using h
    rw [hr]
    clear h hr
    go_enter Try.func18, Try.ntmps18
    go_wp2_with (go_at_call 26; refine (of_any _ _).mono ?_; rintro e w' ⟨rfl, rfl⟩)
    go_ret
    exact ⟨rfl, rfl⟩

theorem rlower_any (n : Int) (w : World) : Calls Try.prog 20 #[.int .i64 n] w fun e w' => e = .returned (.int .i64 (Lv.lower n)) ∧ w' = w := by
  by_cases h : Lv.lv n = 5
  · have hr : Lv.lower n = 0 := by unfold Lv.lower; rw [if_pos h]
    have hn : (Lv.lv n == 5) = true := by simpa using h
    rw [hr]
    clear h hr
    go_enter Try.func20, Try.ntmps20
    go_wp2_with (go_at_call 26; refine (of_any _ _).mono ?_; rintro e w' ⟨rfl, rfl⟩)
    go_ret
    exact ⟨rfl, rfl⟩
  · have hr : Lv.lower n = Lv.lv n := by unfold Lv.lower; rw [if_neg h]
    have hn : (Lv.lv n == 5) = false := by simpa using h
    rw [hr]
    clear h hr
    go_enter Try.func20, Try.ntmps20
    go_wp2_with (go_at_call 26; refine (of_any _ _).mono ?_; rintro e w' ⟨rfl, rfl⟩)
    go_ret
    exact ⟨rfl, rfl⟩

theorem rtext_any (n : Int) (w : World) : Calls Try.prog 25 #[.int .i64 n] w fun e w' => e = .returned (.string (Lv.txt n)) ∧ w' = w := by
  rcases Lv.lv_cases n with h | h | h | h | h | h
  all_goals
    unfold Lv.txt
    simp only [h]
    go_enter Try.func25, Try.ntmps25
    go_wp2_with (go_at_call 26; refine (of_any _ _).mono ?_; rintro e w' ⟨rfl, rfl⟩)
    go_ret
    exact ⟨rfl, rfl⟩

theorem rread_any (s : ByteArray) (w : World) : Calls Try.prog 23 #[.string s] w fun e w' => e = .returned (.tuple #[.int .i64 (Lv.rdN s), .int .i64 (Lv.rdE s)]) ∧ w' = w := by
  go_enter Try.func23, Try.ntmps23
  go_wp2
  go_loop [4] (fun i => ∃ k : Nat, k ≤ Lv.at_ s ∧ i = .int .i64 k) (fun i => (6 - intOf i).toNat)
  case atStart => exact ⟨0, Nat.zero_le _, rfl⟩
  case round =>
    obtain ⟨k, hk, rfl⟩ := hrel
    have hl := Lv.at_le s
    by_cases h : k ≤ 5
    · by_cases he : Lv.txt (k : Int) = s
      · have ha := Lv.at_hit hk (by omega) he
        have hn : Hid (Lv.rdN s = k) := Lv.rdN_hit ha (by omega)
        have hm : Hid (Lv.rdE s = 0) := Lv.rdE_hit ha (by omega)
        have hb : ((Lv.txt (k : Int)).toList == s.toList) = true := by simp [he]
        clear he ha
        go_wp2_with (go_at_call 25; refine (rtext_any _ _).mono ?_; rintro e w' ⟨rfl, rfl⟩)
        go_ret2
        exact ⟨by rw [hn.out, hm.out]; rfl, rfl⟩
      · have ha := Lv.at_miss hk (by omega) he
        have hb : ((Lv.txt (k : Int)).toList == s.toList) = false := by
          rw [beq_eq_false_iff_ne]; exact fun e => he (Lv.toList_inj e)
        clear he
        go_wp2_with (go_at_call 25; refine (rtext_any _ _).mono ?_; rintro e w' ⟨rfl, rfl⟩)
        go_round
        case rel => exact ⟨k + 1, ha, by go_num⟩
        case measure => simp [intOf]; omega
    · have ha : Lv.at_ s = 6 := by omega
      have hn : Hid (Lv.rdN s = 0) := Lv.rdN_no ha
      have hm : Hid (Lv.rdE s = 11) := Lv.rdE_no ha
      have hk6 : k = 6 := by omega
      subst hk6
      clear hl hk ha
      go_wp2
      go_ret2
      exact ⟨by rw [hn.out, hm.out]; rfl, rfl⟩

theorem awake_any (w : World) : Calls Try.prog 21 #[] w fun e w' => e = .returned (.bool true) ∧ Below w.heap.size w w' := by
  have e1 : Lv.rdE ⟨#[52]⟩ = 11 := by decide +kernel
  have e2 : Lv.join 0 4 = 4 := by decide
  have e3 : Lv.raise 0 = 5 := by decide
  have e4 : Lv.txt 5 = ⟨#[74]⟩ := by decide
  go_enter Try.func21, Try.ntmps21
  go_wp2_with (first | (go_at_call 22; refine (read_any _ _).mono ?_; rintro e w' ⟨rfl, rfl⟩) | (go_at_call 13; refine (join_any _ _ _).mono ?_; rintro e w1 ⟨rfl, hb⟩) | (go_at_call 17; refine (raise_any _ _).mono ?_; rintro e w' ⟨rfl, rfl⟩) | (go_at_call 24; refine (text_any _ _).mono ?_; rintro e w' ⟨rfl, rfl⟩))
  go_ret
  exact ⟨rfl, hb⟩

/-- Two steps of which each leaves what was there. -/
theorem next {w a b : World} (h : Below w.heap.size w a) (k : Below a.heap.size a b) : Below w.heap.size w b := h.trans (k.mono h.size)
end Go.Proofs.Ytdpacicgpiminaa
