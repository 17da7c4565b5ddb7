/-
  PROVED HERE: what isDigit, isLetter, isName, isMark, mayGo and isInstruction of package asm return when they are called (contracts over this translation). Names of at most 65536 bytes.
-/
import Derived.Test.YtnghendglcblkaaGreatDoorAsm2
namespace Go.Proofs.YtnghendglcblkaaGreatDoor
open Go.RowKit Go.Shelf
set_option linter.unusedVariables false
open Asm

/-- A line as values. -/
def lnV (x : Ln) : Array Value := #[.string x.mark, .int .i64 x.op, .int .i64 x.a, .int .i64 x.b, .int .i64 x.c, .int .i32 x.i, .string x.to]
theorem em_list (s : ByteArray) : s.toList.isEmpty = emB s := by
  unfold emB
  rw [Bool.eq_iff_iff, beq_iff_eq, List.isEmpty_iff, ByteArray.toList_eq, ← size_list]
  exact List.length_eq_zero_iff.symm
theorem digit_any (c : UInt8) (w : World) :
    Calls Tryz.prog 82 #[.int .u8 (c.toNat : Int)] w fun e w' => e = .returned (.bool (digB c)) ∧ w = w' := by
  have h := c.toNat_lt
  go_enter Tryz.func82, Tryz.ntmps82
  unfold digB
  go_wp2
  all_goals (go_ret; refine ⟨congrArg (fun z => Ending.returned (.bool z)) ?_, rfl⟩; (try rw [Bool.eq_iff_iff]); simp; omega)
theorem letter_any (c : UInt8) (w : World) :
    Calls Tryz.prog 83 #[.int .u8 (c.toNat : Int)] w fun e w' => e = .returned (.bool (letB c)) ∧ w = w' := by
  have h := c.toNat_lt
  go_enter Tryz.func83, Tryz.ntmps83
  unfold letB
  go_wp2
  all_goals (go_ret; refine ⟨congrArg (fun z => Ending.returned (.bool z)) ?_, rfl⟩; (try rw [Bool.eq_iff_iff]); simp; omega)
theorem mayGo_any (op a b c i : Int) (w : World) :
    Calls Tryz.prog 57 #[.agg #[.int .i64 op, .int .i64 a, .int .i64 b, .int .i64 c, .int .i32 i]] w fun e w' => e = .returned (.bool (goB op i)) ∧ Below w.heap.size w w' := by
  go_enter Tryz.func57, Tryz.ntmps57
  have hB : Below w.heap.size w (w.alloc (.cells #[.int .i64 op, .int .i64 a, .int .i64 b, .int .i64 c, .int .i32 i] 35)) := (Below.refl _ w).alloc (Nat.le_refl _) _
  by_cases hj : op = 18 ∨ op = 19 ∨ op = 20 ∨ op = 21
  · have hr : Hid (goB op i = (i == 0)) := by
      show _ = _
      rcases hj with rfl | rfl | rfl | rfl <;> simp [goB, jmpB]
    rcases hj with rfl | rfl | rfl | rfl
    all_goals (go_wp2; go_ret; exact ⟨by rw [hr.out]; rfl, hB⟩)
  · have h18 : ¬ op = 18 := fun e => hj (by omega)
    have h19 : ¬ op = 19 := fun e => hj (by omega)
    have h20 : ¬ op = 20 := fun e => hj (by omega)
    have h21 : ¬ op = 21 := fun e => hj (by omega)
    have hr : Hid (goB op i = (op == 1)) := by show _ = _; simp [goB, jmpB, h18, h19, h20, h21]
    go_wp2
    go_ret
    exact ⟨by rw [hr.out]; rfl, hB⟩
theorem at_list {s : ByteArray} {k : Nat} (h : k < s.size) : s.data.toList[k]'(by rw [size_list]; exact h) = s[k] := by rw [Array.getElem_toList]; rfl
def ldB (c : UInt8) : Bool := letB c || digB c
theorem nameL_cons (c : UInt8) (l : List UInt8) : nameL (c :: l) = (decide (l.length < 16) && !digB c && (c :: l).all ldB) := rfl
theorem nameB_false {s : ByteArray} (h : s.size = 0 ∨ 16 < s.size) : nameB s = false := by
  unfold nameB
  rw [← size_list] at h
  cases hl : s.data.toList with
  | nil => rfl
  | cons c l =>
    rw [hl, List.length_cons] at h
    rw [nameL_cons, decide_eq_false (by omega)]; rfl
theorem nameL_at {l : List UInt8} (h0 : 0 < l.length) (h1 : l.length ≤ 16) : nameL l = (!digB (l[0]'h0) && l.all ldB) := by
  cases l with
  | nil => simp at h0
  | cons c l => rw [List.length_cons] at h1; rw [nameL_cons, decide_eq_true (by omega)]; rfl
theorem nameB_at {s : ByteArray} (h0 : 0 < s.size) (h1 : s.size ≤ 16) : nameB s = (!digB (s[0]'h0) && s.data.toList.all ldB) := by
  unfold nameB
  rw [nameL_at (by rw [size_list]; exact h0) (by rw [size_list]; exact h1), at_list h0]
theorem all_take {l : List UInt8} {p : UInt8 → Bool} {k : Nat} (h : k < l.length) (hp : (l.take k).all p = true) : (l.take (k + 1)).all p = p l[k] := by
  rw [List.take_succ_eq_append_getElem h, List.all_append, hp]; simp
theorem all_no {l : List UInt8} {p : UInt8 → Bool} {k : Nat} (h : k < l.length) (hp : p l[k] = false) : l.all p = false := by
  rw [List.all_eq_false]; exact ⟨_, List.getElem_mem h, by simp [hp]⟩
set_option maxRecDepth 100000 in
set_option maxHeartbeats 2000000 in
theorem name_any (s : ByteArray) (hs : s.size ≤ 65536) (w : World) :
    Calls Tryz.prog 56 #[.string s] w fun e w' => e = .returned (.bool (nameB s)) ∧ w = w' := by
  have he := em_list s
  go_enter Tryz.func56, Tryz.ntmps56
  by_cases h0 : s.size = 0
  · have hr : Hid (nameB s = false) := nameB_false (.inl h0)
    have he2 : s.toList.isEmpty = true := by rw [he]; simp [emB, h0]
    clear he
    go_wp2
    go_ret
    exact ⟨by rw [hr.out]; rfl, rfl⟩
  · have he2 : s.toList.isEmpty = false := by rw [he]; simp [emB, h0]
    clear he
    by_cases h1 : 16 < s.size
    · have hr : Hid (nameB s = false) := nameB_false (.inr h1)
      go_wp2
      go_ret
      exact ⟨by rw [hr.out]; rfl, rfl⟩
    · have h00 : 0 < s.size := by omega
      have hN : Hid (nameB s = (!digB (s[0]'h00) && s.data.toList.all ldB)) := nameB_at h00 (by omega)
      cases hd : digB (s[0]'h00) with
      | true =>
        have hr : Hid (nameB s = false) := by show _ = _; rw [hN.out, hd]; rfl
        go_wp2_with (go_at_call 82; refine (digit_any _ _).mono ?_; rintro e w' ⟨rfl, rfl⟩)
        go_ret
        exact ⟨by rw [hr.out]; rfl, rfl⟩
      | false =>
        have hN2 : Hid (nameB s = s.data.toList.all ldB) := by show _ = _; rw [hN.out, hd]; rfl
        clear hN
        go_wp2_with (go_at_call 82; refine (digit_any _ _).mono ?_; rintro e w' ⟨rfl, rfl⟩)
        clear hd
        go_loopw [18] (fun vi wr => ∃ k : Nat, k ≤ s.size ∧ vi = .int .i64 k ∧ Hid ((s.data.toList.take k).all ldB = true) ∧ w = wr) (fun vi _ => s.size - (intOf vi).toNat)
        case atStart => exact ⟨0, Nat.zero_le _, rfl, rfl, rfl⟩
        case round =>
          obtain ⟨k, hk, rfl, hp, rfl⟩ := hrel
          by_cases hks : k < s.size
          · have hks' : k < s.data.toList.length := by rw [size_list]; exact hks
            have hat := at_list hks
            cases hl : letB (s[k]'hks) with
            | true =>
              have hq : Hid ((s.data.toList.take (k + 1)).all ldB = true) := by show _ = _; rw [all_take hks' hp.out, hat]; simp [ldB, hl]
              clear hat
              go_wp2_with (first | (go_at_call 83; refine (letter_any _ _).mono ?_; rintro e w' ⟨rfl, rfl⟩) | (go_at_call 82; refine (digit_any _ _).mono ?_; rintro e w' ⟨rfl, rfl⟩))
              go_roundw
              case rel => exact ⟨k + 1, by omega, by simp, hq, trivial⟩
              case measure => simp [intOf]; omega
            | false =>
              cases hdg : digB (s[k]'hks) with
              | true =>
                have hq : Hid ((s.data.toList.take (k + 1)).all ldB = true) := by show _ = _; rw [all_take hks' hp.out, hat]; simp [ldB, hdg]
                clear hat
                go_wp2_with (first | (go_at_call 83; refine (letter_any _ _).mono ?_; rintro e w' ⟨rfl, rfl⟩) | (go_at_call 82; refine (digit_any _ _).mono ?_; rintro e w' ⟨rfl, rfl⟩))
                go_roundw
                case rel => exact ⟨k + 1, by omega, by simp, hq, trivial⟩
                case measure => simp [intOf]; omega
              | false =>
                have hr : Hid (nameB s = false) := by show _ = _; rw [hN2.out, all_no hks' (by rw [hat]; simp [ldB, hl, hdg])]
                clear hat
                go_wp2_with (first | (go_at_call 83; refine (letter_any _ _).mono ?_; rintro e w' ⟨rfl, rfl⟩) | (go_at_call 82; refine (digit_any _ _).mono ?_; rintro e w' ⟨rfl, rfl⟩))
                go_ret
                exact ⟨by rw [hr.out]; rfl, rfl⟩
          · obtain rfl : k = s.size := by omega
            have hr : Hid (nameB s = true) := by show _ = _; rw [hN2.out]; have := hp.out; rw [← size_list, List.take_length] at this; exact this
            go_wp2
            go_ret
            exact ⟨by rw [hr.out]; rfl, rfl⟩
end Go.Proofs.YtnghendglcblkaaGreatDoor
