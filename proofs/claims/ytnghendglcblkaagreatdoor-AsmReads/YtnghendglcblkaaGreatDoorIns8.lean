/-
  PROVED HERE: what the document's answers of layer 8, but for texts, return when they are called (contracts over this translation). No condition.
-/
import Derived.Test.YtnghendglcblkaaGreatDoorIns7
namespace Go.Proofs.YtnghendglcblkaaGreatDoor
open Go.RowKit Go.Shelf
set_option linter.unusedVariables false

theorem cflip {f : FuncId} {args : Array Value} {w : World} {v : Value} (h : Calls Tryz.prog f args w fun e w' => e = .returned v ∧ w = w') : Calls Tryz.prog f args w fun e w' => e = .returned v ∧ w' = w := h.mono fun _ _ ⟨a, b⟩ => ⟨a, b.symm⟩
theorem any_take {l : List UInt8} {k : Nat} {c : UInt8} (h : k < l.length) : (l.take (k + 1)).contains c = ((l.take k).contains c || (l[k] == c)) := by
  rw [List.take_succ_eq_append_getElem h]
  by_cases e : l[k] = c
  · simp only [e, List.contains_append, List.contains_cons, List.contains_nil, Bool.or_false, BEq.rfl]
  · have e1 : (l[k] == c) = false := by simpa using e
    have e2 : (c == l[k]) = false := by simpa using fun e' => e e'.symm
    simp only [e1, e2, List.contains_append, List.contains_cons, List.contains_nil, Bool.or_false]

set_option maxRecDepth 100000 in
set_option maxHeartbeats 1000000 in
theorem ruses_any (op : Int) (c : UInt8) (w : World) :
    Calls Tryz.prog 64 #[.int .i64 op, .int .u8 (c.toNat : Int)] w fun e w' => e = .returned (.bool (Ins.us op c)) ∧ w = w' := by
  obtain ⟨s, hs⟩ : ∃ s, Hid (Ins.shS op = s) := ⟨_, rfl⟩
  have hus : Hid (Ins.us op c = s.data.toList.contains c) := by show Ins.us op c = _; rw [← hs.out]; rfl
  have hsz : s.size ≤ 3 := by rw [← hs.out]; show (Ins.shp op).toArray.size ≤ 3; rcases Ins.shp_cases op with h | h | h | h | h | h | h <;> rw [h] <;> decide
  go_enter Tryz.func64, Tryz.ntmps64
  go_wp2_with (go_at_call 36; refine (rshape_any _ _).mono ?_; rintro e w' ⟨rfl, rfl⟩; rw [hs.out])
  go_loopw [6] (fun vi wr => ∃ k : Nat, vi = .int .i64 k ∧ k ≤ s.size ∧ (s.data.toList.take k).contains c = false ∧ w = wr) (fun vi _ => s.size - (intOf vi).toNat)
  case atStart => exact ⟨0, rfl, by omega, by simp, rfl⟩
  case round =>
    obtain ⟨k, rfl, hk, hin, rfl⟩ := hrel
    by_cases hks : k < s.size
    · have hks' : (k : Int) < (s.size : Int) := by omega
      have hl : k < s.data.toList.length := by simpa using hks
      have ht := any_take (c := c) hl
      rw [hin, Bool.false_or] at ht
      have hel : s.data.toList[k] = s[k]'hks := rfl
      rw [hel] at ht
      by_cases he : s[k]'hks = c
      · have hn : ((s[k]'hks).toNat : Int) = (c.toNat : Int) := by rw [he]
        have hr : Hid (Ins.us op c = true) := by
          show _ = _
          rw [hus.out]
          rw [show (s[k]'hks == c) = true by simpa using he] at ht
          have := List.mem_of_mem_take (List.contains_iff_mem.1 ht)
          exact List.contains_iff_mem.2 this
        clear ht hin hel he
        go_wp2
        go_ret
        exact ⟨by rw [hr.out]; rfl, rfl⟩
      · have hn : ¬ ((s[k]'hks).toNat : Int) = (c.toNat : Int) := fun e => he (UInt8.toNat_inj.1 (by omega))
        have HT : Hid ((s.data.toList.take (k + 1)).contains c = false) := by show _ = _; rw [ht]; simpa using he
        clear ht hin hel he
        go_wp2
        go_roundw
        case rel => exact ⟨k + 1, by go_num, by omega, HT.out, trivial⟩
        case measure => simp [intOf]; omega
    · obtain rfl : k = s.size := by omega
      have hr : Hid (Ins.us op c = false) := by show _ = _; rw [hus.out]; rw [List.take_of_length_le (by simp)] at hin; exact hin
      clear hin
      go_wp2
      go_ret
      exact ⟨by rw [hr.out]; rfl, rfl⟩
def usI (op n : Int) : Bool := Ins.us op n.toNat.toUInt8
theorem rusesI (op n : Int) (w : World) (h0 : 0 ≤ n) (h1 : n < 256) :
    Calls Tryz.prog 64 #[.int .i64 op, .int .u8 n] w fun e w' => e = .returned (.bool (usI op n)) ∧ w' = w := by
  have h := ruses_any op n.toNat.toUInt8 w
  have e : ((n.toNat.toUInt8).toNat : Int) = n := by rw [Nat.toUInt8_eq, UInt8.toNat_ofNat']; omega
  rw [e] at h
  exact cflip h
set_option maxRecDepth 100000 in
set_option maxHeartbeats 4000000 in
theorem rfit_any (op a b c i : Int) (w : World) :
    Calls Tryz.prog 61 #[.agg #[.int .i64 op, .int .i64 a, .int .i64 b, .int .i64 c, .int .i32 i]] w fun e w' => e = .returned (.bool (Ins.fitB op a b c i)) ∧ Below w.heap.size w w' := by
  have hr : Hid (Ins.fitB op a b c i = (decide (0 ≤ op) && decide (op < 26) && Ins.rg a (usI op 97) && Ins.rg b (usI op 98) && Ins.rg c (usI op 99) && (i == 0 || usI op 105))) := rfl
  cases d1 : decide (0 ≤ op) with
  | false =>
    have h1 : ¬ 0 ≤ op := by simpa using d1
    have hf : Hid (Ins.fitB op a b c i = false) := by show _ = _; rw [hr.out, d1]; simp
    go_enter Tryz.func61, Tryz.ntmps61
    go_wp2
    go_quiet (first | (go_at_call 64; refine Calls.quiet_of_same (rusesI _ _ _ (by omega) (by omega))) | (go_at_call 86; refine Calls.quiet_of_same (cflip (rreg_any _ _ _))))
    go_wp2
    go_ret
    exact ⟨by rw [hf.out]; rfl, below_drewN ((Below.refl _ w).alloc (Nat.le_refl _) _) _⟩
  | true =>
    have h1 : 0 ≤ op := by simpa using d1
    cases d2 : decide (op < 26) with
    | false =>
      have h2 : ¬ op < 26 := by simpa using d2
      have hf : Hid (Ins.fitB op a b c i = false) := by show _ = _; rw [hr.out, d1, d2]; simp
      go_enter Tryz.func61, Tryz.ntmps61
      go_wp2
      go_quiet (first | (go_at_call 64; refine Calls.quiet_of_same (rusesI _ _ _ (by omega) (by omega))) | (go_at_call 86; refine Calls.quiet_of_same (cflip (rreg_any _ _ _))))
      go_wp2
      go_ret
      exact ⟨by rw [hf.out]; rfl, below_drewN ((Below.refl _ w).alloc (Nat.le_refl _) _) _⟩
    | true =>
      have h2 : op < 26 := by simpa using d2
      cases ha : Ins.rg a (usI op 97) with
      | false =>
        have hf : Hid (Ins.fitB op a b c i = false) := by show _ = _; rw [hr.out, ha]; simp
        go_enter Tryz.func61, Tryz.ntmps61
        go_wp2
        go_quiet (first | (go_at_call 64; refine Calls.quiet_of_same (rusesI _ _ _ (by omega) (by omega))) | (go_at_call 86; refine Calls.quiet_of_same (cflip (rreg_any _ _ _))))
        go_wp2
        go_ret
        exact ⟨by rw [hf.out]; rfl, below_drewN ((Below.refl _ w).alloc (Nat.le_refl _) _) _⟩
      | true =>
        cases hb : Ins.rg b (usI op 98) with
        | false =>
          have hf : Hid (Ins.fitB op a b c i = false) := by show _ = _; rw [hr.out, hb]; simp
          go_enter Tryz.func61, Tryz.ntmps61
          go_wp2
          go_quiet (first | (go_at_call 64; refine Calls.quiet_of_same (rusesI _ _ _ (by omega) (by omega))) | (go_at_call 86; refine Calls.quiet_of_same (cflip (rreg_any _ _ _))))
          go_wp2
          go_ret
          exact ⟨by rw [hf.out]; rfl, below_drewN ((Below.refl _ w).alloc (Nat.le_refl _) _) _⟩
        | true =>
          cases hc : Ins.rg c (usI op 99) with
          | false =>
            have hf : Hid (Ins.fitB op a b c i = false) := by show _ = _; rw [hr.out, hc]; simp
            go_enter Tryz.func61, Tryz.ntmps61
            go_wp2
            go_quiet (first | (go_at_call 64; refine Calls.quiet_of_same (rusesI _ _ _ (by omega) (by omega))) | (go_at_call 86; refine Calls.quiet_of_same (cflip (rreg_any _ _ _))))
            go_wp2
            go_ret
            exact ⟨by rw [hf.out]; rfl, below_drewN ((Below.refl _ w).alloc (Nat.le_refl _) _) _⟩
          | true =>
            cases hi : (i == 0) with
            | true =>
              obtain rfl : i = 0 := by simpa using hi
              have hf : Hid (Ins.fitB op a b c 0 = true) := by show _ = _; rw [hr.out, d1, d2, ha, hb, hc]; simp
              go_enter Tryz.func61, Tryz.ntmps61
              go_wp2
              go_quiet (first | (go_at_call 64; refine Calls.quiet_of_same (rusesI _ _ _ (by omega) (by omega))) | (go_at_call 86; refine Calls.quiet_of_same (cflip (rreg_any _ _ _))))
              go_wp2
              go_ret
              exact ⟨by rw [hf.out]; rfl, below_drewN ((Below.refl _ w).alloc (Nat.le_refl _) _) _⟩
            | false =>
              have hi' : ¬ i = 0 := by simpa using hi
              have hf : Hid (Ins.fitB op a b c i = usI op 105) := by show _ = _; rw [hr.out, d1, d2, ha, hb, hc, hi]; simp
              go_enter Tryz.func61, Tryz.ntmps61
              go_wp2
              go_quiet (first | (go_at_call 64; refine Calls.quiet_of_same (rusesI _ _ _ (by omega) (by omega))) | (go_at_call 86; refine Calls.quiet_of_same (cflip (rreg_any _ _ _))))
              go_wp2
              go_ret
              exact ⟨by rw [hf.out]; rfl, below_drewN ((Below.refl _ w).alloc (Nat.le_refl _) _) _⟩
end Go.Proofs.YtnghendglcblkaaGreatDoor
