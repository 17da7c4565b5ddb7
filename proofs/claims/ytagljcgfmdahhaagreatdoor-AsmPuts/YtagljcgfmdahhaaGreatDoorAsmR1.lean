/-
  PROVED HERE: what Find and List of package curtilageref10 return when they are called (contracts over this translation). At most 65536 lines, 65536 words.
-/
import Derived.Test.YtagljcgfmdahhaaGreatDoorAsmQ4
namespace Go.Proofs.YtagljcgfmdahhaaGreatDoor
open Go.RowKit Go.Shelf
set_option linter.unusedVariables false
open Asm

set_option maxRecDepth 100000 in
set_option maxHeartbeats 2000000 in
theorem rfind_any (ao : Option Addr) (n cap : Nat) (l : List Ln) (m : ByteArray) (w : World) (hn : n ≤ 65536) (h : Lns w.heap.size w ao n cap l) :
    Calls Tryz.prog 13 #[.slice ao n cap, .string m] w fun e w' => e = .returned (.tuple #[.int .i64 (((fnd m l 0).getD 0 : Nat) : Int), .bool (fnd m l 0).isSome]) ∧ Below w.heap.size w w' := by
  have hlen : Hid (l.length = n) := h.1
  go_enter Tryz.func13, Tryz.ntmps13
  go_wp2
  go_loopw [6, 7] (fun va vi wr => ∃ k c : Nat, k ≤ n ∧ c ≤ 65536 ∧ vi = .int .i64 k ∧ va = .int .i64 c ∧ Hid (cnt (l.take k) = c) ∧ Hid (fnd m (l.take k) 0 = none) ∧ Below w.heap.size w wr) (fun _ vi _ => n - (intOf vi).toNat)
  case atStart => exact ⟨0, 0, Nat.zero_le _, by omega, rfl, rfl, rfl, rfl, Below.refl _ _⟩
  case round =>
    obtain ⟨k, cc, hk, hcc, rfl, rfl, hct, hf, hB⟩ := hrel
    by_cases hks : k < n
    · obtain ⟨b, off, m', op, a, b', c, i', tt, rfl, hb, hx, c0, c1, c2, c3, c4, c5, c6⟩ := LnsD.at (h.later hB) hks
      have hkl : Hid (k < l.length) := by show k < l.length; rw [hlen.out]; exact hks
      have hxm : Hid ((l.getD k default).mark = m') := by show _ = _; rw [hx.out]
      have he := em_list m'
      have hcl := cntK_le l (k + 1)
      cases hem : emB m' with
      | true =>
        rw [hem] at he
        have hc2 : Hid (cnt (l.take (k + 1)) = cc + 1) := by show _ = _; rw [cnt_hit hkl.out (by rw [hxm.out]; exact hem), hct.out]
        have hf2 : Hid (fnd m (l.take (k + 1)) 0 = none) := fnd_step hkl.out hf.out (.inl (by rw [hxm.out]; exact hem))
        rw [hc2.out] at hcl
        have hcc2 : cc + 1 ≤ 65536 := by omega
        clear hcl hem
        go_wp2
        go_roundw
        case rel => exact ⟨k + 1, cc + 1, by omega, hcc2, by simp, by simp, hc2, hf2, hB⟩
        case measure => simp [intOf]; omega
      | false =>
        rw [hem] at he
        have hq := list_beq m' m
        by_cases hmm : m' = m
        · have hr : Hid (fnd m l 0 = some cc) := by show _ = _; rw [fnd_hit hkl.out hf.out (by rw [hxm.out]; exact hem) (by rw [hxm.out]; exact hmm), hct.out]
          rw [decide_eq_true hmm] at hq
          clear hmm hcl hem
          go_wp2
          go_ret2
          exact ⟨by rw [hr.out]; rfl, hB⟩
        · have hf2 : Hid (fnd m (l.take (k + 1)) 0 = none) := fnd_step hkl.out hf.out (.inr (by rw [hxm.out]; exact hmm))
          have hc2 : Hid (cnt (l.take (k + 1)) = cc) := by show _ = _; rw [cnt_miss hkl.out (by rw [hxm.out]; exact hem), hct.out]
          rw [decide_eq_false hmm] at hq
          clear hmm hcl hem
          go_wp2
          go_roundw
          case rel => exact ⟨k + 1, cc, by omega, hcc, by simp, rfl, hc2, hf2, hB⟩
          case measure => simp [intOf]; omega
    · obtain rfl : k = n := by omega
      have hr : Hid (fnd m l 0 = none) := by show _ = _; have := hf.out; rw [← hlen.out, List.take_length] at this; exact this
      go_wp2
      go_ret2
      exact ⟨by rw [hr.out]; rfl, hB⟩
end Go.Proofs.YtagljcgfmdahhaaGreatDoor
