/-
  PROVED HERE: what List of package curtilageref10 returns when it is called (a contract over this translation). At most 65536 words.
-/
import Derived.Test.YtagljcgfmdahhaaGreatDoorAsmQ4
namespace Go.Proofs.YtagljcgfmdahhaaGreatDoor
open Go.RowKit Go.Shelf
set_option linter.unusedVariables false
open Asm

theorem ba_app {x y : List UInt8} {t : ByteArray} (h : y = x ++ t.data.toList) : (⟨y.toArray⟩ : ByteArray) = ⟨x.toArray⟩ ++ t := by
  refine ba_ext ?_
  rw [app_list, h]
set_option maxRecDepth 100000 in
set_option maxHeartbeats 2000000 in
theorem rlist_any (ao : Option Addr) (n cap : Nat) (ws : List Int) (w : World) (hn : n ≤ 65536) (h : Wds w.heap.size w ao n cap ws) (h64 : W64 ws) :
    Calls Tryz.prog 18 #[.slice ao n cap] w fun e w' => e = .returned (.string (lstS ws)) ∧ Below w.heap.size w w' := by
  have hlen : Hid (ws.length = n) := h.1
  go_enter Tryz.func18, Tryz.ntmps18
  go_wp2
  go_loopw [3, 4] (fun vs vi wr => ∃ (k : Nat) (S : ByteArray), k ≤ n ∧ vi = .int .i64 k ∧ vs = .string S ∧ Hid (S = lstS (ws.take k)) ∧ S.size ≤ 200 * k ∧ Below w.heap.size w wr) (fun _ vi _ => n - (intOf vi).toNat)
  case atStart => exact ⟨0, ⟨#[]⟩, Nat.zero_le _, rfl, rfl, rfl, Nat.le_refl _, Below.refl _ _⟩
  case round =>
    obtain ⟨k, S, hk, rfl, rfl, hS, hsz, hB⟩ := hrel
    by_cases hks : k < n
    · obtain ⟨b, off, x, rfl, hb, hx, c0⟩ := Wds.at (h.later hB) hks
      have hkl : Hid (k < ws.length) := by show k < ws.length; rw [hlen.out]; exact hks
      obtain ⟨x0, x1⟩ : 0 ≤ x ∧ x < 18446744073709551616 := h64 x (by rw [← hx.out, List.getD_eq_getElem?_getD, List.getElem?_eq_getElem hkl.out]; exact List.getElem_mem _)
      have hst : Hid (lstS (ws.take (k + 1)) = S ++ lnW x) := by show _ = _; rw [hS.out]; exact ba_app (by rw [lstL_take hkl.out, hx.out])
      cases hd : Ins.decB x with
      | true =>
        obtain ⟨_, _, _, _, hi0, hi1⟩ := Ins.fields_bounds x0 x1
        have hts := txS_size' x x0 x1
        have htx : Hid (lnW x = txS (Ins.fOp x) (Ins.fA x) (Ins.fB x) (Ins.fC x) (Ins.fI x) ++ ⟨#[10]⟩) := by show _ = _; unfold lnW; rw [hd]; rfl
        have hta := fun W2 => rtext_any (Ins.fOp x) (Ins.fA x) (Ins.fB x) (Ins.fC x) (Ins.fI x) hi0 hi1 W2
        obtain ⟨tx, ht⟩ : ∃ tx, txS (Ins.fOp x) (Ins.fA x) (Ins.fB x) (Ins.fC x) (Ins.fI x) = tx := ⟨_, rfl⟩
        simp only [ht] at hta
        rw [ht] at htx hts
        clear ht
        have hz1 : (9223372036854775807 < S.size + tx.size) = False := by simp; omega
        have hz2 : (9223372036854775807 < S.size + tx.size + 1) = False := by simp; omega
        go_wp2_with (first | (go_at_call 23; refine (rdecode_ok x x0 x1 hd _).mono ?_; rintro e w3 ⟨rfl, hb3⟩; have hb3a : Below wr.heap.size wr (w3.alloc (.cells #[.int .i64 (Ins.fOp x), .int .i64 (Ins.fA x), .int .i64 (Ins.fB x), .int .i64 (Ins.fC x), .int .i32 (Ins.fI x)] 45)) := hb3.alloc hb3.size _) | (go_at_call 37; refine (hta _).mono ?_; rintro e w4 ⟨rfl, hb4⟩; have hb4a : Below wr.heap.size wr w4 := hb3a.trans (hb4.mono hb3a.size)))
        go_roundw
        case rel => exact ⟨k + 1, S ++ tx ++ ⟨#[10]⟩, by omega, by simp, rfl, by show _ = _; rw [hst.out, htx.out, ByteArray.append_assoc], by rw [ByteArray.size_append, ByteArray.size_append]; show S.size + tx.size + 1 ≤ _; omega, hB.trans (hb4a.mono hB.size)⟩
        case measure => simp [intOf]; omega
      | false =>
        have htx : Hid (lnW x = ⟨#[63, 10]⟩) := by show _ = _; unfold lnW; rw [hd]; rfl
        have hz1 : (9223372036854775807 < S.size + 2) = False := by simp; omega
        go_wp2_with (go_at_call 23; refine (rdecode_no x x0 x1 hd _).mono ?_; rintro e w3 ⟨rfl, hb3⟩; have hb3a : Below wr.heap.size wr (w3.alloc (.cells #[.int .i64 0, .int .i64 0, .int .i64 0, .int .i64 0, .int .i32 0] 45)) := hb3.alloc hb3.size _)
        go_roundw
        case rel => exact ⟨k + 1, S ++ ⟨#[63, 10]⟩, by omega, by simp, rfl, by show _ = _; rw [hst.out, htx.out], by rw [ByteArray.size_append]; show S.size + 2 ≤ _; omega, hB.trans (hb3a.mono hB.size)⟩
        case measure => simp [intOf]; omega
    · obtain rfl : k = n := by omega
      have hr : Hid (S = lstS ws) := by show _ = _; have h3 := hS.out; rw [← hlen.out, List.take_length] at h3; exact h3
      go_wp2
      go_ret
      exact ⟨by rw [← hr.out]; rfl, hB⟩
end Go.Proofs.YtagljcgfmdahhaaGreatDoor
