/-
  PROVED HERE: what Text of package curtilageref10 returns when it is called (a contract over this translation). At most 65536 lines.
-/
import Derived.Test.YtagljcgfmdahhaaGreatDoorAsmR3
namespace Go.Proofs.YtagljcgfmdahhaaGreatDoor
open Go.RowKit Go.Shelf
set_option linter.unusedVariables false
open Asm

theorem sb_app (x : List UInt8) (t : ByteArray) : sb (x ++ (bl t ++ [10])) = sb x ++ t ++ ⟨#[10]⟩ := by
  refine ba_ext ?_
  show x ++ (bl t ++ [10]) = _
  rw [app_list, app_list, List.append_assoc]
  rfl
set_option maxRecDepth 100000 in
set_option maxHeartbeats 2000000 in
theorem rprg_any (ao : Option Addr) (n cap : Nat) (l : List Ln) (w : World) (hn : n ≤ 65536) (h : Lns w.heap.size w ao n cap l) (hok : Okl l) :
    Calls Tryz.prog 16 #[.slice ao n cap] w fun e w' => e = .returned (.string (prg l)) ∧ Below w.heap.size w w' := by
  have hlen : Hid (l.length = n) := h.1
  go_enter Tryz.func16, Tryz.ntmps16
  go_wp2
  go_loopw [3, 4] (fun vs vi wr => ∃ (k : Nat) (S : ByteArray), k ≤ n ∧ vi = .int .i64 k ∧ vs = .string S ∧ Hid (S = sb (txL (l.take k))) ∧ S.size ≤ 131 * k ∧ Hid (∀ x ∈ l.take k, goodB x = true) ∧ Below w.heap.size w wr) (fun _ vi _ => n - (intOf vi).toNat)
  case atStart => exact ⟨0, ⟨#[]⟩, Nat.zero_le _, rfl, rfl, rfl, Nat.le_refl _, fun x hx => by simp at hx, Below.refl _ _⟩
  case round =>
    obtain ⟨k, S, hk, rfl, rfl, hS, hsz, hgd, hB⟩ := hrel
    by_cases hks : k < n
    · obtain ⟨b, off, m', op, a, b', c, i', tt, rfl, hb, hx, c0, c1, c2, c3, c4, c5, c6⟩ := LnsD.at (h.next hB) hks
      have hNx := h.next hB
      have hkl : Hid (k < l.length) := by show k < l.length; rw [hlen.out]; exact hks
      obtain ⟨⟨_, _, _, _, hi0, hi1⟩, hsm, hst⟩ := hok.at hkl.out hx.out
      have hto := fun W => rgood_any ⟨m', op, a, b', c, i', tt⟩ hsm hst W
      have hlt := fun hg W => rline_any ⟨m', op, a, b', c, i', tt⟩ hi0 hi1 hg W
      have hls : (lineT ⟨m', op, a, b', c, i', tt⟩).size ≤ 130 := line_size hi0 hi1
      have hstp : Hid (sb (txL (l.take (k + 1))) = S ++ lineT ⟨m', op, a, b', c, i', tt⟩ ++ ⟨#[10]⟩) := by show _ = _; rw [txL_take hkl.out, hx.out, hS.out]; exact sb_app _ _
      have hgn : Hid (goodB ⟨m', op, a, b', c, i', tt⟩ = false → prg l = ⟨#[]⟩) := fun hf => prg_no hkl.out (by rw [hx.out]; exact hf)
      have hgy : Hid (goodB ⟨m', op, a, b', c, i', tt⟩ = true → ∀ x ∈ l.take (k + 1), goodB x = true) := fun hf x hx' => by
        rw [take_snoc hkl.out] at hx'
        rcases List.mem_append.1 hx' with h1 | h1
        · exact hgd.out x h1
        · rw [List.mem_singleton.1 h1, hx.out]; exact hf
      unfold lnV at hto hlt
      dsimp only at hto hlt
      cases hg : goodB ⟨m', op, a, b', c, i', tt⟩ with
      | false =>
        have hp : Hid (prg l = ⟨#[]⟩) := hgn.out hg
        simp only [hg] at hto
        clear hgn hgy hlt hstp
        go_wp2_with (go_at_call 33; refine (hto _).mono ?_; rintro e w3 ⟨rfl, hb3⟩)
        go_ret
        exact ⟨by rw [hp.out]; rfl, hB.trans (hb3.mono hB.size)⟩
      | true =>
        have hq : Hid (∀ x ∈ l.take (k + 1), goodB x = true) := hgy.out hg
        have hlt2 := fun W => hlt hg W
        simp only [hg] at hto
        clear hgn hgy hlt
        obtain ⟨tx, ht⟩ : ∃ tx, lineT ⟨m', op, a, b', c, i', tt⟩ = tx := ⟨_, rfl⟩
        simp only [ht] at hlt2
        rw [ht] at hls hstp
        clear ht
        have hz1 : (9223372036854775807 < S.size + tx.size) = False := by simp; omega
        have hz2 : (9223372036854775807 < S.size + tx.size + 1) = False := by simp; omega
        go_wp2_with (first | (go_at_call 33; refine (hto _).mono ?_; rintro e w3 ⟨rfl, hb3⟩; obtain ⟨_, _, _, _, _, _, _, _, _, he0, _, hy, g0, g1, g2, g3, g4, g5, g6⟩ := LnsD.at (hNx.next hb3) hks; cases he0; have hy := hx.out.symm.trans hy.out; simp only [Ln.mk.injEq] at hy; obtain ⟨rfl, rfl, rfl, rfl, rfl, rfl, rfl⟩ := hy) | (go_at_call 34; refine (hlt2 _).mono ?_; rintro e w4 ⟨rfl, hb4⟩))
        go_roundw
        case rel => exact ⟨k + 1, S ++ tx ++ ⟨#[10]⟩, by omega, by simp, rfl, (by show _ = _; exact hstp.out.symm), by rw [ByteArray.size_append, ByteArray.size_append]; show S.size + tx.size + 1 ≤ _; omega, hq, hB.trans ((hb3.trans (hb4.mono hb3.size)).mono hB.size)⟩
        case measure => simp [intOf]; omega
    · obtain rfl : k = n := by omega
      have hr : Hid (prg l = S) := by
        show _ = _
        have h3 := hgd.out
        have h4 := hS.out
        rw [← hlen.out, List.take_length] at h3 h4
        rw [prg_yes h3, h4]
      go_wp2
      go_ret
      exact ⟨by rw [hr.out]; rfl, hB⟩
end Go.Proofs.YtagljcgfmdahhaaGreatDoor
