/-
  PROVED HERE: what Text of package asm returns when it is called: lines as a text (a contract over this translation). At most 65536 lines.
-/
import Derived.Test.YtagljcgfmdahhaaGreatDoorAsmQ1
namespace Go.Proofs.YtagljcgfmdahhaaGreatDoor
open Go.RowKit Go.Shelf
set_option linter.unusedVariables false
open Asm

theorem txL_take {l : List Ln} {k : Nat} (h : k < l.length) : txL (l.take (k + 1)) = txL (l.take k) ++ (bl (lineT (l.getD k default)) ++ [10]) := by
  unfold txL
  rw [take_snoc h, List.flatMap_append]
  simp
theorem prg_yes {l : List Ln} (h : ∀ x ∈ l, goodB x = true) : prg l = sb (txL l) := by unfold prg; rw [if_pos (List.all_eq_true.2 h)]
theorem prg_no {l : List Ln} {k : Nat} (h : k < l.length) (hg : goodB (l.getD k default) = false) : prg l = ⟨#[]⟩ := by
  unfold prg
  rw [if_neg]
  intro ha
  have := List.all_eq_true.1 ha (l.getD k default) (by rw [List.getD_eq_getElem?_getD, List.getElem?_eq_getElem h]; exact List.getElem_mem h)
  rw [hg] at this
  cases this
set_option maxRecDepth 100000 in
set_option maxHeartbeats 2000000 in
theorem prg_any (ao : Option Addr) (n cap : Nat) (l : List Ln) (w : World) (hn : n ≤ 65536) (h : Lns w.heap.size w ao n cap l) (hok : Okl l) (hv : Vars w) :
    Calls Tryz.prog 15 #[.slice ao n cap] w fun e w' => e = .returned (.string (prg l)) ∧ Below w.heap.size w w' := by
  have hlen : Hid (l.length = n) := h.1
  go_enter Tryz.func15, Tryz.ntmps15
  go_wp2
  go_loopw [9] (fun vi wr => ∃ k : Nat, k ≤ n ∧ vi = .int .i64 k ∧ Lib.IsBuilder 65 5 w.heap.size w.heap.size (Lib.byteCells (txL (l.take k))) wr ∧ (txL (l.take k)).length ≤ 131 * k ∧ Hid (∀ x ∈ l.take k, goodB x = true) ∧ Below w.heap.size w wr) (fun vi _ => n - (intOf vi).toNat)
  case atStart => exact ⟨0, Nat.zero_le _, rfl, bld_new w, Nat.le_refl _, fun x hx => by simp at hx, (Below.refl _ w).alloc (Nat.le_refl _) _⟩
  case round =>
    obtain ⟨k, hk, rfl, hbd, hsz, hgd, hB⟩ := hrel
    by_cases hks : k < n
    · obtain ⟨b, off, m', op, a, b', c, i', tt, rfl, hb, hx, c0, c1, c2, c3, c4, c5, c6⟩ := LnsD.at (h.next hB) hks
      have hkl : Hid (k < l.length) := by show k < l.length; rw [hlen.out]; exact hks
      obtain ⟨⟨_, _, _, _, hi0, hi1⟩, hsm, hst⟩ := hok.at hkl.out hx.out
      have hBa : Below wr.heap.size wr (wr.alloc (.cells #[.string m', .int .i64 op, .int .i64 a, .int .i64 b', .int .i64 c, .int .i32 i', .string tt] 47)) := (Below.refl _ wr).alloc (Nat.le_refl _) _
      have hto := textOf_any ⟨m', op, a, b', c, i', tt⟩ hi0 hi1 hsm hst (wr.alloc (.cells #[.string m', .int .i64 op, .int .i64 a, .int .i64 b', .int .i64 c, .int .i32 i', .string tt] 47)) ((hv.later hB).later hBa)
      have hls : (lineT ⟨m', op, a, b', c, i', tt⟩).size ≤ 130 := line_size hi0 hi1
      have hstp : Hid (txL (l.take (k + 1)) = txL (l.take k) ++ (bl (lineT ⟨m', op, a, b', c, i', tt⟩) ++ [10])) := by show _ = _; rw [txL_take hkl.out, hx.out]
      have hlem := line_em ⟨m', op, a, b', c, i', tt⟩
      have hgn : Hid (goodB ⟨m', op, a, b', c, i', tt⟩ = false → prg l = ⟨#[]⟩) := fun hf => prg_no hkl.out (by rw [hx.out]; exact hf)
      have hgy : Hid (goodB ⟨m', op, a, b', c, i', tt⟩ = true → ∀ x ∈ l.take (k + 1), goodB x = true) := fun hf x hx' => by
        rw [take_snoc hkl.out] at hx'
        rcases List.mem_append.1 hx' with h1 | h1
        · exact hgd.out x h1
        · rw [List.mem_singleton.1 h1, hx.out]; exact hf
      unfold lnV at hto
      dsimp only at hto
      obtain ⟨tx, ht⟩ : ∃ tx, lineT ⟨m', op, a, b', c, i', tt⟩ = tx := ⟨_, rfl⟩
      rw [ht] at hto hls hstp hlem
      clear ht
      have het := em_list tx
      cases hg : goodB ⟨m', op, a, b', c, i', tt⟩ with
      | false =>
        have hp : Hid (prg l = ⟨#[]⟩) := hgn.out hg
        rw [hg] at hlem
        rw [show emB tx = true from hlem] at het
        clear hgn hgy hlem hstp
        go_wp2_with (go_at_call 30; refine hto.mono ?_; rintro e w3 ⟨rfl, hb3⟩)
        go_ret
        exact ⟨by rw [hp.out]; rfl, hB.trans ((hBa.trans (hb3.mono hBa.size)).mono hB.size)⟩
      | true =>
        have hq : Hid (∀ x ∈ l.take (k + 1), goodB x = true) := hgy.out hg
        rw [hg] at hlem
        rw [show emB tx = false from hlem] at het
        clear hgn hgy hlem
        have hz1 : (9223372036854775807 < tx.size + 1) = False := by simp; omega
        have hcl : (Lib.byteCells (txL (l.take k))).length + (tx ++ ⟨#[10]⟩ : ByteArray).size ≤ 140737488355328 := by rw [Lib.byteCells_length, ByteArray.size_append]; show _ + (tx.size + 1) ≤ _; omega
        have hsz2 : Hid ((txL (l.take (k + 1))).length ≤ 131 * (k + 1)) := by show _ ≤ _; rw [hstp.out, List.length_append, List.length_append, bl_len]; show _ + (tx.size + 1) ≤ _; omega
        go_wp2_with (first | (go_at_call 30; refine hto.mono ?_; rintro e w3 ⟨rfl, hb3⟩; have hb4a : Below wr.heap.size wr w3 := hBa.trans (hb3.mono hBa.size)) | (go_at_call 31; refine (write_any w.heap.size w.heap.size _ _ _ (bld_next hbd hb4a) hcl (Nat.le_trans hB.size hb4a.size)).mono ?_; rintro e w5 ⟨rfl, hbd5, hb5⟩))
        go_roundw
        case rel =>
          refine ⟨k + 1, by omega, by simp, ?_, hsz2.out, hq, (hB.trans (hb4a.mono hB.size)).trans hb5⟩
          rw [hstp.out]
          have e : Lib.byteCells (txL (l.take k) ++ (bl tx ++ [10])) = Lib.byteCells (txL (l.take k)) ++ Lib.strCells (tx ++ ⟨#[10]⟩) := by
            rw [show bl tx ++ [10] = (tx ++ ⟨#[10]⟩ : ByteArray).data.toList from (app_list tx ⟨#[10]⟩).symm]
            exact List.map_append ..
          rw [e]
          exact .inr hbd5
        case measure => simp [intOf]; omega
    · obtain rfl : k = n := by omega
      rw [← hlen.out, List.take_length] at hbd
      have hp : Hid (prg l = sb (txL l)) := prg_yes (by have h3 := hgd.out; rw [← hlen.out, List.take_length] at h3; exact h3)
      go_wp2_with (go_at_call 32; refine (Tryz.Builder_String_any w.heap.size w.heap.size (txL l) _ hbd hB.size).mono ?_; rintro e w5 ⟨rfl, hb5⟩)
      go_ret
      exact ⟨by rw [hp.out]; rfl, hB.trans hb5⟩
end Go.Proofs.YtagljcgfmdahhaaGreatDoor
