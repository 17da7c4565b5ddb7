/-
  PROVED HERE: what first of package curtilageref10 returns when it is called: the first line that is none (a contract over this translation). At most 4000 lines.
-/
import Derived.Test.YtagljcgfmdahhaaGreatDoorAsmQ4
namespace Go.Proofs.YtagljcgfmdahhaaGreatDoor
open Go.RowKit Go.Shelf
set_option linter.unusedVariables false
open Asm

theorem fnd_no {m : ByteArray} : ∀ {q : List Ln} {k : Nat}, (∀ y ∈ q, y.mark ≠ m) → fnd m q k = none
  | [], _, _ => rfl
  | y :: q, k, h => by
    unfold fnd
    split
    · exact fnd_no (fun z hz => h z (by simp [hz]))
    · rw [if_neg (h y (by simp))]; exact fnd_no (fun z hz => h z (by simp [hz]))
theorem fnd_yes {m : ByteArray} (hm : emB m = false) : ∀ {q : List Ln} {k : Nat} {y : Ln}, y ∈ q → y.mark = m → (fnd m q k).isSome = true
  | [], _, _, h, _ => by cases h
  | z :: q, k, y, h, e => by
    unfold fnd
    rcases List.mem_cons.1 h with rfl | h
    · rw [if_neg (by rw [e, hm]; simp), if_pos e]; rfl
    · split
      · exact fnd_yes hm h e
      · split
        · rfl
        · exact fnd_yes hm h e
theorem bad1_good {q : List Ln} {x : Ln} (h : goodB x = true) : bad1 q x = if !emB x.mark && (lkp x.mark (mks q 0)).isSome then 12 else 0 := by
  unfold bad1
  rw [h]
  rfl
set_option maxRecDepth 100000 in
set_option maxHeartbeats 2000000 in
theorem rfirst_any (ao : Option Addr) (n cap : Nat) (l : List Ln) (w : World) (hn : n ≤ 4000) (h : Lns w.heap.size w ao n cap l) (hok : Okl l) :
    Calls Tryz.prog 28 #[.slice ao n cap] w fun e w' => e = .returned (.tuple #[.int .i64 (((scan bad1 [] l).1 : Nat) : Int), .int .i64 (((scan bad1 [] l).2 : Nat) : Int)]) ∧ Below w.heap.size w w' := by
  have hlen : Hid (l.length = n) := h.1
  have hOk : Hid (Okl l) := hok
  clear hok
  go_enter Tryz.func28, Tryz.ntmps28
  go_wp2
  go_loopw [4, 5] (fun va vi wr => ∃ k c : Nat, k ≤ n ∧ c ≤ 4000 ∧ vi = .int .i64 k ∧ va = .int .i64 c ∧ Hid (cnt (l.take k) = c) ∧ Hid (Zer bad1 l k) ∧ Below w.heap.size w wr) (fun _ vi _ => n - (intOf vi).toNat)
  case atStart => exact ⟨0, 0, Nat.zero_le _, by omega, rfl, rfl, rfl, Zer.zero, Below.refl _ _⟩
  case round =>
    obtain ⟨k, cc, hk, hcc, rfl, rfl, hct, hZ, hB⟩ := hrel
    by_cases hks : k < n
    · obtain ⟨b, off, m', op, a, b', c, i', tt, rfl, hb, hx, c0, c1, c2, c3, c4, c5, c6⟩ := LnsD.at (h.next hB) hks
      have hNx := h.next hB
      have hkl : Hid (k < l.length) := by show k < l.length; rw [hlen.out]; exact hks
      obtain ⟨_, hsm, hst⟩ := hOk.out.at hkl.out hx.out
      have hto := fun W => rgood_any ⟨m', op, a, b', c, i', tt⟩ hsm hst W
      have he := em_list m'
      have hcl := cntK_le l (k + 1)
      unfold lnV at hto
      dsimp only at hto
      cases hg : goodB ⟨m', op, a, b', c, i', tt⟩ with
      | false =>
        have hr : Hid (scan bad1 [] l = (k, 11)) := by
          show _ = _
          have hb1 : bad1 (l.take k) (l.getD k default) = 11 := by rw [hx.out]; unfold bad1; rw [hg]; rfl
          rw [hZ.out.stop hkl.out (by rw [hb1]; omega), hb1]
        simp only [hg] at hto
        go_wp2_with (go_at_call 33; refine (hto _).mono ?_; rintro e w3 ⟨rfl, hb3⟩)
        go_ret2
        exact ⟨by rw [hr.out]; rfl, hB.trans (hb3.mono hB.size)⟩
      | true =>
        simp only [hg] at hto
        have hbd : Hid (bad1 (l.take k) (l.getD k default) = if !emB m' && (lkp m' (mks (l.take k) 0)).isSome then 12 else 0) := by show _ = _; rw [hx.out]; exact bad1_good hg
        cases hem : emB m' with
        | true =>
          rw [hem] at he
          have hZ2 : Hid (Zer bad1 l (k + 1)) := hZ.out.step hkl.out (by rw [hbd.out, hem]; rfl)
          have hc2 : Hid (cnt (l.take (k + 1)) = cc + 1) := by show _ = _; rw [cnt_hit hkl.out (by rw [hx.out]; exact hem), hct.out]
          rw [hc2.out] at hcl
          have hcc2 : cc + 1 ≤ 4000 := by omega
          clear hcl hem hg hbd
          go_wp2_with (go_at_call 33; refine (hto _).mono ?_; rintro e w3 ⟨rfl, hb3⟩; obtain ⟨_, _, _, _, _, _, _, _, _, he0, _, hy, g0, g1, g2, g3, g4, g5, g6⟩ := LnsD.at (hNx.next hb3) hks; cases he0; have hy := hx.out.symm.trans hy.out; simp only [Ln.mk.injEq] at hy; obtain ⟨rfl, rfl, rfl, rfl, rfl, rfl, rfl⟩ := hy)
          go_loopw [6] (fun vk wr => vk = .int .i64 0 ∧ w3 = wr) (fun _ _ => 0)
          case atStart => exact ⟨rfl, rfl⟩
          case round =>
            obtain ⟨rfl, rfl⟩ := hrel
            by_cases hk0 : k = 0
            · subst hk0
              go_wp2
              go_roundw
              case rel => exact ⟨0 + 1, cc + 1, by omega, hcc2, by simp, by simp, hc2, hZ2, hB.trans (hb3.mono hB.size)⟩
              case measure => simp [intOf]; omega
            · have hk0' : 0 < (k : Int) := by omega
              go_wp2
              go_roundw
              case rel => exact ⟨k + 1, cc + 1, by omega, hcc2, by simp, by simp, hc2, hZ2, hB.trans (hb3.mono hB.size)⟩
              case measure => simp [intOf]; omega
        | false =>
          rw [hem] at he
          have hc2 : Hid (cnt (l.take (k + 1)) = cc) := by show _ = _; rw [cnt_miss hkl.out (by rw [hx.out]; exact hem), hct.out]
          have hno : Hid ((∀ y ∈ l.take k, y.mark ≠ m') → Zer bad1 l (k + 1)) := fun hh => hZ.out.step hkl.out (by rw [hbd.out, mks_look, fnd_no hh]; simp)
          have hye : Hid (∀ y ∈ l.take k, y.mark = m' → scan bad1 [] l = (k, 12)) := fun y hy e => by
            have hb1 : bad1 (l.take k) (l.getD k default) = 12 := by rw [hbd.out, mks_look, fnd_yes hem hy e, hem]; rfl
            rw [hZ.out.stop hkl.out (by rw [hb1]; omega), hb1]
          clear hcl hem hg hbd
          go_wp2_with (go_at_call 33; refine (hto _).mono ?_; rintro e w3 ⟨rfl, hb3⟩; have hN3 := hNx.next hb3; obtain ⟨_, _, _, _, _, _, _, _, _, he0, _, hy, g0, g1, g2, g3, g4, g5, g6⟩ := LnsD.at hN3 hks; cases he0; have hy := hx.out.symm.trans hy.out; simp only [Ln.mk.injEq] at hy; obtain ⟨rfl, rfl, rfl, rfl, rfl, rfl, rfl⟩ := hy)
          have hB3 : Below w.heap.size w w3 := hB.trans (hb3.mono hB.size)
          clear c0 c1 c2 c3 c4 c5 c6 g0 g1 g2 g3 g4 g5 g6 hto hNx hB hb3
          go_loopw [6] (fun vk wr => ∃ j : Nat, j ≤ k ∧ vk = .int .i64 j ∧ Hid (∀ y ∈ l.take j, y.mark ≠ m') ∧ Below w3.heap.size w3 wr) (fun vk _ => k - (intOf vk).toNat)
          case atStart => exact ⟨0, Nat.zero_le _, rfl, fun x hx => by simp at hx, Below.refl _ _⟩
          case round =>
            obtain ⟨j, hj, rfl, hp, hBj⟩ := hrel
            obtain ⟨_, _, _, _, _, _, _, _, _, he0, _, hy, g0, g1, g2, g3, g4, g5, g6⟩ := LnsD.at (hN3.next hBj) hks
            cases he0
            have hy := hx.out.symm.trans hy.out
            simp only [Ln.mk.injEq] at hy
            obtain ⟨rfl, rfl, rfl, rfl, rfl, rfl, rfl⟩ := hy
            by_cases hjs : j < k
            · obtain ⟨_, _, m2, op2, a2, b2, e2, i2, t2, he0, _, hx2, d0, d1, d2, d3, d4, d5, d6⟩ := LnsD.at (hN3.next hBj) (show j < n by omega)
              cases he0
              have hjl : Hid (j < l.length) := by show j < l.length; rw [hlen.out]; omega
              have hlb := list_beq m2 m'
              have hmem : Hid (l.getD j default ∈ l.take k) := by
                show _ ∈ _
                rw [List.getD_eq_getElem?_getD, List.getElem?_eq_getElem hjl.out]
                exact List.mem_take_iff_getElem.2 ⟨j, by have := hjl.out; omega, rfl⟩
              by_cases hmm : m2 = m'
              · have hr : Hid (scan bad1 [] l = (k, 12)) := hye.out _ hmem.out (by rw [hx2.out]; exact hmm)
                rw [decide_eq_true hmm] at hlb
                clear hmm hno hye hmem
                go_wp2
                go_quiet (fail)
                go_wp2
                go_ret2
                exact ⟨by rw [hr.out]; rfl, hB3.trans ((hBj.trans ((below_drewN wr _).mono hBj.size)).mono hB3.size)⟩
              · have hq : Hid (∀ y ∈ l.take (j + 1), y.mark ≠ m') := fun y hy => by
                  rw [take_snoc hjl.out] at hy
                  rcases List.mem_append.1 hy with h1 | h1
                  · exact hp.out y h1
                  · rw [List.mem_singleton.1 h1, hx2.out]; exact hmm
                rw [decide_eq_false hmm] at hlb
                clear hmm hno hye hmem
                go_wp2
                go_quiet (fail)
                go_wp2
                go_roundw
                case rel => exact ⟨j + 1, by omega, by simp, hq, hBj.trans ((below_drewN wr _).mono hBj.size)⟩
                case measure => simp [intOf]; omega
            · obtain rfl : j = k := by omega
              have hZ2 : Hid (Zer bad1 l (j + 1)) := hno.out hp.out
              clear hno hye
              go_wp2
              go_roundw
              case rel => exact ⟨j + 1, cc, by omega, hcc, by simp, rfl, hc2, hZ2, hB3.trans (hBj.mono hB3.size)⟩
              case measure => simp [intOf]; omega
    · obtain rfl : k = n := by omega
      have hr : Hid (scan bad1 [] l = (0, 0)) := by show _ = _; have h3 := hZ.out; rw [← hlen.out] at h3; exact h3.all
      go_wp2
      go_ret2
      exact ⟨by rw [hr.out]; rfl, hB⟩
end Go.Proofs.YtagljcgfmdahhaaGreatDoor
