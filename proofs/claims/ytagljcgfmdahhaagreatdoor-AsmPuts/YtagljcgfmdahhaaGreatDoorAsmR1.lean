/-
  PROVED HERE: what Find, List and first of package curtilageref10 return when they are called (contracts over this translation). At most 65536 lines (first: 4000), 65536 words.
-/
import Derived.Test.YtagljcgfmdahhaaGreatDoorAsmQ4
namespace Go.Proofs.YtagljcgfmdahhaaGreatDoor
open Go.RowKit Go.Shelf
set_option linter.unusedVariables false
open Asm

set_option maxRecDepth 100000 in
set_option maxHeartbeats 2000000 in
theorem rfind_any (ao : Option Addr) (n cap : Nat) (l : List Ln) (m : ByteArray) (w : World) (hn : n ≤ 65536) (h : Lns w.heap.size w ao n cap l) :
    Calls Tryz.prog 13 #[.slice ao n cap, .string m] w fun e w' => e = .returned (.tuple #[.int .i64 (((fnd m l 0).getD 0 : Nat) : Int), .bool (fnd m l 0).isSome]) ∧ Below w.heap.size w w' := by
  have hlen : Hid (l.length = n) := h.1
  go_enter Tryz.func13, Tryz.ntmps13
  go_wp2
  go_loopw [6, 7] (fun va vi wr => ∃ k c : Nat, k ≤ n ∧ c ≤ 65536 ∧ vi = .int .i64 k ∧ va = .int .i64 c ∧ Hid (cnt (l.take k) = c) ∧ Hid (fnd m (l.take k) 0 = none) ∧ Below w.heap.size w wr) (fun _ vi _ => n - (intOf vi).toNat)
  case atStart => exact ⟨0, 0, Nat.zero_le _, by omega, rfl, rfl, rfl, rfl, Below.refl _ _⟩
  case round =>
    obtain ⟨k, cc, hk, hcc, rfl, rfl, hct, hf, hB⟩ := hrel
    by_cases hks : k < n
    · obtain ⟨b, off, m', op, a, b', c, i', tt, rfl, hb, hx, c0, c1, c2, c3, c4, c5, c6⟩ := LnsD.at (h.later hB) hks
      have hkl : Hid (k < l.length) := by show k < l.length; rw [hlen.out]; exact hks
      have hxm : Hid ((l.getD k default).mark = m') := by show _ = _; rw [hx.out]
      have he := em_list m'
      have hcl := cntK_le l (k + 1)
      cases hem : emB m' with
      | true =>
        rw [hem] at he
        have hc2 : Hid (cnt (l.take (k + 1)) = cc + 1) := by show _ = _; rw [cnt_hit hkl.out (by rw [hxm.out]; exact hem), hct.out]
        have hf2 : Hid (fnd m (l.take (k + 1)) 0 = none) := fnd_step hkl.out hf.out (.inl (by rw [hxm.out]; exact hem))
        rw [hc2.out] at hcl
        have hcc2 : cc + 1 ≤ 65536 := by omega
        clear hcl hem
        go_wp2
        go_roundw
        case rel => exact ⟨k + 1, cc + 1, by omega, hcc2, by simp, by simp, hc2, hf2, hB⟩
        case measure => simp [intOf]; omega
      | false =>
        rw [hem] at he
        have hq := list_beq m' m
        by_cases hmm : m' = m
        · have hr : Hid (fnd m l 0 = some cc) := by show _ = _; rw [fnd_hit hkl.out hf.out (by rw [hxm.out]; exact hem) (by rw [hxm.out]; exact hmm), hct.out]
          rw [decide_eq_true hmm] at hq
          clear hmm hcl hem
          go_wp2
          go_ret2
          exact ⟨by rw [hr.out]; rfl, hB⟩
        · have hf2 : Hid (fnd m (l.take (k + 1)) 0 = none) := fnd_step hkl.out hf.out (.inr (by rw [hxm.out]; exact hmm))
          have hc2 : Hid (cnt (l.take (k + 1)) = cc) := by show _ = _; rw [cnt_miss hkl.out (by rw [hxm.out]; exact hem), hct.out]
          rw [decide_eq_false hmm] at hq
          clear hmm hcl hem
          go_wp2
          go_roundw
          case rel => exact ⟨k + 1, cc, by omega, hcc, by simp, rfl, hc2, hf2, hB⟩
          case measure => simp [intOf]; omega
    · obtain rfl : k = n := by omega
      have hr : Hid (fnd m l 0 = none) := by show _ = _; have := hf.out; rw [← hlen.out, List.take_length] at this; exact this
      go_wp2
      go_ret2
      exact ⟨by rw [hr.out]; rfl, hB⟩

theorem ba_app {x y : List UInt8} {t : ByteArray} (h : y = x ++ t.data.toList) : (⟨y.toArray⟩ : ByteArray) = ⟨x.toArray⟩ ++ t := by
  refine ba_ext ?_
  rw [app_list, h]
set_option maxRecDepth 100000 in
set_option maxHeartbeats 2000000 in
theorem rlist_any (ao : Option Addr) (n cap : Nat) (ws : List Int) (w : World) (hn : n ≤ 65536) (h : Wds w.heap.size w ao n cap ws) (h64 : W64 ws) :
    Calls Tryz.prog 18 #[.slice ao n cap] w fun e w' => e = .returned (.string (lstS ws)) ∧ Below w.heap.size w w' := by
  have hlen : Hid (ws.length = n) := h.1
  go_enter Tryz.func18, Tryz.ntmps18
  go_wp2
  go_loopw [3, 4] (fun vs vi wr => ∃ (k : Nat) (S : ByteArray), k ≤ n ∧ vi = .int .i64 k ∧ vs = .string S ∧ Hid (S = lstS (ws.take k)) ∧ S.size ≤ 200 * k ∧ Below w.heap.size w wr) (fun _ vi _ => n - (intOf vi).toNat)
  case atStart => exact ⟨0, ⟨#[]⟩, Nat.zero_le _, rfl, rfl, rfl, Nat.le_refl _, Below.refl _ _⟩
  case round =>
    obtain ⟨k, S, hk, rfl, rfl, hS, hsz, hB⟩ := hrel
    by_cases hks : k < n
    · obtain ⟨b, off, x, rfl, hb, hx, c0⟩ := Wds.at (h.later hB) hks
      have hkl : Hid (k < ws.length) := by show k < ws.length; rw [hlen.out]; exact hks
      obtain ⟨x0, x1⟩ : 0 ≤ x ∧ x < 18446744073709551616 := h64 x (by rw [← hx.out, List.getD_eq_getElem?_getD, List.getElem?_eq_getElem hkl.out]; exact List.getElem_mem _)
      have hst : Hid (lstS (ws.take (k + 1)) = S ++ lnW x) := by show _ = _; rw [hS.out]; exact ba_app (by rw [lstL_take hkl.out, hx.out])
      cases hd : Ins.decB x with
      | true =>
        obtain ⟨_, _, _, _, hi0, hi1⟩ := Ins.fields_bounds x0 x1
        have hts := txS_size' x x0 x1
        have htx : Hid (lnW x = txS (Ins.fOp x) (Ins.fA x) (Ins.fB x) (Ins.fC x) (Ins.fI x) ++ ⟨#[10]⟩) := by show _ = _; unfold lnW; rw [hd]; rfl
        have hta := fun W2 => rtext_any (Ins.fOp x) (Ins.fA x) (Ins.fB x) (Ins.fC x) (Ins.fI x) hi0 hi1 W2
        obtain ⟨tx, ht⟩ : ∃ tx, txS (Ins.fOp x) (Ins.fA x) (Ins.fB x) (Ins.fC x) (Ins.fI x) = tx := ⟨_, rfl⟩
        simp only [ht] at hta
        rw [ht] at htx hts
        clear ht
        have hz1 : (9223372036854775807 < S.size + tx.size) = False := by simp; omega
        have hz2 : (9223372036854775807 < S.size + tx.size + 1) = False := by simp; omega
        go_wp2_with (first | (go_at_call 23; refine (rdecode_ok x x0 x1 hd _).mono ?_; rintro e w3 ⟨rfl, hb3⟩; have hb3a : Below wr.heap.size wr (w3.alloc (.cells #[.int .i64 (Ins.fOp x), .int .i64 (Ins.fA x), .int .i64 (Ins.fB x), .int .i64 (Ins.fC x), .int .i32 (Ins.fI x)] 45)) := hb3.alloc hb3.size _) | (go_at_call 37; refine (hta _).mono ?_; rintro e w4 ⟨rfl, hb4⟩; have hb4a : Below wr.heap.size wr w4 := hb3a.trans (hb4.mono hb3a.size)))
        go_roundw
        case rel => exact ⟨k + 1, S ++ tx ++ ⟨#[10]⟩, by omega, by simp, rfl, by show _ = _; rw [hst.out, htx.out, ByteArray.append_assoc], by rw [ByteArray.size_append, ByteArray.size_append]; show S.size + tx.size + 1 ≤ _; omega, hB.trans (hb4a.mono hB.size)⟩
        case measure => simp [intOf]; omega
      | false =>
        have htx : Hid (lnW x = ⟨#[63, 10]⟩) := by show _ = _; unfold lnW; rw [hd]; rfl
        have hz1 : (9223372036854775807 < S.size + 2) = False := by simp; omega
        go_wp2_with (go_at_call 23; refine (rdecode_no x x0 x1 hd _).mono ?_; rintro e w3 ⟨rfl, hb3⟩; have hb3a : Below wr.heap.size wr (w3.alloc (.cells #[.int .i64 0, .int .i64 0, .int .i64 0, .int .i64 0, .int .i32 0] 45)) := hb3.alloc hb3.size _)
        go_roundw
        case rel => exact ⟨k + 1, S ++ ⟨#[63, 10]⟩, by omega, by simp, rfl, by show _ = _; rw [hst.out, htx.out], by rw [ByteArray.size_append]; show S.size + 2 ≤ _; omega, hB.trans (hb3a.mono hB.size)⟩
        case measure => simp [intOf]; omega
    · obtain rfl : k = n := by omega
      have hr : Hid (S = lstS ws) := by show _ = _; have h3 := hS.out; rw [← hlen.out, List.take_length] at h3; exact h3
      go_wp2
      go_ret
      exact ⟨by rw [← hr.out]; rfl, hB⟩

theorem fnd_no {m : ByteArray} : ∀ {q : List Ln} {k : Nat}, (∀ y ∈ q, y.mark ≠ m) → fnd m q k = none
  | [], _, _ => rfl
  | y :: q, k, h => by
    unfold fnd
    split
    · exact fnd_no (fun z hz => h z (by simp [hz]))
    · rw [if_neg (h y (by simp))]; exact fnd_no (fun z hz => h z (by simp [hz]))
theorem fnd_yes {m : ByteArray} (hm : emB m = false) : ∀ {q : List Ln} {k : Nat} {y : Ln}, y ∈ q → y.mark = m → (fnd m q k).isSome = true
  | [], _, _, h, _ => by cases h
  | z :: q, k, y, h, e => by
    unfold fnd
    rcases List.mem_cons.1 h with rfl | h
    · rw [if_neg (by rw [e, hm]; simp), if_pos e]; rfl
    · split
      · exact fnd_yes hm h e
      · split
        · rfl
        · exact fnd_yes hm h e
theorem bad1_good {q : List Ln} {x : Ln} (h : goodB x = true) : bad1 q x = if !emB x.mark && (lkp x.mark (mks q 0)).isSome then 12 else 0 := by
  unfold bad1
  rw [h]
  rfl
set_option maxRecDepth 100000 in
set_option maxHeartbeats 2000000 in
theorem rfirst_any (ao : Option Addr) (n cap : Nat) (l : List Ln) (w : World) (hn : n ≤ 4000) (h : Lns w.heap.size w ao n cap l) (hok : Okl l) :
    Calls Tryz.prog 28 #[.slice ao n cap] w fun e w' => e = .returned (.tuple #[.int .i64 (((scan bad1 [] l).1 : Nat) : Int), .int .i64 (((scan bad1 [] l).2 : Nat) : Int)]) ∧ Below w.heap.size w w' := by
  have hlen : Hid (l.length = n) := h.1
  have hOk : Hid (Okl l) := hok
  clear hok
  go_enter Tryz.func28, Tryz.ntmps28
  go_wp2
  go_loopw [4, 5] (fun va vi wr => ∃ k c : Nat, k ≤ n ∧ c ≤ 4000 ∧ vi = .int .i64 k ∧ va = .int .i64 c ∧ Hid (cnt (l.take k) = c) ∧ Hid (Zer bad1 l k) ∧ Below w.heap.size w wr) (fun _ vi _ => n - (intOf vi).toNat)
  case atStart => exact ⟨0, 0, Nat.zero_le _, by omega, rfl, rfl, rfl, Zer.zero, Below.refl _ _⟩
  case round =>
    obtain ⟨k, cc, hk, hcc, rfl, rfl, hct, hZ, hB⟩ := hrel
    by_cases hks : k < n
    · obtain ⟨b, off, m', op, a, b', c, i', tt, rfl, hb, hx, c0, c1, c2, c3, c4, c5, c6⟩ := LnsD.at (h.next hB) hks
      have hNx := h.next hB
      have hkl : Hid (k < l.length) := by show k < l.length; rw [hlen.out]; exact hks
      obtain ⟨_, hsm, hst⟩ := hOk.out.at hkl.out hx.out
      have hto := fun W => rgood_any ⟨m', op, a, b', c, i', tt⟩ hsm hst W
      have he := em_list m'
      have hcl := cntK_le l (k + 1)
      unfold lnV at hto
      dsimp only at hto
      cases hg : goodB ⟨m', op, a, b', c, i', tt⟩ with
      | false =>
        have hr : Hid (scan bad1 [] l = (k, 11)) := by
          show _ = _
          have hb1 : bad1 (l.take k) (l.getD k default) = 11 := by rw [hx.out]; unfold bad1; rw [hg]; rfl
          rw [hZ.out.stop hkl.out (by rw [hb1]; omega), hb1]
        simp only [hg] at hto
        go_wp2_with (go_at_call 33; refine (hto _).mono ?_; rintro e w3 ⟨rfl, hb3⟩)
        go_ret2
        exact ⟨by rw [hr.out]; rfl, hB.trans (hb3.mono hB.size)⟩
      | true =>
        simp only [hg] at hto
        have hbd : Hid (bad1 (l.take k) (l.getD k default) = if !emB m' && (lkp m' (mks (l.take k) 0)).isSome then 12 else 0) := by show _ = _; rw [hx.out]; exact bad1_good hg
        cases hem : emB m' with
        | true =>
          rw [hem] at he
          have hZ2 : Hid (Zer bad1 l (k + 1)) := hZ.out.step hkl.out (by rw [hbd.out, hem]; rfl)
          have hc2 : Hid (cnt (l.take (k + 1)) = cc + 1) := by show _ = _; rw [cnt_hit hkl.out (by rw [hx.out]; exact hem), hct.out]
          rw [hc2.out] at hcl
          have hcc2 : cc + 1 ≤ 4000 := by omega
          clear hcl hem hg hbd
          go_wp2_with (go_at_call 33; refine (hto _).mono ?_; rintro e w3 ⟨rfl, hb3⟩; obtain ⟨_, _, _, _, _, _, _, _, _, he0, _, hy, g0, g1, g2, g3, g4, g5, g6⟩ := LnsD.at (hNx.next hb3) hks; cases he0; have hy := hx.out.symm.trans hy.out; simp only [Ln.mk.injEq] at hy; obtain ⟨rfl, rfl, rfl, rfl, rfl, rfl, rfl⟩ := hy)
          go_loopw [6] (fun vk wr => vk = .int .i64 0 ∧ w3 = wr) (fun _ _ => 0)
          case atStart => exact ⟨rfl, rfl⟩
          case round =>
            obtain ⟨rfl, rfl⟩ := hrel
            by_cases hk0 : k = 0
            · subst hk0
              go_wp2
              go_roundw
              case rel => exact ⟨0 + 1, cc + 1, by omega, hcc2, by simp, by simp, hc2, hZ2, hB.trans (hb3.mono hB.size)⟩
              case measure => simp [intOf]; omega
            · have hk0' : 0 < (k : Int) := by omega
              go_wp2
              go_roundw
              case rel => exact ⟨k + 1, cc + 1, by omega, hcc2, by simp, by simp, hc2, hZ2, hB.trans (hb3.mono hB.size)⟩
              case measure => simp [intOf]; omega
        | false =>
          rw [hem] at he
          have hc2 : Hid (cnt (l.take (k + 1)) = cc) := by show _ = _; rw [cnt_miss hkl.out (by rw [hx.out]; exact hem), hct.out]
          have hno : Hid ((∀ y ∈ l.take k, y.mark ≠ m') → Zer bad1 l (k + 1)) := fun hh => hZ.out.step hkl.out (by rw [hbd.out, mks_look, fnd_no hh]; simp)
          have hye : Hid (∀ y ∈ l.take k, y.mark = m' → scan bad1 [] l = (k, 12)) := fun y hy e => by
            have hb1 : bad1 (l.take k) (l.getD k default) = 12 := by rw [hbd.out, mks_look, fnd_yes hem hy e, hem]; rfl
            rw [hZ.out.stop hkl.out (by rw [hb1]; omega), hb1]
          clear hcl hem hg hbd
          go_wp2_with (go_at_call 33; refine (hto _).mono ?_; rintro e w3 ⟨rfl, hb3⟩; have hN3 := hNx.next hb3; obtain ⟨_, _, _, _, _, _, _, _, _, he0, _, hy, g0, g1, g2, g3, g4, g5, g6⟩ := LnsD.at hN3 hks; cases he0; have hy := hx.out.symm.trans hy.out; simp only [Ln.mk.injEq] at hy; obtain ⟨rfl, rfl, rfl, rfl, rfl, rfl, rfl⟩ := hy)
          have hB3 : Below w.heap.size w w3 := hB.trans (hb3.mono hB.size)
          clear c0 c1 c2 c3 c4 c5 c6 g0 g1 g2 g3 g4 g5 g6 hto hNx hB hb3
          go_loopw [6] (fun vk wr => ∃ j : Nat, j ≤ k ∧ vk = .int .i64 j ∧ Hid (∀ y ∈ l.take j, y.mark ≠ m') ∧ Below w3.heap.size w3 wr) (fun vk _ => k - (intOf vk).toNat)
          case atStart => exact ⟨0, Nat.zero_le _, rfl, fun x hx => by simp at hx, Below.refl _ _⟩
          case round =>
            obtain ⟨j, hj, rfl, hp, hBj⟩ := hrel
            obtain ⟨_, _, _, _, _, _, _, _, _, he0, _, hy, g0, g1, g2, g3, g4, g5, g6⟩ := LnsD.at (hN3.next hBj) hks
            cases he0
            have hy := hx.out.symm.trans hy.out
            simp only [Ln.mk.injEq] at hy
            obtain ⟨rfl, rfl, rfl, rfl, rfl, rfl, rfl⟩ := hy
            by_cases hjs : j < k
            · obtain ⟨_, _, m2, op2, a2, b2, e2, i2, t2, he0, _, hx2, d0, d1, d2, d3, d4, d5, d6⟩ := LnsD.at (hN3.next hBj) (show j < n by omega)
              cases he0
              have hjl : Hid (j < l.length) := by show j < l.length; rw [hlen.out]; omega
              have hlb := list_beq m2 m'
              have hmem : Hid (l.getD j default ∈ l.take k) := by
                show _ ∈ _
                rw [List.getD_eq_getElem?_getD, List.getElem?_eq_getElem hjl.out]
                exact List.mem_take_iff_getElem.2 ⟨j, by have := hjl.out; omega, rfl⟩
              by_cases hmm : m2 = m'
              · have hr : Hid (scan bad1 [] l = (k, 12)) := hye.out _ hmem.out (by rw [hx2.out]; exact hmm)
                rw [decide_eq_true hmm] at hlb
                clear hmm hno hye hmem
                go_wp2
                go_quiet (fail)
                go_wp2
                go_ret2
                exact ⟨by rw [hr.out]; rfl, hB3.trans ((hBj.trans ((below_drewN wr _).mono hBj.size)).mono hB3.size)⟩
              · have hq : Hid (∀ y ∈ l.take (j + 1), y.mark ≠ m') := fun y hy => by
                  rw [take_snoc hjl.out] at hy
                  rcases List.mem_append.1 hy with h1 | h1
                  · exact hp.out y h1
                  · rw [List.mem_singleton.1 h1, hx2.out]; exact hmm
                rw [decide_eq_false hmm] at hlb
                clear hmm hno hye hmem
                go_wp2
                go_quiet (fail)
                go_wp2
                go_roundw
                case rel => exact ⟨j + 1, by omega, by simp, hq, hBj.trans ((below_drewN wr _).mono hBj.size)⟩
                case measure => simp [intOf]; omega
            · obtain rfl : j = k := by omega
              have hZ2 : Hid (Zer bad1 l (j + 1)) := hno.out hp.out
              clear hno hye
              go_wp2
              go_roundw
              case rel => exact ⟨j + 1, cc, by omega, hcc, by simp, rfl, hc2, hZ2, hB3.trans (hBj.mono hB3.size)⟩
              case measure => simp [intOf]; omega
    · obtain rfl : k = n := by omega
      have hr : Hid (scan bad1 [] l = (0, 0)) := by show _ = _; have h3 := hZ.out; rw [← hlen.out] at h3; exact h3.all
      go_wp2
      go_ret2
      exact ⟨by rw [hr.out]; rfl, hB⟩
end Go.Proofs.YtagljcgfmdahhaaGreatDoor
