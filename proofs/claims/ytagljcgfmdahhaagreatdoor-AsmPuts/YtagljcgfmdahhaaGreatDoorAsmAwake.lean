/-
  PROVED HERE: what few and same of the statements of layer 10 return when they are called (contracts over this translation). At most 65536 words.
-/
import Derived.Test.YtagljcgfmdahhaaGreatDoorAsmOpen
import Derived.Deep.QuietTactic
namespace Go.Proofs.YtagljcgfmdahhaaGreatDoor
open Go.RowKit Go.Shelf
set_option linter.unusedVariables false
open Asm

/-- Few lines of short names. -/
def fewB (l : List Ln) : Bool := decide (l.length ≤ 60) && l.all fun x => decide (x.mark.size + x.to.size ≤ 100)
set_option maxRecDepth 100000 in
set_option maxHeartbeats 2000000 in
theorem few_any (ao : Option Addr) (n cap : Nat) (l : List Ln) (w : World) (h : LnA w ao n cap l) :
    Calls Tryz.prog 8 #[.slice ao n cap] w fun e w' => e = .returned (.bool (fewB l)) ∧ Below w.heap.size w w' := by
  have hlen : Hid (l.length = n) := h.1.1
  obtain ⟨h1, h2⟩ := h
  have hA : Hid (∀ x ∈ l, x.ok ∧ x.mark.size ≤ reachBytes ∧ x.to.size ≤ reachBytes) := h2
  go_enter Tryz.func8, Tryz.ntmps8
  by_cases h60 : 60 < n
  · have hr : Hid (fewB l = false) := by show _ = _; unfold fewB; rw [hlen.out, decide_eq_false (by omega)]; rfl
    go_wp2
    go_ret
    exact ⟨by rw [hr.out]; rfl, Below.refl _ _⟩
  · go_wp2
    go_loopw [10] (fun vi wr => ∃ k : Nat, k ≤ n ∧ vi = .int .i64 k ∧ Hid ((l.take k).all (fun x => decide (x.mark.size + x.to.size ≤ 100)) = true) ∧ Below w.heap.size w wr) (fun vi _ => n - (intOf vi).toNat)
    case atStart => exact ⟨0, Nat.zero_le _, rfl, rfl, Below.refl _ _⟩
    case round =>
      obtain ⟨k, hk, rfl, hp, hB⟩ := hrel
      by_cases hks : k < n
      · obtain ⟨b, off, m', op, a, b', c, i', tt, rfl, hb, hx, c0, c1, c2, c3, c4, c5, c6⟩ := LnsD.at (h1.later hB) hks
        have hkl : Hid (k < l.length) := by show k < l.length; rw [hlen.out]; exact hks
        obtain ⟨_, hm1, ht1⟩ : _ ∧ m'.size ≤ reachBytes ∧ tt.size ≤ reachBytes := hA.out ⟨m', op, a, b', c, i', tt⟩ (by rw [← hx.out, List.getD_eq_getElem?_getD, List.getElem?_eq_getElem hkl.out]; exact List.getElem_mem _)
        unfold reachBytes at hm1 ht1
        have hB1 : Below w.heap.size w (wr.alloc (.cells #[.string m', .int .i64 op, .int .i64 a, .int .i64 b', .int .i64 c, .int .i32 i', .string tt] 47)) := hB.alloc hB.size _
        have hst : Hid ((l.take (k + 1)).all (fun x => decide (x.mark.size + x.to.size ≤ 100)) = decide (m'.size + tt.size ≤ 100)) := by
          show _ = _
          rw [take_snoc hkl.out, List.all_append, hp.out, hx.out]; simp
        by_cases hs : m'.size + tt.size ≤ 100
        · have hq : Hid ((l.take (k + 1)).all (fun x => decide (x.mark.size + x.to.size ≤ 100)) = true) := by show _ = _; rw [hst.out]; exact decide_eq_true hs
          have hs2 : ¬ (100 < (m'.size : Int) + tt.size) := by omega
          go_wp2
          go_roundw
          case rel => exact ⟨k + 1, by omega, by simp, hq, hB1⟩
          case measure => simp [intOf]; omega
        · have hr : Hid (fewB l = false) := by
            show _ = _
            unfold fewB
            have : l.all (fun x => decide (x.mark.size + x.to.size ≤ 100)) = false := by
              rw [List.all_eq_false]
              exact ⟨l.getD k default, by rw [List.getD_eq_getElem?_getD, List.getElem?_eq_getElem hkl.out]; exact List.getElem_mem _, by rw [hx.out]; simpa using hs⟩
            rw [this]; simp
          have hs2 : 100 < (m'.size : Int) + tt.size := by omega
          go_wp2
          go_ret
          exact ⟨by rw [hr.out]; rfl, hB1⟩
      · obtain rfl : k = n := by omega
        have hr : Hid (fewB l = true) := by
          show _ = _
          have h3 := hp.out
          rw [← hlen.out, List.take_length] at h3
          unfold fewB
          rw [h3, hlen.out, decide_eq_true (by omega)]; rfl
        go_wp2
        go_ret
        exact ⟨by rw [hr.out]; rfl, hB⟩
set_option maxRecDepth 100000 in
set_option maxHeartbeats 2000000 in
theorem same_any (ao : Option Addr) (n cap : Nat) (ws : List Int) (bo : Option Addr) (k kap : Nat) (vs : List Int) (w : World) (h : Wds w.heap.size w ao n cap ws) (h' : Wds w.heap.size w bo k kap vs) (hn : n ≤ 65536) :
    Calls Tryz.prog 14 #[.slice ao n cap, .slice bo k kap] w fun e w' => e = .returned (.bool (decide (ws = vs))) ∧ Below w.heap.size w w' := by
  go_enter Tryz.func14, Tryz.ntmps14
  by_cases hk : n = k
  · subst hk
    have hl1 : Hid (ws.length = n) := h.1
    have hl2 : Hid (vs.length = n) := h'.1
    go_wp2
    go_loopw [13] (fun vi wr => ∃ k : Nat, k ≤ n ∧ vi = .int .i64 k ∧ Hid (ws.take k = vs.take k) ∧ Below w.heap.size w wr) (fun vi _ => n - (intOf vi).toNat)
    case atStart => exact ⟨0, Nat.zero_le _, rfl, rfl, Below.refl _ _⟩
    case round =>
      obtain ⟨k, hk, rfl, hp, hB⟩ := hrel
      by_cases hks : k < n
      · obtain ⟨b, off, x, rfl, hb, hx, c0⟩ := Wds.at (h.later hB) hks
        obtain ⟨b', off', y, rfl, hb', hy, c0'⟩ := Wds.at (h'.later hB) hks
        have hk1 : Hid (k < ws.length) := by show k < _; rw [hl1.out]; exact hks
        have hk2 : Hid (k < vs.length) := by show k < _; rw [hl2.out]; exact hks
        have hx' : Hid (ws[k]'hk1.out = x) := by show _ = _; rw [← hx.out, List.getD_eq_getElem?_getD, List.getElem?_eq_getElem hk1.out]; rfl
        have hy' : Hid (vs[k]'hk2.out = y) := by show _ = _; rw [← hy.out, List.getD_eq_getElem?_getD, List.getElem?_eq_getElem hk2.out]; rfl
        by_cases hxy : x = y
        · have hq : Hid (ws.take (k + 1) = vs.take (k + 1)) := by show _ = _; rw [List.take_succ_eq_append_getElem hk1.out, List.take_succ_eq_append_getElem hk2.out, hp.out, hx'.out, hy'.out, hxy]
          have hb1 : (x == y) = true := by simpa using hxy
          clear hxy
          go_wp2
          go_quiet (fail)
          go_wp2
          go_roundw
          case rel => exact ⟨k + 1, by omega, by simp, hq, hB.trans ((below_drewN wr _).mono hB.size)⟩
          case measure => simp [intOf]; omega
        · have hr : Hid (decide (ws = vs) = false) := decide_eq_false (fun e => hxy (by rw [← hx'.out, ← hy'.out]; simp only [e]))
          have hb1 : (x == y) = false := by simpa using hxy
          go_wp2
          go_quiet (fail)
          go_wp2
          go_ret
          exact ⟨by rw [hr.out]; rfl, hB.trans ((below_drewN wr _).mono hB.size)⟩
      · obtain rfl : k = n := by omega
        have hr : Hid (decide (ws = vs) = true) := decide_eq_true (by have h3 := hp.out; rw [List.take_of_length_le (by rw [hl1.out]; exact Nat.le_refl _), List.take_of_length_le (by rw [hl2.out]; exact Nat.le_refl _)] at h3; exact h3)
        go_wp2
        go_ret
        exact ⟨by rw [hr.out]; rfl, hB⟩
  · have hr : Hid (decide (ws = vs) = false) := decide_eq_false (fun e => hk (by rw [← h.1, ← h'.1, e]))
    go_wp2
    go_ret
    exact ⟨by rw [hr.out]; rfl, Below.refl _ _⟩
theorem put_ex1 : putW [⟨⟨#[97]⟩, 0, 0, 0, 0, 0, ⟨#[]⟩⟩, ⟨⟨#[]⟩, 18, 0, 0, 0, 0, ⟨#[97]⟩⟩] = [18446744069414584338] ∧ putK [⟨⟨#[97]⟩, 0, 0, 0, 0, 0, ⟨#[]⟩⟩, ⟨⟨#[]⟩, 18, 0, 0, 0, 0, ⟨#[97]⟩⟩] = 0 ∧ putE [⟨⟨#[97]⟩, 0, 0, 0, 0, 0, ⟨#[]⟩⟩, ⟨⟨#[]⟩, 18, 0, 0, 0, 0, ⟨#[97]⟩⟩] = 0 := by decide +kernel
theorem put_ex2 : putW [⟨⟨#[]⟩, 18, 0, 0, 0, 0, ⟨#[98]⟩⟩] = [] ∧ putK [⟨⟨#[]⟩, 18, 0, 0, 0, 0, ⟨#[98]⟩⟩] = 0 ∧ putE [⟨⟨#[]⟩, 18, 0, 0, 0, 0, ⟨#[98]⟩⟩] = 1 := by decide +kernel
theorem read_ex : rdW ⟨#[97, 58]⟩ = [⟨⟨#[97]⟩, 0, 0, 0, 0, 0, ⟨#[]⟩⟩] ∧ rdK ⟨#[97, 58]⟩ = 0 ∧ rdE ⟨#[97, 58]⟩ = 0 := by
  have hT : lns ⟨#[97, 58]⟩ = [⟨#[97, 58]⟩] := by decide +kernel
  have hl : lkl ⟨#[97, 58]⟩ = ⟨⟨#[97]⟩, 0, 0, 0, 0, 0, ⟨#[]⟩⟩ := by
    unfold lkl
    rw [if_pos (by decide +kernel)]
    rw [show tS ⟨#[97, 58]⟩ ⟨#[58]⟩ = ⟨#[97]⟩ by decide +kernel]
  have ht : txtT [⟨#[97, 58]⟩] 0 = ⟨#[97, 58]⟩ := by decide +kernel
  have hn : neN [⟨#[97, 58]⟩] = 1 := by decide +kernel
  have hx : xT [⟨#[97, 58]⟩] 0 = ⟨⟨#[97]⟩, 0, 0, 0, 0, 0, ⟨#[]⟩⟩ := by unfold xT; rw [ht, hl]
  have ho : okT [⟨#[97, 58]⟩] 0 = true := by
    unfold okT
    rw [hx, ht]
    refine decide_eq_true ?_
    unfold lineT
    rw [if_pos (by decide +kernel)]
    decide +kernel
  have h := rd_ok (s := ⟨#[97, 58]⟩) (by
    rw [hT, hn]
    intro j hj
    have : j = 0 := by simpa using hj
    subst this
    exact ho)
  rw [hT, hn] at h
  refine ⟨?_, h.2⟩
  rw [h.1]
  show [xT [⟨#[97, 58]⟩] 0] = _
  rw [hx]
end Go.Proofs.YtagljcgfmdahhaaGreatDoor
